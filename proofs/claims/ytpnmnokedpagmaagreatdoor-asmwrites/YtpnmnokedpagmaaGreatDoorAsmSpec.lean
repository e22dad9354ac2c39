/-
  What a program's text says, as plain functions over lists of bytes: lines, parts, labels, words. Nothing of the program is named here but the table of instructions (IsaMath).
-/
import Derived.Lib.Strings
import Derived.Lib.IndexLaws
import Derived.Lib.ParseIntB
import Derived.Lib.FieldsP
import Derived.Lib.TrimUEq
import Derived.Lib.ItoaNum
import Derived.Test.YtpnmnokedpagmaaGreatDoorIsaMath
import Derived.Test.YtpnmnokedpagmaaGreatDoorWordMath
namespace Go.Proofs.YtpnmnokedpagmaaGreatDoor
set_option linter.unusedVariables false
set_option linter.unusedSimpArgs false

abbrev Bs := List UInt8
def BA (l : Bs) : ByteArray := ⟨l.toArray⟩
theorem BA_data (l : Bs) : (BA l).data.toList = l := rfl
theorem BA_size (l : Bs) : (BA l).size = l.length := rfl
theorem BA_of (s : ByteArray) : BA s.data.toList = s := by cases s; rfl
theorem BA_inj {a b : Bs} (h : BA a = BA b) : a = b := by have := congrArg (fun s : ByteArray => s.data.toList) h; exact this
theorem BA_extract (l : Bs) (i j : Nat) : (BA l).extract i j = BA ((l.drop i).take (j - i)) := by rw [Lib.extract_eq]; rfl

def AsciiL (l : Bs) : Prop := ∀ c ∈ l, c.toNat < 128

/-! ### lines -/
def linesOf : Bs → List Bs
  | [] => [[]]
  | c :: t => if c = 10 then [] :: linesOf t else
    match linesOf t with
    | [] => [[c]]
    | h :: r => (c :: h) :: r
theorem linesOf_ne (l : Bs) : linesOf l ≠ [] := by
  cases l with
  | nil => simp [linesOf]
  | cons c t => unfold linesOf; split; · simp
                split <;> simp
theorem idx_ge : ∀ (l : Bs) (c : UInt8), -1 ≤ Lib.indexByte l c
  | [], _ => by simp [Lib.indexByte]
  | b :: l, c => by
    have := idx_ge l c
    unfold Lib.indexByte
    split
    · omega
    · split <;> omega
theorem linesOf_cons (c : UInt8) (t : Bs) (hc : ¬ c = 10) {h : Bs} {r : List Bs} (e : linesOf t = h :: r) : linesOf (c :: t) = (c :: h) :: r := by
  rw [linesOf, if_neg hc, e]
theorem linesOf_none : ∀ (l : Bs), Lib.indexByte l 10 = -1 → linesOf l = [l]
  | [], _ => rfl
  | c :: t, h => by
    have h0 := Lib.indexByte_none h 0
    have hc : c ≠ 10 := fun e => h0 (by simp [e])
    have ht : Lib.indexByte t 10 = -1 := by
      by_cases he : Lib.indexByte t 10 = -1
      · exact he
      · exfalso
        have := idx_ge t 10
        unfold Lib.indexByte at h
        simp [hc] at h
        have := h he
        omega
    exact linesOf_cons c t hc (linesOf_none t ht)
theorem linesOf_some : ∀ (l : Bs) (i : Nat), Lib.indexByte l 10 = i → linesOf l = l.take i :: linesOf (l.drop (i + 1))
  | [], i, h => by simp [Lib.indexByte] at h
  | c :: t, i, h => by
    by_cases hc : c = 10
    · subst hc
      have : i = 0 := by
        unfold Lib.indexByte at h
        simp at h
        first | omega | exact h.symm | exact h
      subst this
      simp [linesOf]
    · unfold Lib.indexByte at h
      simp [hc] at h
      split at h
      · omega
      · rename_i hn
        obtain ⟨k, hk⟩ : ∃ k : Nat, i = k + 1 := ⟨i - 1, by omega⟩
        subst hk
        have := linesOf_some t k (by omega)
        exact linesOf_cons c t hc this

/-! ### parts -/
def saidOf (l : Bs) : Bs := l.takeWhile (fun c => c != 59)
def blankB (c : UInt8) : Bool := c == 32 || c == 9 || c == 13 || c == 11 || c == 12
def blankN (n : Nat) : Bool := n == 32 || n == 9 || n == 13 || n == 11 || n == 12
theorem blank_eq (c : UInt8) : blankN c.toNat = blankB c := by
  unfold blankN blankB
  have h : ∀ k : UInt8, (c.toNat == k.toNat) = (c == k) := fun k => by
    rw [Bool.eq_iff_iff]; simp [UInt8.toNat_inj]
  have := h 32; have := h 9; have := h 13; have := h 11; have := h 12
  simp_all
/-- The pieces: cur is what was begun. -/
def fieldsFrom : Bs → Bs → List Bs
  | cur, [] => if cur = [] then [] else [cur]
  | cur, c :: t => if blankB c then (if cur = [] then fieldsFrom [] t else cur :: fieldsFrom [] t) else fieldsFrom (cur ++ [c]) t
def partsOf (l : Bs) : List Bs := fieldsFrom [] (saidOf l)
theorem fieldsFrom_ne : ∀ (l cur : Bs), ∀ x ∈ fieldsFrom cur l, x ≠ []
  | [], cur, x, h => by
    unfold fieldsFrom at h
    split at h
    · cases h
    · rename_i hn; simp at h; rw [h]; exact hn
  | c :: t, cur, x, h => by
    unfold fieldsFrom at h
    split at h
    · split at h
      · exact fieldsFrom_ne t [] x h
      · rename_i hn
        rcases List.mem_cons.1 h with e | h
        · rw [e]; exact hn
        · exact fieldsFrom_ne t [] x h
    · exact fieldsFrom_ne t _ x h
theorem partsOf_ne (l : Bs) : ∀ x ∈ partsOf l, x ≠ [] := fieldsFrom_ne _ _
theorem fieldsFrom_mem : ∀ (l cur : Bs), ∀ x ∈ fieldsFrom cur l, ∀ c ∈ x, c ∈ cur ∨ c ∈ l
  | [], cur, x, h, c, hc => by
    unfold fieldsFrom at h
    split at h
    · cases h
    · simp at h; subst h; exact .inl hc
  | d :: t, cur, x, h, c, hc => by
    unfold fieldsFrom at h
    split at h
    · split at h
      · rcases fieldsFrom_mem t [] x h c hc with h | h
        · cases h
        · exact .inr (List.mem_cons_of_mem _ h)
      · rcases List.mem_cons.1 h with e | h
        · subst e; exact .inl hc
        · rcases fieldsFrom_mem t [] x h c hc with h | h
          · cases h
          · exact .inr (List.mem_cons_of_mem _ h)
    · rcases fieldsFrom_mem t _ x h c hc with h | h
      · rcases List.mem_append.1 h with h | h
        · exact .inl h
        · simp at h; subst h; exact .inr (List.mem_cons_self ..)
      · exact .inr (List.mem_cons_of_mem _ h)
theorem fieldsFrom_count : ∀ (l cur : Bs), (fieldsFrom cur l).length ≤ l.length + (if cur = [] then 0 else 1)
  | [], cur => by unfold fieldsFrom; split <;> simp
  | c :: t, cur => by
    have h0 := fieldsFrom_count t []
    have h1 := fieldsFrom_count t (cur ++ [c])
    simp at h0 h1
    unfold fieldsFrom
    split
    · split <;> simp <;> omega
    · simp; split <;> omega

theorem decode_ascii (s : ByteArray) (pos : Nat) (h : pos < s.data.toList.length) (ha : AsciiL s.data.toList) : Utf8.decode s pos = ((s.data.toList[pos]).toNat, 1) := by
  have hb : (s.data.toList[pos]).toNat < 128 := ha _ (List.getElem_mem h)
  rw [Lib.decode_N, show s.data.toList.getD pos 0 = s.data.toList[pos] by simp [List.getD, List.getElem?_eq_getElem h]]
  exact Lib.decodeN_ascii _ _ _ _ _ hb

theorem spans_fields (s : ByteArray) (ha : AsciiL s.data.toList) : ∀ (f pos : Nat) (st : Option Nat) (acc : List (Nat × Nat)) (cur : Bs), s.size ≤ pos + f → pos ≤ s.size →
    (match st with | none => cur = [] | some a => a < pos ∧ cur = (s.data.toList.drop a).take (pos - a)) →
    (Lib.closeSpans s (Lib.spansFromP blankN s f pos st acc)).map (fun x => s.extract x.1 x.2) = acc.map (fun x => s.extract x.1 x.2) ++ (fieldsFrom cur (s.data.toList.drop pos)).map BA := by
  have hsz := Lib.size_eq s
  have hx : ∀ a b, s.extract a b = BA ((s.data.toList.drop a).take (b - a)) := fun a b => Lib.extract_eq s a b
  -- what is done at the end
  have fin : ∀ (pos : Nat) (st : Option Nat) (acc : List (Nat × Nat)) (cur : Bs), pos = s.size →
      (match st with | none => cur = [] | some a => a < pos ∧ cur = (s.data.toList.drop a).take (pos - a)) →
      (Lib.closeSpans s (acc, st)).map (fun x => s.extract x.1 x.2) = acc.map (fun x => s.extract x.1 x.2) ++ (fieldsFrom cur (s.data.toList.drop pos)).map BA := by
    intro pos st acc cur hp hst
    rw [List.drop_eq_nil_of_le (by omega)]
    cases st with
    | none => simp at hst; subst hst; simp [Lib.closeSpans, fieldsFrom]
    | some a =>
      obtain ⟨h1, h2⟩ := hst
      have hne : cur ≠ [] := by
        rw [h2]; intro e
        have := congrArg List.length e
        simp at this; omega
      unfold fieldsFrom
      rw [if_neg hne]
      simp [Lib.closeSpans, hx, h2, hp]
  intro f
  induction f with
  | zero =>
    intro pos st acc cur h1 h2 hst
    exact fin pos st acc cur (by omega) hst
  | succ f ih =>
    intro pos st acc cur h1 h2 hst
    by_cases hlt : pos < s.size
    · have hl : pos < s.data.toList.length := by omega
      have hd := decode_ascii s pos hl ha
      have hdrop : s.data.toList.drop pos = s.data.toList[pos] :: s.data.toList.drop (pos + 1) := List.drop_eq_getElem_cons hl
      unfold Lib.spansFromP
      rw [if_pos hlt, hd, hdrop]
      simp only [blank_eq]
      unfold fieldsFrom
      by_cases hb : blankB s.data.toList[pos] = true
      · rw [if_pos hb, if_pos hb]
        cases st with
        | none =>
          simp at hst; subst hst
          rw [if_pos rfl]
          exact ih (pos + 1) none acc [] (by omega) (by omega) rfl
        | some a =>
          obtain ⟨h3, h4⟩ := hst
          have hne : cur ≠ [] := by
            rw [h4]; intro e
            have := congrArg List.length e
            simp at this; omega
          rw [if_neg hne]
          have := ih (pos + 1) none (acc ++ [(a, pos)]) [] (by omega) (by omega) rfl
          refine this.trans ?_
          simp only [List.map_append, List.map_cons, List.map_nil, hx, h4, List.append_assoc, List.cons_append, List.nil_append]
      · rw [if_neg hb, if_neg hb]
        cases st with
        | none =>
          simp at hst; subst hst
          exact ih (pos + 1) (some pos) acc _ (by omega) (by omega) ⟨by omega, by rw [hdrop, show pos + 1 - pos = 1 by omega]; rfl⟩
        | some a =>
          obtain ⟨h3, h4⟩ := hst
          refine ih (pos + 1) (some a) acc _ (by omega) (by omega) ⟨by omega, ?_⟩
          rw [h4, show pos + 1 - a = (pos - a) + 1 by omega, List.take_add_one, List.getElem?_drop, show a + (pos - a) = pos by omega, List.getElem?_eq_getElem hl]
          rfl
    · rw [Lib.spansFromP_end _ _ _ _ _ _ hlt]
      exact fin pos st acc cur (by omega) hst
theorem goFields_eq (s : ByteArray) (ha : AsciiL s.data.toList) : Lib.goFieldsP blankN s = (fieldsFrom [] s.data.toList).map BA := by
  unfold Lib.goFieldsP Lib.spansOfP
  rw [spans_fields s ha s.size 0 none [] [] (by omega) (by omega) rfl]
  simp

/-! ### a line: its label, and the parts that are a word's -/
def lineOf (l : Bs) : Option Bs × List Bs :=
  match partsOf l with
  | [] => (none, [])
  | p :: ps => if Lib.hasSuffix p [58] then (some (Lib.trimSuffix p [58]), ps) else (none, p :: ps)

/-! ### labels -/
abbrev Labs := List (Bs × Nat)
def labStep (st : Labs × Nat) (l : Bs) : Option (Labs × Nat) :=
  let n := st.2 + (if (lineOf l).2.length = 0 then 0 else 1)
  match (lineOf l).1 with
  | none => some (st.1, n)
  | some x => if x = [] ∨ (st.1.lookup x).isSome = true then none else some (st.1 ++ [(x, st.2)], n)
/-- Labels of lines: all, or the place (from 0 on) of the first line whose label may not be. -/
def findFrom (st : Labs × Nat) (k : Nat) : List Bs → Labs ⊕ Nat
  | [] => .inl st.1
  | l :: r =>
    match labStep st l with
    | none => .inr k
    | some st' => findFrom st' (k + 1) r
/-- All of these lines are gone through, and this is how it stands. -/
def labsTo (st : Labs × Nat) : List Bs → Option (Labs × Nat)
  | [] => some st
  | l :: r =>
    match labStep st l with
    | none => none
    | some st' => labsTo st' r
theorem labsTo_snoc : ∀ (pre : List Bs) (x : Bs) (st : Labs × Nat), labsTo st (pre ++ [x]) = match labsTo st pre with | none => none | some s => labStep s x
  | [], x, st => by simp only [List.nil_append, labsTo]; cases labStep st x <;> rfl
  | l :: r, x, st => by
    simp only [List.cons_append, labsTo]
    cases labStep st l with
    | none => rfl
    | some s => exact labsTo_snoc r x s
theorem findFrom_all : ∀ (xs : List Bs) (st s : Labs × Nat) (k : Nat), labsTo st xs = some s → findFrom st k xs = .inl s.1
  | [], st, s, k, h => by simp [labsTo] at h; subst h; rfl
  | l :: r, st, s, k, h => by
    rw [labsTo] at h
    rw [findFrom]
    cases e : labStep st l with
    | none => rw [e] at h; cases h
    | some s' => rw [e] at h; exact findFrom_all r _ s _ h
theorem findFrom_stop : ∀ (pre : List Bs) (x : Bs) (rest : List Bs) (st s : Labs × Nat) (k : Nat), labsTo st pre = some s → labStep s x = none → findFrom st k (pre ++ x :: rest) = .inr (k + pre.length)
  | [], x, rest, st, s, k, h, hx => by simp [labsTo] at h; subst h; simp [findFrom, hx]
  | l :: r, x, rest, st, s, k, h, hx => by
    rw [labsTo] at h
    rw [List.cons_append, findFrom]
    cases e : labStep st l with
    | none => rw [e] at h; cases h
    | some s' => rw [e] at h; simp only []; rw [findFrom_stop r x rest _ s _ h hx]; simp; omega

/-! ### words -/
def opNames : List Bs := [[], [115, 101, 116], [104, 105, 103, 104], [109, 111, 118], [97, 100, 100], [115, 117, 98], [109, 117, 108], [100, 105, 118], [97, 110, 100], [111, 114], [120, 111, 114], [115, 104, 108], [115, 104, 114],
  [97, 100, 100, 105], [108, 111, 97, 100], [115, 116, 111, 114, 101], [108, 111, 97, 100, 98], [115, 116, 111, 114, 101, 98], [106, 109, 112], [106, 122], [106, 110, 122], [106, 108, 116], [99, 97, 108, 108], [114, 101, 116], [115, 121, 115]]
def opNum (p : Bs) : Nat := let i := opNames.findIdx (fun n => p == n); if i < 25 then i else 0
def regName (n : Nat) : Bs := 114 :: Lib.decDigits n
def regNum (p : Bs) : Option Nat := (List.range 16).find? (fun n => p == regName n)
def isNum (p : Bs) : Bool :=
  let d := Lib.trimPrefix p [45]
  match d with
  | [] => false
  | c :: _ => if c = 48 then p == [48] else d.all (fun c => decide (48 ≤ c.toNat) && decide (c.toNat ≤ 57))
def jumpB (op : Nat) : Bool := op == 18 || op == 19 || op == 20 || op == 21 || op == 22
def immOf (L : Labs) (here op : Nat) (p : Bs) : Option Int :=
  if isNum p then (match Lib.parseIntB 16 p with | .ok v => some v | _ => none)
  else match L.lookup p with
    | none => none
    | some a => if jumpB op then some ((a : Int) - here) else none
/-- A register's part, if the Op has one; an Imm's part, if it has one. -/
def takeR (has : Bool) (ps : List Bs) : Option (Int × List Bs) :=
  if has then (match ps with | [] => none | p :: r => (match regNum p with | none => none | some n => some ((n : Int), r))) else some (0, ps)
def takeI (has : Bool) (L : Labs) (here op : Nat) (ps : List Bs) : Option Int :=
  if has then (match ps with | [] => none | p :: _ => immOf L here op p) else some 0
/-- The parts behind an Op's name, one by one: the three numbers that they are. -/
def argsOf (L : Labs) (here op : Nat) (ps : List Bs) : Option (Int × Int × Int) :=
  match takeR (faB op) ps with
  | none => none
  | some (a, ps1) =>
    match takeR (fbB op) ps1 with
    | none => none
    | some (b, ps2) =>
      match takeI (fiB op) L here op ps2 with
      | none => none
      | some i => some (a, b, i)
def cntB (op : Nat) : Nat := (if faB op then 1 else 0) + (if fbB op then 1 else 0) + (if fiB op then 1 else 0)
def insOf (L : Labs) (here : Nat) (p : Bs) (ps : List Bs) : Option Int :=
  let op := opNum p
  if ps.length ≠ cntB op then none
  else match argsOf L here op ps with
    | none => none
    | some (a, b, i) => if vldB op a b i then some (encI op a b i) else none
def wordOf (L : Labs) (here : Nat) : List Bs → Option Int
  | [] => none
  | p :: ps =>
    if p = [119, 111, 114, 100] then
      (match ps with
       | [q] => if isNum q then (match Lib.parseUintB 32 q with | .ok u => some (u : Int) | _ => none) else none
       | _ => none)
    else insOf L here p ps

/-! ### the whole -/
def rdStep (L : Labs) (ws : List Int) (l : Bs) : Except Int (List Int) :=
  if (lineOf l).2.length = 0 then .ok ws
  else match wordOf L ws.length (lineOf l).2 with
    | none => .error 19
    | some x => if 512 ≤ ws.length then .error 22 else .ok (ws ++ [x])
def rdFrom (L : Labs) (ws : List Int) (k : Nat) : List Bs → List Int × Nat × Int
  | [] => (ws, 0, 0)
  | l :: r =>
    match rdStep L ws l with
    | .error e => ([], k + 1, e)
    | .ok ws' => rdFrom L ws' (k + 1) r
def rdTo (L : Labs) (ws : List Int) : List Bs → Option (List Int)
  | [] => some ws
  | l :: r =>
    match rdStep L ws l with
    | .error _ => none
    | .ok ws' => rdTo L ws' r
theorem rdTo_snoc (L : Labs) : ∀ (pre : List Bs) (x : Bs) (ws s : List Int) , rdTo L ws pre = some s → rdTo L ws (pre ++ [x]) = match rdStep L s x with | .error _ => none | .ok s' => some s'
  | [], x, ws, s, h => by simp [rdTo] at h; subst h; simp only [List.nil_append, rdTo]
  | l :: r, x, ws, s, h => by
    simp only [List.cons_append, rdTo] at h ⊢
    split at h
    · cases h
    · exact rdTo_snoc L r x _ s h
theorem rdFrom_all (L : Labs) : ∀ (xs : List Bs) (ws s : List Int) (k : Nat), rdTo L ws xs = some s → rdFrom L ws k xs = (s, 0, 0)
  | [], ws, s, k, h => by simp [rdTo] at h; subst h; rfl
  | l :: r, ws, s, k, h => by
    rw [rdTo] at h
    rw [rdFrom]
    cases e : rdStep L ws l with
    | error er => rw [e] at h; cases h
    | ok ws' => rw [e] at h; exact rdFrom_all L r _ s _ h
theorem rdFrom_stop (L : Labs) : ∀ (pre : List Bs) (x : Bs) (rest : List Bs) (ws s : List Int) (k : Nat) (er : Int), rdTo L ws pre = some s → rdStep L s x = .error er → rdFrom L ws k (pre ++ x :: rest) = ([], k + pre.length + 1, er)
  | [], x, rest, ws, s, k, er, h, hx => by simp [rdTo] at h; subst h; simp [rdFrom, hx]
  | l :: r, x, rest, ws, s, k, er, h, hx => by
    rw [rdTo] at h
    rw [List.cons_append, rdFrom]
    cases e : rdStep L ws l with
    | error er' => rw [e] at h; cases h
    | ok ws' => rw [e] at h; simp only []; rw [rdFrom_stop L r x rest _ s _ er h hx]; simp; omega
/-- Read: the words, the line's number, the error. -/
def rdOf (s : Bs) : List Int × Nat × Int :=
  match findFrom ([], 0) 0 (linesOf s) with
  | .inr k => ([], k + 1, 19)
  | .inl L => rdFrom L [] 0 (linesOf s)
end Go.Proofs.YtpnmnokedpagmaaGreatDoor
