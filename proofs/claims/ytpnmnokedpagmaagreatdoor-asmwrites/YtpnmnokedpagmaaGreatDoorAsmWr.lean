/-
  What words are spelt as, as plain functions over lists of bytes; what is spelt so is read as it was. Nothing of the program is named here but the table of instructions (IsaMath).
-/
import Derived.Test.YtpnmnokedpagmaaGreatDoorAsmPl
namespace Go.Proofs.YtpnmnokedpagmaaGreatDoor
set_option linter.unusedVariables false
set_option linter.unusedSimpArgs false

/-! ### numbers' digits -/
theorem dd_small {n : Nat} (h : n < 10) : Lib.decDigits n = [UInt8.ofNat (48 + n)] := by unfold Lib.decDigits; rw [dif_pos h]
theorem dd_big {n : Nat} (h : ¬ n < 10) : Lib.decDigits n = Lib.decDigits (n / 10) ++ [UInt8.ofNat (48 + n % 10)] := by conv => lhs; unfold Lib.decDigits; rw [dif_neg h]
theorem dig_nat (k : Nat) (h : k < 10) : (UInt8.ofNat (48 + k)).toNat = 48 + k := by simp; omega
theorem dd_digits : ∀ (n : Nat), ∀ c ∈ Lib.decDigits n, digB c = true := by
  intro n
  induction n using Nat.strongRecOn with
  | _ n ih =>
    intro c hc
    by_cases h : n < 10
    · rw [dd_small h] at hc
      simp only [List.mem_singleton] at hc
      subst hc
      unfold digB
      rw [dig_nat n h]
      simp; omega
    · rw [dd_big h] at hc
      rcases List.mem_append.1 hc with hc | hc
      · exact ih (n / 10) (by omega) c hc
      · simp only [List.mem_singleton] at hc
        subst hc
        unfold digB
        rw [dig_nat _ (by omega)]
        simp; omega
theorem dd_val : ∀ (n : Nat), digVal (Lib.decDigits n) 0 = n := by
  intro n
  induction n using Nat.strongRecOn with
  | _ n ih =>
    by_cases h : n < 10
    · rw [dd_small h]
      simp only [digVal, List.foldl_cons, List.foldl_nil]
      rw [dig_nat n h]; omega
    · rw [dd_big h, digVal_snoc, ih (n / 10) (by omega), dig_nat _ (by omega)]; omega
theorem dd_ne (n : Nat) : Lib.decDigits n ≠ [] := by
  by_cases h : n < 10
  · rw [dd_small h]; simp
  · rw [dd_big h]; simp
/-- The first digit is no nought, but of nought itself. -/
theorem dd_head : ∀ (n : Nat), 0 < n → (Lib.decDigits n).head? ≠ some 48 := by
  intro n
  induction n using Nat.strongRecOn with
  | _ n ih =>
    intro h0
    by_cases h : n < 10
    · rw [dd_small h]
      simp only [List.head?_cons, ne_eq, Option.some.injEq]
      intro e
      have := congrArg UInt8.toNat e
      rw [dig_nat n h] at this
      simp at this
      omega
    · rw [dd_big h]
      have h1 := ih (n / 10) (by omega) (by omega)
      cases e : Lib.decDigits (n / 10) with
      | nil => exact absurd e (dd_ne _)
      | cons c t =>
        rw [e] at h1
        simpa using h1
theorem dd_zero : Lib.decDigits 0 = [48] := by rw [dd_small (by omega)]; rfl
theorem dig_not {c : UInt8} (h : digB c = true) : c ≠ 45 := by
  intro e
  subst e
  revert h
  decide
theorem strip_dd (n : Nat) : stripM (Lib.decDigits n) = Lib.decDigits n := by
  cases e : Lib.decDigits n with
  | nil => exact absurd e (dd_ne n)
  | cons c t =>
    have hc : digB c = true := dd_digits n c (by rw [e]; simp)
    rw [strip_cons, if_neg (dig_not hc)]
theorem strip_neg (n : Nat) : stripM (45 :: Lib.decDigits n) = Lib.decDigits n := by rw [strip_cons, if_pos rfl]
theorem all_dd (n : Nat) : (Lib.decDigits n).all (fun c => decide (48 ≤ c.toNat) && decide (c.toNat ≤ 57)) = true := List.all_eq_true.2 fun c hc => dd_digits n c hc
theorem isNum_of (p : Bs) (n : Nat) (hs : stripM p = Lib.decDigits n) (h0 : n = 0 → p = [48]) : isNum p = true := by
  unfold isNum
  have hs' : Lib.trimPrefix p [45] = Lib.decDigits n := hs
  simp only [hs']
  cases e : Lib.decDigits n with
  | nil => exact absurd e (dd_ne n)
  | cons c t =>
    simp only []
    by_cases hc : c = 48
    · rw [if_pos hc]
      have : n = 0 := by
        rcases Nat.eq_zero_or_pos n with h | h
        · exact h
        · exact absurd (by rw [e, hc]; rfl) (dd_head n h)
      simp [h0 this]
    · rw [if_neg hc, ← e]
      exact all_dd n
theorem isNum_dd (n : Nat) : isNum (Lib.decDigits n) = true := isNum_of _ n (strip_dd n) (fun h => by rw [h]; exact dd_zero)
theorem sval_dd (n : Nat) : sval (Lib.decDigits n) = (n : Int) := by
  unfold sval
  rw [strip_dd, if_neg (by omega), dd_val]
theorem isNum_itoa (i : Int) : isNum (Lib.itoa i) = true := by
  unfold Lib.itoa
  split
  · exact isNum_of _ _ (strip_neg _) (fun h => by omega)
  · exact isNum_dd _
theorem sval_itoa (i : Int) : sval (Lib.itoa i) = i := by
  unfold Lib.itoa
  split
  · unfold sval
    rw [strip_neg, if_pos (by simp), dd_val]
    omega
  · rw [sval_dd]; omega
theorem dd_inj {m n : Nat} (h : Lib.decDigits m = Lib.decDigits n) : m = n := by rw [← dd_val m, h, dd_val]
theorem regNum_name (n : Nat) (h : n < 16) : regNum (regName n) = some n := by
  refine regNum_hit _ n h (fun j hj e => ?_) rfl
  have := dd_inj (List.cons.inj e).2
  omega

/-! ### what a word is spelt as -/
def decB (x : Int) : Bool := vldB (dopI x) (daI x) (dbI x) (diI x)
def optR (has : Bool) (n : Int) : List Bs := if has then [regName n.toNat] else []
def optI (has : Bool) (i : Int) : List Bs := if has then [Lib.itoa i] else []
def spell (x : Int) : List Bs :=
  if decB x then opNames.getD (dopI x).toNat [] :: (optR (faB (dopI x)) (daI x) ++ (optR (fbB (dopI x)) (dbI x) ++ optI (fiB (dopI x)) (diI x)))
  else [[119, 111, 114, 100], Lib.decDigits x.toNat]
/-- Parts with a blank between any two. -/
def joinB : List Bs → Bs
  | [] => []
  | [p] => p
  | p :: q :: r => p ++ 32 :: joinB (q :: r)
def lineW (x : Int) : Bs := joinB (spell x)
def wrOf (l : List Int) : Bs := l.flatMap fun x => lineW x ++ [10]

/-- A byte that may stand in a part: no blank, no newline, no ; -/
def okC (c : UInt8) : Bool := !blankB c && !(c == 10) && !(c == 59)
def okP (p : Bs) : Prop := p ≠ [] ∧ ∀ c ∈ p, okC c = true
theorem ok_dig {c : UInt8} (h : digB c = true) : okC c = true := by
  unfold digB at h
  simp only [Bool.and_eq_true, decide_eq_true_eq] at h
  have hn : ∀ k : UInt8, k.toNat < 48 ∨ 57 < k.toNat → (c == k) = false := fun k hk => by
    simp only [beq_eq_false_iff_ne, ne_eq]
    intro e
    subst e
    omega
  unfold okC blankB
  rw [hn 32 (by decide), hn 9 (by decide), hn 13 (by decide), hn 11 (by decide), hn 12 (by decide), hn 10 (by decide), hn 59 (by decide)]
  rfl
theorem okP_dd (n : Nat) : okP (Lib.decDigits n) := ⟨dd_ne n, fun c hc => ok_dig (dd_digits n c hc)⟩
theorem okP_reg (n : Nat) : okP (regName n) := ⟨by simp [regName], fun c hc => by
  rcases List.mem_cons.1 hc with rfl | hc
  · decide
  · exact (okP_dd n).2 c hc⟩
theorem okP_itoa (i : Int) : okP (Lib.itoa i) := by
  unfold Lib.itoa
  split
  · refine ⟨by simp, fun c hc => ?_⟩
    rcases List.mem_cons.1 hc with rfl | hc
    · decide
    · exact (okP_dd _).2 c hc
  · exact okP_dd _
theorem okP_op : ∀ k, k < 25 → k ≠ 0 → okP (opNames.getD k []) := by
  have h : ∀ k, k < 25 → k ≠ 0 → (opNames.getD k []) ≠ [] ∧ (opNames.getD k []).all okC = true := by decide
  intro k h1 h2
  obtain ⟨h3, h4⟩ := h k h1 h2
  exact ⟨h3, List.all_eq_true.1 h4⟩
theorem dec_bd {x : Int} (h : decB x = true) : (1 ≤ dopI x ∧ dopI x ≤ 24) ∧ (0 ≤ daI x ∧ daI x ≤ 15) ∧ (0 ≤ dbI x ∧ dbI x ≤ 15) ∧ (-32768 ≤ diI x ∧ diI x ≤ 32767) := vld_bounds h
theorem spell_ok (x : Int) : ∀ p ∈ spell x, okP p := by
  intro p hp
  unfold spell at hp
  split at hp
  · rename_i hd
    obtain ⟨⟨h1, h2⟩, -⟩ := dec_bd hd
    rcases List.mem_cons.1 hp with rfl | hp
    · exact okP_op _ (by omega) (by omega)
    · rcases List.mem_append.1 hp with hp | hp
      · unfold optR at hp
        split at hp
        · simp only [List.mem_singleton] at hp; subst hp; exact okP_reg _
        · cases hp
      · rcases List.mem_append.1 hp with hp | hp
        · unfold optR at hp
          split at hp
          · simp only [List.mem_singleton] at hp; subst hp; exact okP_reg _
          · cases hp
        · unfold optI at hp
          split at hp
          · simp only [List.mem_singleton] at hp; subst hp; exact okP_itoa _
          · cases hp
  · rcases List.mem_cons.1 hp with rfl | hp
    · exact ⟨by simp, by decide⟩
    · simp only [List.mem_singleton] at hp; subst hp; exact okP_dd _
theorem spell_ne (x : Int) : spell x ≠ [] := by
  unfold spell
  split <;> simp

/-! ### what is spelt is parted as it was -/
theorem ff_word : ∀ (p cur t : Bs), (∀ c ∈ p, okC c = true) → fieldsFrom cur (p ++ t) = fieldsFrom (cur ++ p) t
  | [], cur, t, _ => by simp
  | c :: p, cur, t, h => by
    have hc : blankB c = false := by have := h c (by simp); unfold okC at this; simp at this; exact this.1.1
    rw [List.cons_append, fieldsFrom, if_neg (by rw [hc]; simp), ff_word p (cur ++ [c]) t (fun d hd => h d (by simp [hd]))]
    simp
theorem ff_join : ∀ (ps : List Bs), (∀ p ∈ ps, okP p) → fieldsFrom [] (joinB ps) = ps
  | [], _ => by simp [joinB, fieldsFrom]
  | [p], h => by
    obtain ⟨h1, h2⟩ := h p (by simp)
    have := ff_word p [] [] h2
    rw [List.append_nil, List.nil_append] at this
    rw [joinB, this, fieldsFrom, if_neg h1]
  | p :: q :: r, h => by
    obtain ⟨h1, h2⟩ := h p (by simp)
    rw [joinB, ff_word p [] _ h2, List.nil_append, fieldsFrom, if_pos (by decide), if_neg h1, ff_join (q :: r) (fun x hx => h x (by simp [hx]))]
theorem join_mem : ∀ (ps : List Bs), (∀ p ∈ ps, okP p) → ∀ c ∈ joinB ps, c = 32 ∨ okC c = true
  | [], _, c, hc => by cases hc
  | [p], h, c, hc => .inr ((h p (by simp)).2 c hc)
  | p :: q :: r, h, c, hc => by
    rw [joinB] at hc
    rcases List.mem_append.1 hc with hc | hc
    · exact .inr ((h p (by simp)).2 c hc)
    · rcases List.mem_cons.1 hc with hc | hc
      · exact .inl hc
      · exact join_mem (q :: r) (fun x hx => h x (by simp [hx])) c hc
theorem lineW_mem (x : Int) : ∀ c ∈ lineW x, c ≠ 10 ∧ c ≠ 59 := by
  intro c hc
  rcases join_mem (spell x) (spell_ok x) c hc with rfl | h
  · decide
  · unfold okC at h
    simp at h
    exact ⟨h.1.2, h.2⟩
theorem takeWhile_all {f : UInt8 → Bool} : ∀ (l : Bs), (∀ c ∈ l, f c = true) → l.takeWhile f = l
  | [], _ => rfl
  | c :: t, h => by rw [List.takeWhile_cons, if_pos (h c (by simp)), takeWhile_all t (fun d hd => h d (by simp [hd]))]
theorem said_line (x : Int) : saidOf (lineW x) = lineW x := takeWhile_all _ fun c hc => by simp [(lineW_mem x c hc).2]
theorem parts_line (x : Int) : partsOf (lineW x) = spell x := by
  unfold partsOf
  rw [said_line]
  exact ff_join _ (spell_ok x)
/-- The first part ends with no : -/
theorem op_colon : ∀ k, k < 25 → Lib.hasSuffix (opNames.getD k []) [58] = false := by decide
theorem lineOf_line (x : Int) : lineOf (lineW x) = (none, spell x) := by
  unfold lineOf
  rw [parts_line]
  by_cases hd : decB x = true
  · obtain ⟨⟨h1, h2⟩, -⟩ := dec_bd hd
    unfold spell
    rw [if_pos hd]
    simp only [op_colon _ (show (dopI x).toNat < 25 by omega), Bool.false_eq_true, if_false]
  · unfold spell
    rw [if_neg hd]
    simp only [show Lib.hasSuffix [119, 111, 114, 100] [58] = false by decide, Bool.false_eq_true, if_false]
theorem lineOf_nil : lineOf [] = (none, []) := by
  have : partsOf [] = [] := by simp [partsOf, saidOf, fieldsFrom]
  unfold lineOf
  rw [this]
theorem linesOf_put : ∀ (p t : Bs), (∀ c ∈ p, c ≠ 10) → linesOf (p ++ 10 :: t) = p :: linesOf t
  | [], t, _ => by simp [linesOf]
  | c :: p, t, h => linesOf_cons c _ (h c (by simp)) (linesOf_put p t (fun d hd => h d (by simp [hd])))
theorem lines_wr : ∀ (l : List Int), linesOf (wrOf l) = l.map lineW ++ [[]]
  | [] => by simp [wrOf, linesOf]
  | x :: l => by
    have e : wrOf (x :: l) = lineW x ++ 10 :: wrOf l := by simp [wrOf]
    rw [e, linesOf_put _ _ (fun c hc => (lineW_mem x c hc).1), lines_wr l]
    simp

/-! ### what is spelt is read as it was -/
theorem op_word : ∀ k, k < 25 → opNames.getD k [] ≠ [119, 111, 114, 100] := by decide
theorem op_back : ∀ k, k < 25 → opNum (opNames.getD k []) = k := by decide
theorem takeR_opt (has : Bool) (n : Int) (r : List Bs) (h0 : 0 ≤ n) (h1 : n ≤ 15) (hz : has = false → n = 0) : takeR has (optR has n ++ r) = some (n, r) := by
  cases has with
  | true =>
    simp only [takeR, optR, if_true, List.singleton_append]
    rw [regNum_name _ (by omega)]
    simp only [Option.some.injEq, Prod.mk.injEq, and_true]
    omega
  | false => simp [takeR, optR, hz rfl]
theorem takeI_opt (has : Bool) (L : Labs) (here op : Nat) (i : Int) (h0 : -32768 ≤ i) (h1 : i ≤ 32767) (hz : has = false → i = 0) : takeI has L here op (optI has i) = some i := by
  cases has with
  | true =>
    simp only [takeI, optI, if_true]
    rw [immOf_num _ _ _ _ (isNum_itoa i), sval_itoa, if_pos ⟨h0, h1⟩]
  | false => simp [takeI, optI, hz rfl]
theorem may_zero {has : Bool} {n lo hi : Int} (h : mayB has n lo hi = true) (hf : has = false) : n = 0 := by
  subst hf
  simpa [mayB] using h
theorem wordOf_ins (L : Labs) (here : Nat) (p : Bs) (ps : List Bs) (h : p ≠ [119, 111, 114, 100]) : wordOf L here (p :: ps) = insOf L here p ps := by
  show (if p = [119, 111, 114, 100] then _ else insOf L here p ps) = _
  exact if_neg h
theorem word_spell (L : Labs) (here : Nat) (x : Int) (h0 : 0 ≤ x) (h1 : x ≤ 4294967295) : wordOf L here (spell x) = some x := by
  unfold spell
  split
  · rename_i hd
    obtain ⟨⟨b1, b2⟩, ⟨b3, b4⟩, ⟨b5, b6⟩, ⟨b7, b8⟩⟩ := dec_bd hd
    have hop : ((dopI x).toNat : Int) = dopI x := by omega
    have hv : vldB (dopI x) (daI x) (dbI x) (diI x) = true := hd
    have hv' := hv
    unfold vldB at hv'
    simp only [Bool.and_eq_true] at hv'
    obtain ⟨⟨⟨-, m1⟩, m2⟩, m3⟩ := hv'
    rw [wordOf_ins _ _ _ _ (op_word _ (by omega))]
    unfold insOf
    simp only []
    rw [op_back _ (by omega)]
    have hlen : (optR (faB (dopI x)) (daI x) ++ (optR (fbB (dopI x)) (dbI x) ++ optI (fiB (dopI x)) (diI x))).length = cntB (dopI x).toNat := by
      unfold cntB optR optI
      rw [hop]
      cases faB (dopI x) <;> cases fbB (dopI x) <;> cases fiB (dopI x) <;> rfl
    rw [if_neg (by simp only [ne_eq, Decidable.not_not]; exact hlen)]
    unfold argsOf
    rw [hop, takeR_opt _ _ _ b3 b4 (may_zero m1)]
    simp only []
    rw [takeR_opt _ _ _ b5 b6 (may_zero m2)]
    simp only []
    rw [takeI_opt _ _ _ _ _ b7 b8 (may_zero m3)]
    simp only []
    rw [if_pos hv, enc_dec x h0 h1]
  · rw [wordOf_num _ _ _ (isNum_dd _), sval_dd, if_pos (by omega)]
    congr 1
    omega
theorem find_lines : ∀ (l : List Int) (n k : Nat), findFrom ([], n) k (l.map lineW ++ [[]]) = .inl []
  | [], n, k => by
    simp only [List.map_nil, List.nil_append, findFrom, labStep, lineOf_nil]
  | x :: l, n, k => by
    rw [List.map_cons, List.cons_append, findFrom]
    simp only [labStep, lineOf_line]
    exact find_lines l _ _
theorem spell_len (x : Int) : ¬ (spell x).length = 0 := fun h => spell_ne x (List.eq_nil_of_length_eq_zero h)
theorem rd_lines : ∀ (l : List Int) (ws : List Int) (k : Nat), (∀ x ∈ l, 0 ≤ x ∧ x ≤ 4294967295) → ws.length + l.length ≤ 512 → rdFrom [] ws k (l.map lineW ++ [[]]) = (ws ++ l, 0, 0)
  | [], ws, k, _, _ => by
    simp only [List.map_nil, List.nil_append, rdFrom, rdStep, lineOf_nil, List.length_nil, if_true, List.append_nil]
  | x :: l, ws, k, hb, hl => by
    obtain ⟨h0, h1⟩ := hb x (by simp)
    have hs : rdStep [] ws (lineW x) = .ok (ws ++ [x]) := by
      unfold rdStep
      rw [lineOf_line]
      simp only []
      rw [if_neg (spell_len x), word_spell _ _ x h0 h1]
      simp only []
      rw [if_neg (by simp at hl; omega)]
    rw [List.map_cons, List.cons_append, rdFrom, hs]
    simp only []
    rw [rd_lines l (ws ++ [x]) (k + 1) (fun y hy => hb y (by simp [hy])) (by simp at hl ⊢; omega)]
    simp
theorem rd_wr (l : List Int) (hb : ∀ x ∈ l, 0 ≤ x ∧ x ≤ 4294967295) (hl : l.length ≤ 512) : rdOf (wrOf l) = (l, 0, 0) := by
  unfold rdOf
  rw [lines_wr, find_lines]
  simp only []
  rw [rd_lines l [] 0 hb (by simpa using hl)]
  simp
end Go.Proofs.YtpnmnokedpagmaaGreatDoor
