/-
  The document's own Read: what it keeps while it goes through the lines.
-/
import Derived.Test.YteacdjakdkdbnaaGreatDoorAsmEq
namespace Go.Proofs.YteacdjakdkdbnaaGreatDoor
open Go.RowKit
set_option linter.unusedVariables false
set_option linter.unusedSimpArgs false
set_option maxRecDepth 20000

/-- The words' parts of lines, each with its line's number. -/
def wl (k : Nat) : List Bs → List (List Bs × Nat)
  | [] => []
  | l :: r => (if (lineOf l).2.length = 0 then [] else [((lineOf l).2, k + 1)]) ++ wl (k + 1) r
theorem wl_snoc : ∀ (pre : List Bs) (k : Nat) (l : Bs), wl k (pre ++ [l]) = wl k pre ++ (if (lineOf l).2.length = 0 then [] else [((lineOf l).2, k + pre.length + 1)])
  | [], k, l => by simp [wl]
  | x :: r, k, l => by
    rw [List.cons_append, wl, wl, wl_snoc r (k + 1) l, List.append_assoc, List.length_cons]
    congr 2
    split
    · rfl
    · congr 2; omega
def rdW (L : Labs) (ws : List Int) : List (List Bs × Nat) → List Int × Nat × Int
  | [] => (ws, 0, 0)
  | (p, n) :: r =>
    match wordOf L ws.length p with
    | none => ([], n, 19)
    | some x => if 512 ≤ ws.length then ([], n, 22) else rdW L (ws ++ [x]) r
theorem rdFrom_wl (L : Labs) : ∀ (ls : List Bs) (ws : List Int) (k : Nat), rdFrom L ws k ls = rdW L ws (wl k ls)
  | [], ws, k => rfl
  | l :: r, ws, k => by
    rw [rdFrom, wl]
    unfold rdStep
    by_cases h : (lineOf l).2.length = 0
    · simp only [if_pos h, List.nil_append]; exact rdFrom_wl L r ws (k + 1)
    · simp only [if_neg h, List.cons_append, List.nil_append, rdW]
      cases wordOf L ws.length (lineOf l).2 with
      | none => rfl
      | some x =>
        simp only []
        by_cases h5 : 512 ≤ ws.length
        · simp only [if_pos h5]
        · simp only [if_neg h5]; exact rdFrom_wl L r _ (k + 1)
theorem line_nil : lineOf [] = (none, []) := rfl
theorem wl_last (ls : List Bs) (k : Nat) : wl k (ls ++ [[]]) = wl k ls := by rw [wl_snoc]; simp [line_nil]
theorem find_last : ∀ (ls : List Bs) (st : Labs × Nat) (k : Nat), findFrom st k (ls ++ [[]]) = findFrom st k ls
  | [], st, k => by simp [findFrom, labStep, line_nil]
  | l :: r, st, k => by
    rw [List.cons_append, findFrom, findFrom]
    cases labStep st l with
    | none => rfl
    | some s => exact find_last r s (k + 1)
/-- Read, over the lines that the document counts. -/
def rrd (ls : List Bs) : List Int × Nat × Int :=
  match findFrom ([], 0) 0 ls with
  | .inr k => ([], k + 1, 19)
  | .inl L => rdW L [] (wl 0 ls)
theorem rrd_eq {s : Bs} {ls : List Bs} (h : LinesR s ls) : rdOf s = rrd ls := by
  unfold rdOf rrd
  rcases h with h | h
  · rw [h]
    cases findFrom ([], 0) 0 ls with
    | inr k => rfl
    | inl L => exact rdFrom_wl L ls [] 0
  · rw [h, find_last]
    cases findFrom ([], 0) 0 ls with
    | inr k => rfl
    | inl L => simp only []; rw [rdFrom_wl, wl_last]

/-! ### rows that lie apart -/
def Agree (o : Option Nat) (w w2 : World) : Prop := w.heap.size ≤ w2.heap.size ∧ ∀ i, i < w.heap.size → o ≠ some i → w2.heap[i]? = w.heap[i]?
theorem Agree.of_below {o : Option Nat} {w w2 : World} (h : Below w.heap.size w w2) : Agree o w w2 := ⟨h.size, fun i hi _ => h.block i hi⟩
theorem Agree.of_grown {w w2 : World} {o : Option Nat} (h : w.grownBy w2 o) : Agree o w w2 := ⟨h.size, fun i hi hn => h.block i hi (fun e => hn e.symm)⟩
theorem Agree.trans {o : Option Nat} {a b c : World} (h : Agree o a b) (k : Agree o b c) : Agree o a c :=
  ⟨Nat.le_trans h.1 k.1, fun i hi hn => (k.2 i (Nat.lt_of_lt_of_le hi h.1) hn).trans (h.2 i hi hn)⟩
def Off (o : Option Nat) (v : Value) : Prop := ∀ g, v.ownBlock = some g → o ≠ some g
theorem row_lt {w : World} {B : Nat} {e : TypeId} {sz : Nat} {v : Value} {n : Nat} {xs : List Value} (h : w.ownsRow B e sz v n xs) {g : Nat} (hg : v.ownBlock = some g) : g < w.heap.size := by
  obtain ⟨hl, ⟨rfl, -⟩ | ⟨g', cap, cur, rfl, hb, hh, -⟩⟩ := h
  · cases hg
  · simp [Value.ownBlock] at hg; subst hg; exact (Array.getElem?_eq_some_iff.1 hh).1
theorem row_agree {w w2 : World} {o : Option Nat} {B : Nat} {e : TypeId} {sz : Nat} {v : Value} {n : Nat} {xs : List Value} (h : w.ownsRow B e sz v n xs) (ha : Agree o w w2) (ho : Off o v) : w2.ownsRow B e sz v n xs := by
  obtain ⟨hl, h | ⟨g, cap, cur, rfl, hb, hh, r⟩⟩ := h
  · exact ⟨hl, .inl h⟩
  · exact ⟨hl, .inr ⟨g, cap, cur, rfl, hb, (ha.2 g (Array.getElem?_eq_some_iff.1 hh).1 (ho g (by simp [Value.ownBlock]))).trans hh, r⟩⟩
/-- Strings that lie in block bk. -/
def PAt (w : World) (bk : Nat) (v : Value) (ps : List Bs) : Prop :=
  ∃ o c, v = .slice (some ⟨bk, o, none⟩) ps.length c ∧ ps.length ≤ c ∧ ∀ j x, ps[j]? = some x → w.cell? ⟨bk, o + j, none⟩ = some (.string (BA x))
theorem PAt.agree {w w2 : World} {o : Option Nat} {bk : Nat} {v : Value} {ps : List Bs} (h : PAt w bk v ps) (ha : Agree o w w2) (hb : bk < w.heap.size) (ho : o ≠ some bk) : PAt w2 bk v ps := by
  obtain ⟨off, c, rfl, hc, hcs⟩ := h
  exact ⟨off, c, rfl, hc, fun j x hx => (World.cell?_of_block (w := w) (ha.2 bk hb ho)).trans (hcs j x hx)⟩

/-- What Read holds while it goes through the lines. -/
structure R1 (w wr : World) (lv s6 s7 s8 : Value) (ls : List Bs) (L : Labs) (pw : List (List Bs × Nat)) : Prop where
  below : Below w.heap.size w wr
  lines : wr.ownsRow w.heap.size 9 1 lv ls.length (strsV ls)
  labs : LabRow wr w.heap.size s6 L
  ats : wr.ownsRow w.heap.size 3 1 s8 pw.length (pw.map fun x => Value.int .i64 x.2)
  words : ∃ vs : List Value, wr.ownsRow w.heap.size 61 1 s7 pw.length vs ∧ ∀ (j : Nat) (x : List Bs × Nat), pw[j]? = some x → ∃ v bk, vs[j]? = some v ∧ bk < wr.heap.size ∧ PAt wr bk v x.1 ∧ s6.ownBlock ≠ some bk ∧ s7.ownBlock ≠ some bk ∧ s8.ownBlock ≠ some bk
  a67 : Off s6.ownBlock s7
  a68 : Off s6.ownBlock s8
  a78 : Off s7.ownBlock s8
  al6 : Off s6.ownBlock lv
  al7 : Off s7.ownBlock lv
  al8 : Off s8.ownBlock lv
theorem Off.symm {a b : Value} (h : Off a.ownBlock b) : Off b.ownBlock a := fun g hg e => h g e (by rw [hg])
theorem Off.fresh {a a' : Option Nat} {n m : Nat} {v : Value} (h : Off a v) (hl : a' = a ∨ a' = some m) (hn : n ≤ m) (hv : ∀ g, v.ownBlock = some g → g < n) : Off a' v := by
  rcases hl with rfl | rfl
  · exact h
  · intro g hg e
    have := hv g hg
    injection e with e
    omega
theorem Off.fresh2 {a : Option Nat} {v v' : Value} {m : Nat} (h : Off a v) (loc : v'.ownBlock = v.ownBlock ∨ v'.ownBlock = some m) (ha : ∀ g, a = some g → g < m) : Off a v' := by
  intro g hg e
  rcases loc with k | k
  · exact h g (by rw [← k]; exact hg) e
  · rw [k] at hg; injection hg with hg; have := ha g e; omega
section
variable {w wr w2 : World} {lv s6 s7 s8 : Value} {ls : List Bs} {L : Labs} {pw : List (List Bs × Nat)}
theorem R1.on (h : R1 w wr lv s6 s7 s8 ls L pw) (k : Below wr.heap.size wr w2) : R1 w w2 lv s6 s7 s8 ls L pw := by
  have ha : Agree none wr w2 := .of_below k
  obtain ⟨vs, h1, h2⟩ := h.words
  exact ⟨h.below.trans (k.mono h.below.size), row_agree h.lines ha (fun _ _ e => by cases e), row_agree h.labs ha (fun _ _ e => by cases e), row_agree h.ats ha (fun _ _ e => by cases e),
    ⟨vs, row_agree h1 ha (fun _ _ e => by cases e), fun j x hx => by obtain ⟨v, bk, q1, q2, q3, q4, q5, q6⟩ := h2 j x hx; exact ⟨v, bk, q1, Nat.lt_of_lt_of_le q2 k.size, q3.agree ha q2 (fun e => by cases e), q4, q5, q6⟩⟩,
    h.a67, h.a68, h.a78, h.al6, h.al7, h.al8⟩
theorem R1.app6 {s6' : Value} {L' : Labs} {m : Nat} (h : R1 w wr lv s6 s7 s8 ls L pw) (ha : Agree s6.ownBlock wr w2) (hb : Below w.heap.size w w2) (hl : LabRow w2 w.heap.size s6' L') (loc : s6'.ownBlock = s6.ownBlock ∨ s6'.ownBlock = some m) (hm : wr.heap.size ≤ m) : R1 w w2 lv s6' s7 s8 ls L' pw := by
  obtain ⟨vs, h1, h2⟩ := h.words
  refine ⟨hb, row_agree h.lines ha h.al6, hl, row_agree h.ats ha h.a68, ⟨vs, row_agree h1 ha h.a67, fun j x hx => ?_⟩, h.a67.fresh loc hm (fun g hg => row_lt h1 hg), h.a68.fresh loc hm (fun g hg => row_lt h.ats hg), h.a78, h.al6.fresh loc hm (fun g hg => row_lt h.lines hg), h.al7, h.al8⟩
  obtain ⟨v, bk, q1, q2, q3, q4, q5, q6⟩ := h2 j x hx
  refine ⟨v, bk, q1, Nat.lt_of_lt_of_le q2 ha.1, q3.agree ha q2 q4, ?_, q5, q6⟩
  rcases loc with e | e <;> rw [e]
  · exact q4
  · intro e; injection e with e; omega
theorem R1.app78 {w3 : World} {s7' s8' v : Value} {vs : List Value} {ps : List Bs} {bk n m2 m3 : Nat} (h : R1 w wr lv s6 s7 s8 ls L pw)
    (h1 : wr.ownsRow w.heap.size 61 1 s7 pw.length vs) (h2 : ∀ (j : Nat) (x : List Bs × Nat), pw[j]? = some x → ∃ v bk, vs[j]? = some v ∧ bk < wr.heap.size ∧ PAt wr bk v x.1 ∧ s6.ownBlock ≠ some bk ∧ s7.ownBlock ≠ some bk ∧ s8.ownBlock ≠ some bk)
    (ha2 : Agree s7.ownBlock wr w2) (hr2 : w2.ownsRow w.heap.size 61 1 s7' (pw.length + 1) (vs ++ [v])) (loc2 : s7'.ownBlock = s7.ownBlock ∨ s7'.ownBlock = some m2) (hm2 : wr.heap.size ≤ m2)
    (ha3 : Agree s8.ownBlock w2 w3) (hr3 : w3.ownsRow w.heap.size 3 1 s8' (pw.length + 1) ((pw.map fun x => Value.int .i64 x.2) ++ [.int .i64 (n : Nat)])) (loc3 : s8'.ownBlock = s8.ownBlock ∨ s8'.ownBlock = some m3) (hm3 : w2.heap.size ≤ m3)
    (hb3 : Below w.heap.size w w3) (hv : PAt wr bk v ps) (hbk : bk < wr.heap.size) (p6 : s6.ownBlock ≠ some bk) (p7 : s7.ownBlock ≠ some bk) (p8 : s8.ownBlock ≠ some bk) :
    R1 w w3 lv s6 s7' s8' ls L (pw ++ [(ps, n)]) := by
  have l6 : ∀ g, s6.ownBlock = some g → g < wr.heap.size := fun g hg => row_lt h.labs hg
  have l7 : ∀ g, s7.ownBlock = some g → g < wr.heap.size := fun g hg => row_lt h1 hg
  have l8 : ∀ g, s8.ownBlock = some g → g < wr.heap.size := fun g hg => row_lt h.ats hg
  have ll : ∀ g, lv.ownBlock = some g → g < wr.heap.size := fun g hg => row_lt h.lines hg
  have hs := ha2.1
  have o87 : Off s8.ownBlock s7' := h.a78.symm.fresh2 loc2 (fun g hg => Nat.lt_of_lt_of_le (l8 g hg) hm2)
  have far : ∀ b v', b < wr.heap.size → s7.ownBlock ≠ some b → s8.ownBlock ≠ some b → ∀ q, PAt wr b v' q → PAt w3 b v' q := fun b v' hb n7 n8 q hq => (hq.agree ha2 hb n7).agree ha3 (Nat.lt_of_lt_of_le hb hs) n8
  have ap7 : ∀ b, b < wr.heap.size → s7.ownBlock ≠ some b → s7'.ownBlock ≠ some b := fun b hb hn e => by
    rcases loc2 with k | k
    · exact hn (k ▸ e)
    · rw [k] at e; injection e with e; omega
  have ap8 : ∀ b, b < wr.heap.size → s8.ownBlock ≠ some b → s8'.ownBlock ≠ some b := fun b hb hn e => by
    rcases loc3 with k | k
    · exact hn (k ▸ e)
    · rw [k] at e; injection e with e; omega
  refine ⟨hb3, row_agree (row_agree h.lines ha2 h.al7) ha3 h.al8, row_agree (row_agree h.labs ha2 h.a67.symm) ha3 h.a68.symm, by rw [List.length_append, List.map_append]; exact hr3,
    ⟨vs ++ [v], by rw [List.length_append]; exact row_agree hr2 ha3 o87, fun j x hx => ?_⟩, h.a67.fresh2 loc2 (fun g hg => Nat.lt_of_lt_of_le (l6 g hg) hm2), h.a68.fresh2 loc3 (fun g hg => Nat.lt_of_lt_of_le (l6 g hg) (Nat.le_trans hs hm3)), ?_, h.al6, h.al7.fresh loc2 hm2 ll, h.al8.fresh loc3 (Nat.le_trans hs hm3) ll⟩
  · have hvl : vs.length = pw.length := by have := h1.1; simpa using this
    by_cases hj : j < pw.length
    · rw [List.getElem?_append_left hj] at hx
      obtain ⟨v', b, q1, q2, q3, q4, q5, q6⟩ := h2 j x hx
      exact ⟨v', b, by rw [List.getElem?_append_left (by omega)]; exact q1, Nat.lt_of_lt_of_le q2 (Nat.le_trans hs ha3.1), far b v' q2 q5 q6 _ q3, q4, ap7 b q2 q5, ap8 b q2 q6⟩
    · rw [List.getElem?_append_right (by omega)] at hx
      have hj0 : j - pw.length = 0 := by
        rcases Nat.eq_zero_or_pos (j - pw.length) with e | e
        · exact e
        · rw [List.getElem?_eq_none (by simp; omega)] at hx; cases hx
      rw [hj0] at hx
      simp at hx
      subst hx
      exact ⟨v, bk, by rw [List.getElem?_append_right (by omega), show j - vs.length = 0 by omega]; rfl, Nat.lt_of_lt_of_le hbk (Nat.le_trans hs ha3.1), far bk v hbk p7 p8 _ hv, p6, ap7 bk hbk p7, ap8 bk hbk p8⟩
  · intro g hg e
    rcases loc3 with k | k
    · rw [k] at hg; exact o87 g e hg
    · rw [k] at hg; injection hg with hg
      have := row_lt hr2 e
      omega
end
end Go.Proofs.YteacdjakdkdbnaaGreatDoor
