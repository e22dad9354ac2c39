/-
  Layer 8 (disk): what DiskKeeps notes of the writes, and how it looks for what was read.
-/
import Derived.Test.YtnjnplepecmfaaaDkHead
namespace Go.Proofs.Ytnjnplepecmfaaa.Dk
open Go.ChangeShapes Go.WideShapes Go.ChangeAt Go.RowKit
set_option linter.unusedVariables false
set_option maxRecDepth 20000

/-- A note: a block, a place. -/
abbrev Nt := Nat × Nat
def pv (p : Nt) : List Value := [.int .i64 p.1, .int .i64 p.2]
def catP (ws : List Nt) : List Value := ws.flatMap pv
theorem catP_len (ws : List Nt) : (catP ws).length = ws.length * 2 := by
  induction ws with
  | nil => rfl
  | cons e l ih =>
    have : (catP (e :: l)).length = 2 + (catP l).length := by simp [catP, pv]; omega
    rw [this, ih, List.length_cons]; omega
theorem catP_get : ∀ (ws : List Nt) (i j : Nat), i < ws.length → j < 2 → (catP ws)[i * 2 + j]? = (pv (ws.getD i (0, 0)))[j]?
  | e :: l, 0, j, _, hj => by
    show (pv e ++ catP l)[0 * 2 + j]? = (pv e)[j]?
    rw [Nat.zero_mul, Nat.zero_add, List.getElem?_append_left hj]
  | e :: l, i + 1, j, hi, hj => by
    show (pv e ++ catP l)[(i + 1) * 2 + j]? = (pv (l.getD i (0, 0)))[j]?
    rw [List.getElem?_append_right (by show 2 ≤ _; omega), show (i + 1) * 2 + j - (pv e).length = i * 2 + j by show (i + 1) * 2 + j - 2 = _; omega]
    exact catP_get l i j (by simpa using hi) hj
theorem catP_snoc (ws : List Nt) (k i : Nat) : catP (ws ++ [(k, i)]) = catP ws ++ [.int .i64 k, .int .i64 i] := by simp [catP, pv]
theorem infPair : (Try.prog.info? 44).map (fun i => (i.zero, i.size, i.bytes)) = some (some (.agg #[.int .i64 0, .int .i64 0]), 2, 16) := by kernel_rfl
theorem two_one (a b : Int) : ∀ u ∈ [Value.int .i64 a, .int .i64 b], u.oneCell' = true := by
  intro v hv
  simp only [List.mem_cons, List.not_mem_nil, or_false] at hv
  rcases hv with rfl | rfl <;> rfl
/-- The slice of the notes, and what it holds. -/
theorem notes_of {w : World} {base : Nat} {e : TypeId} {u : Value} {ws : List Nt} (h : w.ownsRow base e 2 u ws.length (catP ws)) :
    ∃ A c, u = .slice A ws.length c ∧ (ws = [] ∨ ∃ g, A = some ⟨g, 0, none⟩ ∧ ∀ i, i < ws.length → w.cell? ⟨g, i * 2, none⟩ = some (.int .i64 (ws.getD i (0, 0)).1) ∧ w.cell? ⟨g, i * 2 + 1, none⟩ = some (.int .i64 (ws.getD i (0, 0)).2)) := by
  obtain ⟨hl, h | ⟨g, cap, cur, rfl, hg, hh, hnc, hcm, hsz, htk⟩⟩ := h
  · obtain ⟨rfl, hn⟩ := h
    obtain rfl : ws = [] := List.eq_nil_of_length_eq_zero hn
    exact ⟨none, 0, rfl, .inl rfl⟩
  · refine ⟨_, cap, rfl, .inr ⟨g, rfl, fun i hi => ⟨?_, ?_⟩⟩⟩
    · have hv2 := catP_get ws i 0 hi (by omega)
      rw [← htk, List.getElem?_take, if_pos (by omega)] at hv2
      simp only [World.cell?, hh]
      simpa [pv] using hv2
    · have hv2 := catP_get ws i 1 hi (by omega)
      rw [← htk, List.getElem?_take, if_pos (by omega)] at hv2
      simp only [World.cell?, hh]
      simpa [pv] using hv2
/-- The writes that were noted. -/
def wrs (f : Nat → Dd) (ws : List Nt) : List Wr := ws.map fun p => (p.1, ofD (f p.2).xs)
theorem wrs_snoc (f : Nat → Dd) (ws : List Nt) (k i : Nat) : wrs f (ws ++ [(k, i)]) = wrs f ws ++ [(k, ofD (f i).xs)] := by simp [wrs]
theorem wrs_len (f : Nat → Dd) (ws : List Nt) : (wrs f ws).length = ws.length := by simp [wrs]
/-- Was it found so far? -/
def fnd (f : Nat → Dd) (q : Nat) (y old : Dat) (l : List Nt) : Bool := eqD y old || l.any fun p => p.1 == q && eqD y (ofD (f p.2).xs)
theorem fnd_nil (f : Nat → Dd) (q : Nat) (y old : Dat) : fnd f q y old [] = eqD y old := by simp [fnd]
theorem fnd_snoc (f : Nat → Dd) (q : Nat) (y old : Dat) (l : List Nt) (p : Nt) : fnd f q y old (l ++ [p]) = (fnd f q y old l || (p.1 == q && eqD y (ofD (f p.2).xs))) := by simp [fnd, Bool.or_assoc]
theorem nt_take (l : List Nt) (k : Nat) (hk : k < l.length) : l.take (k + 1) = l.take k ++ [l.getD k (0, 0)] := by
  rw [List.take_add_one, List.getElem?_eq_getElem hk]
  simp [List.getD, hk]
theorem fnd_take (f : Nat → Dd) (q : Nat) (y old : Dat) (ws : List Nt) (t : Nat) (ht : t < ws.length) : fnd f q y old (ws.take (t + 1)) = (fnd f q y old (ws.take t) || ((ws.getD t (0, 0)).1 == q && eqD y (ofD (f (ws.getD t (0, 0)).2).xs))) := by
  rw [nt_take ws t ht, fnd_snoc]
/-- What was flushed is there, or one of the writes. -/
theorem fnd_all (f : Nat → Dd) (q : Nat) (L : Nat → Dat) (g : Nat → Bool) (ws : List Nt) : fnd f q (setAll L (kp g (wrs f ws)) q) (L q) ws = true := by
  unfold fnd
  rcases setAll_or q (kp g (wrs f ws)) L with h | ⟨p, hp, h1, h2⟩
  · rw [h, eqD_self]
    simp
  · have hp2 := kp_mem hp
    unfold wrs at hp2
    obtain ⟨t, ht, rfl⟩ := List.mem_map.1 hp2
    rw [Bool.or_eq_true]
    right
    rw [List.any_eq_true]
    exact ⟨t, ht, by rw [h2, eqD_self]; simpa using h1⟩
/-- The disk, its twin, and the notes. -/
structure K2 (w : World) (lo b bl : Nat) (v : Value) (bt blt clt : Nat) (vt : Value) (u : Value) (L : Nat → Dat) (f : Nat → Dd) (ws : List Nt) : Prop where
  d : DkAt tP w lo b bl 6 6 v L (wrs f ws)
  t : DkAt tP w lo bt blt clt 6 vt L []
  ap : ∀ k ∈ fp b bl v, k ∉ fp bt blt vt
  row : w.ownsRow lo 44 2 u ws.length (catP ws)
  far : ∀ g, u.ownBlock = some g → g ∉ fp b bl v ∧ g ∉ fp bt blt vt
theorem K2.keep0 {w w' : World} {lo b bl : Nat} {v : Value} {bt blt clt : Nat} {vt u : Value} {L : Nat → Dat} {f : Nat → Dd} {ws : List Nt} (h : K2 w lo b bl v bt blt clt vt u L f ws) (hk : But [] w w') : K2 w' lo b bl v bt blt clt vt u L f ws :=
  ⟨h.d.keep0 hk, h.t.keep0 hk, h.ap, own_keep h.row hk (by simp), h.far⟩
theorem K2.lo_le {w : World} {lo b bl : Nat} {v : Value} {bt blt clt : Nat} {vt u : Value} {L : Nat → Dat} {f : Nat → Dd} {ws : List Nt} (h : K2 w lo b bl v bt blt clt vt u L f ws) : lo ≤ w.heap.size := by
  have h1 := h.d.lob
  have h2 := h.d.lt fp_b
  omega
/-- A write was done: the disk turned; the note is not written yet. -/
theorem K2.wrote {w w' : World} {lo b bl : Nat} {v : Value} {bt blt clt : Nat} {vt u : Value} {L : Nat → Dat} {f : Nat → Dd} {ws : List Nt} (h : K2 w lo b bl v bt blt clt vt u L f ws) {v' : Value}
    (hk : But (fp b bl v) w w') (hf : ∀ g ∈ fp b bl v', g ∈ fp b bl v ∨ w.heap.size ≤ g) : DkAt tP w' lo bt blt clt 6 vt L [] ∧ (∀ k ∈ fp b bl v', k ∉ fp bt blt vt) ∧ w'.ownsRow lo 44 2 u ws.length (catP ws) ∧ (∀ g, u.ownBlock = some g → g ∉ fp b bl v' ∧ g ∉ fp bt blt vt) := by
  refine ⟨h.t.keep hk (fun k h1 h2 => h.ap k h2 h1), fun k h1 h2 => ?_, own_keep h.row hk (fun g hg => (h.far g hg).1), fun g hg => ⟨fun h1 => ?_, (h.far g hg).2⟩⟩
  · rcases hf k h1 with h3 | h3
    · exact h.ap k h3 h2
    · have := h.t.lt h2
      omega
  · rcases hf g h1 with h3 | h3
    · exact (h.far g hg).1 h3
    · have := (own_lt h.row hg).2
      omega
/-- Three cells of a deed. -/
theorem d3_keep {w w' : World} {b : Nat} {o : Nat} {u0 u1 u2 : Value} (h : w.cell? ⟨b, o, none⟩ = some u0 ∧ w.cell? ⟨b, o + 1, none⟩ = some u1 ∧ w.cell? ⟨b, o + 2, none⟩ = some u2) {l : List Nat} (hk : But l w w') (hn : b ∉ l) :
    w'.cell? ⟨b, o, none⟩ = some u0 ∧ w'.cell? ⟨b, o + 1, none⟩ = some u1 ∧ w'.cell? ⟨b, o + 2, none⟩ = some u2 := ⟨cell_keep h.1 hk hn, cell_keep h.2.1 hk hn, cell_keep h.2.2 hk hn⟩
theorem d4_keep {w w' : World} {g g2 b o o1 o2 : Nat} {cs : List Value} {u0 u1 u2 : Value} (h : w.cell? ⟨g, o, none⟩ = some u0 ∧ w.cell? ⟨g, o1, none⟩ = some u1 ∧ w.cell? ⟨b, o2, none⟩ = some u2 ∧ w.rangeAt g2 0 cs) (hk : But [] w w') :
    w'.cell? ⟨g, o, none⟩ = some u0 ∧ w'.cell? ⟨g, o1, none⟩ = some u1 ∧ w'.cell? ⟨b, o2, none⟩ = some u2 ∧ w'.rangeAt g2 0 cs := ⟨cell_keep h.1 hk (by simp), cell_keep h.2.1 hk (by simp), cell_keep h.2.2.1 hk (by simp), range_keep h.2.2.2 hk (by simp)⟩
attribute [irreducible] catP
end Go.Proofs.Ytnjnplepecmfaaa.Dk
