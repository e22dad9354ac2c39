/-
  What the statements of layer 2 hold on to through a statement whose order is drawn: a box of four ints, a table, old memory.
-/
import Derived.Test.YtlmeddjgmhkemaaIsaRefs
namespace Go.Proofs.Ytlmeddjgmhkemaa
open Go.RowKit
set_option linter.unusedVariables false

/-- A table lies in block t; nothing that was there when the call began has turned; block g is there. -/
def EncS (w : World) (g t : Nat) (w' : World) : Prop := TabOk w' t 0 ∧ Below w.heap.size w w' ∧ g < w'.heap.size ∧ w.heap.size ≤ t ∧ g ≠ t
theorem encS_below {w : World} {g t : Nat} {W w' : World} {v0 v1 v2 v3 : Value}
    (h : W.cell? ⟨g, 0, none⟩ = some v0 ∧ W.cell? ⟨g, 1, none⟩ = some v1 ∧ W.cell? ⟨g, 2, none⟩ = some v2 ∧ W.cell? ⟨g, 3, none⟩ = some v3 ∧ EncS w g t W) (hb : Below W.heap.size W w') :
    w'.cell? ⟨g, 0, none⟩ = some v0 ∧ w'.cell? ⟨g, 1, none⟩ = some v1 ∧ w'.cell? ⟨g, 2, none⟩ = some v2 ∧ w'.cell? ⟨g, 3, none⟩ = some v3 ∧ EncS w g t w' := by
  obtain ⟨c0, c1, c2, c3, ht, hB, hg, h1, h2⟩ := h
  exact ⟨(hb.cell (p := ⟨g, 0, none⟩) hg).trans c0, (hb.cell (p := ⟨g, 1, none⟩) hg).trans c1, (hb.cell (p := ⟨g, 2, none⟩) hg).trans c2, (hb.cell (p := ⟨g, 3, none⟩) hg).trans c3,
    ht.below hb, hB.trans (hb.mono hB.size), Nat.lt_of_lt_of_le hg hb.size, h1, h2⟩
theorem encS_keep {w : World} {g t : Nat} {W w' : World} {v0 v1 v2 v3 : Value}
    (h : W.cell? ⟨g, 0, none⟩ = some v0 ∧ W.cell? ⟨g, 1, none⟩ = some v1 ∧ W.cell? ⟨g, 2, none⟩ = some v2 ∧ W.cell? ⟨g, 3, none⟩ = some v3 ∧ EncS w g t W) (ht' : TabOk w' t 0) (q : Keep t 0 (0 + 103) W w') :
    w'.cell? ⟨g, 0, none⟩ = some v0 ∧ w'.cell? ⟨g, 1, none⟩ = some v1 ∧ w'.cell? ⟨g, 2, none⟩ = some v2 ∧ w'.cell? ⟨g, 3, none⟩ = some v3 ∧ EncS w g t w' := by
  obtain ⟨c0, c1, c2, c3, ht, hB, hg, h1, h2⟩ := h
  exact ⟨(q.far (p := ⟨g, 0, none⟩) hg h2).trans c0, (q.far (p := ⟨g, 1, none⟩) hg h2).trans c1, (q.far (p := ⟨g, 2, none⟩) hg h2).trans c2, (q.far (p := ⟨g, 3, none⟩) hg h2).trans c3,
    ht', hB.trans (q.toBelow h1), Nat.lt_of_lt_of_le hg q.size, h1, h2⟩
theorem encS_drew {w : World} {g t : Nat} {W : World} {v0 v1 v2 v3 : Value}
    (h : W.cell? ⟨g, 0, none⟩ = some v0 ∧ W.cell? ⟨g, 1, none⟩ = some v1 ∧ W.cell? ⟨g, 2, none⟩ = some v2 ∧ W.cell? ⟨g, 3, none⟩ = some v3 ∧ EncS w g t W) :
    W.drew.cell? ⟨g, 0, none⟩ = some v0 ∧ W.drew.cell? ⟨g, 1, none⟩ = some v1 ∧ W.drew.cell? ⟨g, 2, none⟩ = some v2 ∧ W.drew.cell? ⟨g, 3, none⟩ = some v3 ∧ EncS w g t W.drew := encS_below h (Below.refl _ _).drew
/-- Two boxes of four ints, and a table. -/
def TwoS (w : World) (g h t : Nat) (a0 a1 a2 a3 b0 b1 b2 b3 : Int) (w' : World) : Prop :=
  (w'.cell? ⟨g, 0, none⟩ = some (.int .i64 a0) ∧ w'.cell? ⟨g, 1, none⟩ = some (.int .i64 a1) ∧ w'.cell? ⟨g, 2, none⟩ = some (.int .i64 a2) ∧ w'.cell? ⟨g, 3, none⟩ = some (.int .i64 a3) ∧ EncS w g t w') ∧ (w'.cell? ⟨h, 0, none⟩ = some (.int .i64 b0) ∧ w'.cell? ⟨h, 1, none⟩ = some (.int .i64 b1) ∧ w'.cell? ⟨h, 2, none⟩ = some (.int .i64 b2) ∧ w'.cell? ⟨h, 3, none⟩ = some (.int .i64 b3) ∧ EncS w h t w')
theorem TwoS.below {w : World} {g h t : Nat} {a0 a1 a2 a3 b0 b1 b2 b3 : Int} {W w' : World} (s : TwoS w g h t a0 a1 a2 a3 b0 b1 b2 b3 W) (hb : Below W.heap.size W w') : TwoS w g h t a0 a1 a2 a3 b0 b1 b2 b3 w' :=
  ⟨encS_below s.1 hb, encS_below s.2 hb⟩
theorem TwoS.keep {w : World} {g h t : Nat} {a0 a1 a2 a3 b0 b1 b2 b3 : Int} {W w' : World} (s : TwoS w g h t a0 a1 a2 a3 b0 b1 b2 b3 W) (ht : TabOk w' t 0) (q : Keep t 0 (0 + 103) W w') : TwoS w g h t a0 a1 a2 a3 b0 b1 b2 b3 w' :=
  ⟨encS_keep s.1 ht q, encS_keep s.2 ht q⟩
theorem TwoS.tab {w : World} {g h t : Nat} {a0 a1 a2 a3 b0 b1 b2 b3 : Int} {W : World} (s : TwoS w g h t a0 a1 a2 a3 b0 b1 b2 b3 W) : TabOk W t 0 := s.1.2.2.2.2.1
theorem TwoS.old {w : World} {g h t : Nat} {a0 a1 a2 a3 b0 b1 b2 b3 : Int} {W : World} (s : TwoS w g h t a0 a1 a2 a3 b0 b1 b2 b3 W) : Below w.heap.size w W := s.1.2.2.2.2.2.1
theorem sameB_self (a b c d : Int) : sameB a b c d a b c d = true := by simp [sameB]
theorem enc_same {a b c d a' b' c' d' : Int} (h : vldB a b c d = true) (h' : vldB a' b' c' d' = true) : (encI a b c d == encI a' b' c' d') = sameB a b c d a' b' c' d' := by
  cases hs : sameB a b c d a' b' c' d'
  · rw [beq_eq_false_iff_ne]
    intro e
    obtain ⟨rfl, rfl, rfl, rfl⟩ := enc_inj h h' e
    rw [sameB_self] at hs
    cases hs
  · simp [sameB] at hs
    obtain ⟨⟨⟨rfl, rfl⟩, rfl⟩, rfl⟩ := hs
    simp
/-- Nothing that was there when the call began has turned; block r is there. -/
def OldS (w : World) (r : Nat) (w' : World) : Prop := Below w.heap.size w w' ∧ r < w'.heap.size
theorem three_below {w : World} {g h r : Nat} {a0 a1 a2 a3 b0 b1 b2 b3 c0 c1 c2 c3 : Int} {W w' : World} (s : W.cell? ⟨r, 0, none⟩ = some (.int .i64 c0) ∧ W.cell? ⟨r, 1, none⟩ = some (.int .i64 c1) ∧ W.cell? ⟨r, 2, none⟩ = some (.int .i64 c2) ∧ W.cell? ⟨r, 3, none⟩ = some (.int .i64 c3) ∧ W.cell? ⟨g, 0, none⟩ = some (.int .i64 a0) ∧ W.cell? ⟨g, 1, none⟩ = some (.int .i64 a1) ∧ W.cell? ⟨g, 2, none⟩ = some (.int .i64 a2) ∧ W.cell? ⟨g, 3, none⟩ = some (.int .i64 a3) ∧ W.cell? ⟨h, 0, none⟩ = some (.int .i64 b0) ∧ W.cell? ⟨h, 1, none⟩ = some (.int .i64 b1) ∧ W.cell? ⟨h, 2, none⟩ = some (.int .i64 b2) ∧ W.cell? ⟨h, 3, none⟩ = some (.int .i64 b3) ∧ OldS w r W) (hb : Below W.heap.size W w') : w'.cell? ⟨r, 0, none⟩ = some (.int .i64 c0) ∧ w'.cell? ⟨r, 1, none⟩ = some (.int .i64 c1) ∧ w'.cell? ⟨r, 2, none⟩ = some (.int .i64 c2) ∧ w'.cell? ⟨r, 3, none⟩ = some (.int .i64 c3) ∧ w'.cell? ⟨g, 0, none⟩ = some (.int .i64 a0) ∧ w'.cell? ⟨g, 1, none⟩ = some (.int .i64 a1) ∧ w'.cell? ⟨g, 2, none⟩ = some (.int .i64 a2) ∧ w'.cell? ⟨g, 3, none⟩ = some (.int .i64 a3) ∧ w'.cell? ⟨h, 0, none⟩ = some (.int .i64 b0) ∧ w'.cell? ⟨h, 1, none⟩ = some (.int .i64 b1) ∧ w'.cell? ⟨h, 2, none⟩ = some (.int .i64 b2) ∧ w'.cell? ⟨h, 3, none⟩ = some (.int .i64 b3) ∧ OldS w r w' := by
  obtain ⟨z0, z1, z2, z3, x0, x1, x2, x3, y0, y1, y2, y3, hB, hr⟩ := s
  have k : ∀ {p : Addr} {v : Value}, W.cell? p = some v → w'.cell? p = some v := fun {p} {v} e => (hb.cell (lt_of_cell e)).trans e
  exact ⟨k z0, k z1, k z2, k z3, k x0, k x1, k x2, k x3, k y0, k y1, k y2, k y3, hB.trans (hb.mono hB.size), Nat.lt_of_lt_of_le hr hb.size⟩
theorem three_drew {w : World} {g h r : Nat} {a0 a1 a2 a3 b0 b1 b2 b3 c0 c1 c2 c3 : Int} {W : World} (s : W.cell? ⟨r, 0, none⟩ = some (.int .i64 c0) ∧ W.cell? ⟨r, 1, none⟩ = some (.int .i64 c1) ∧ W.cell? ⟨r, 2, none⟩ = some (.int .i64 c2) ∧ W.cell? ⟨r, 3, none⟩ = some (.int .i64 c3) ∧ W.cell? ⟨g, 0, none⟩ = some (.int .i64 a0) ∧ W.cell? ⟨g, 1, none⟩ = some (.int .i64 a1) ∧ W.cell? ⟨g, 2, none⟩ = some (.int .i64 a2) ∧ W.cell? ⟨g, 3, none⟩ = some (.int .i64 a3) ∧ W.cell? ⟨h, 0, none⟩ = some (.int .i64 b0) ∧ W.cell? ⟨h, 1, none⟩ = some (.int .i64 b1) ∧ W.cell? ⟨h, 2, none⟩ = some (.int .i64 b2) ∧ W.cell? ⟨h, 3, none⟩ = some (.int .i64 b3) ∧ OldS w r W) : W.drew.cell? ⟨r, 0, none⟩ = some (.int .i64 c0) ∧ W.drew.cell? ⟨r, 1, none⟩ = some (.int .i64 c1) ∧ W.drew.cell? ⟨r, 2, none⟩ = some (.int .i64 c2) ∧ W.drew.cell? ⟨r, 3, none⟩ = some (.int .i64 c3) ∧ W.drew.cell? ⟨g, 0, none⟩ = some (.int .i64 a0) ∧ W.drew.cell? ⟨g, 1, none⟩ = some (.int .i64 a1) ∧ W.drew.cell? ⟨g, 2, none⟩ = some (.int .i64 a2) ∧ W.drew.cell? ⟨g, 3, none⟩ = some (.int .i64 a3) ∧ W.drew.cell? ⟨h, 0, none⟩ = some (.int .i64 b0) ∧ W.drew.cell? ⟨h, 1, none⟩ = some (.int .i64 b1) ∧ W.drew.cell? ⟨h, 2, none⟩ = some (.int .i64 b2) ∧ W.drew.cell? ⟨h, 3, none⟩ = some (.int .i64 b3) ∧ OldS w r W.drew := three_below s (Below.refl _ _).drew
theorem TwoS.three {w : World} {g h t : Nat} {a0 a1 a2 a3 b0 b1 b2 b3 : Int} {W : World} (s : TwoS w g h t a0 a1 a2 a3 b0 b1 b2 b3 W) (c0 c1 c2 c3 : Int) (T : TypeId) :
    (W.alloc (.cells #[.int .i64 c0, .int .i64 c1, .int .i64 c2, .int .i64 c3] T)).cell? ⟨W.heap.size, 0, none⟩ = some (.int .i64 c0) ∧ (W.alloc (.cells #[.int .i64 c0, .int .i64 c1, .int .i64 c2, .int .i64 c3] T)).cell? ⟨W.heap.size, 1, none⟩ = some (.int .i64 c1) ∧ (W.alloc (.cells #[.int .i64 c0, .int .i64 c1, .int .i64 c2, .int .i64 c3] T)).cell? ⟨W.heap.size, 2, none⟩ = some (.int .i64 c2) ∧ (W.alloc (.cells #[.int .i64 c0, .int .i64 c1, .int .i64 c2, .int .i64 c3] T)).cell? ⟨W.heap.size, 3, none⟩ = some (.int .i64 c3) ∧ (W.alloc (.cells #[.int .i64 c0, .int .i64 c1, .int .i64 c2, .int .i64 c3] T)).cell? ⟨g, 0, none⟩ = some (.int .i64 a0) ∧ (W.alloc (.cells #[.int .i64 c0, .int .i64 c1, .int .i64 c2, .int .i64 c3] T)).cell? ⟨g, 1, none⟩ = some (.int .i64 a1) ∧ (W.alloc (.cells #[.int .i64 c0, .int .i64 c1, .int .i64 c2, .int .i64 c3] T)).cell? ⟨g, 2, none⟩ = some (.int .i64 a2) ∧ (W.alloc (.cells #[.int .i64 c0, .int .i64 c1, .int .i64 c2, .int .i64 c3] T)).cell? ⟨g, 3, none⟩ = some (.int .i64 a3) ∧ (W.alloc (.cells #[.int .i64 c0, .int .i64 c1, .int .i64 c2, .int .i64 c3] T)).cell? ⟨h, 0, none⟩ = some (.int .i64 b0) ∧ (W.alloc (.cells #[.int .i64 c0, .int .i64 c1, .int .i64 c2, .int .i64 c3] T)).cell? ⟨h, 1, none⟩ = some (.int .i64 b1) ∧ (W.alloc (.cells #[.int .i64 c0, .int .i64 c1, .int .i64 c2, .int .i64 c3] T)).cell? ⟨h, 2, none⟩ = some (.int .i64 b2) ∧ (W.alloc (.cells #[.int .i64 c0, .int .i64 c1, .int .i64 c2, .int .i64 c3] T)).cell? ⟨h, 3, none⟩ = some (.int .i64 b3) ∧ OldS w W.heap.size (W.alloc (.cells #[.int .i64 c0, .int .i64 c1, .int .i64 c2, .int .i64 c3] T)) := by
  have hb : Below W.heap.size W (W.alloc (.cells #[.int .i64 c0, .int .i64 c1, .int .i64 c2, .int .i64 c3] T)) := (Below.refl _ _).alloc (Nat.le_refl _) _
  have hn := heap_alloc_new W (.cells #[.int .i64 c0, .int .i64 c1, .int .i64 c2, .int .i64 c3] T)
  have k : ∀ {p : Addr} {v : Value}, W.cell? p = some v → (W.alloc (.cells #[.int .i64 c0, .int .i64 c1, .int .i64 c2, .int .i64 c3] T)).cell? p = some v := fun {p} {v} e => (hb.cell (lt_of_cell e)).trans e
  obtain ⟨⟨x0, x1, x2, x3, _, hB, _⟩, y0, y1, y2, y3, _⟩ := s
  refine ⟨?_, ?_, ?_, ?_, k x0, k x1, k x2, k x3, k y0, k y1, k y2, k y3, hB.trans (hb.mono hB.size), by simp⟩ <;> (unfold World.cell?; rw [hn]; rfl)
end Go.Proofs.Ytlmeddjgmhkemaa
