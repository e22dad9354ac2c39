/-
  Layer 7 (clock): how a clock lies in the machine's memory; contracts of Go and Now, and of the chapter's examples, over the translated program.
-/
import Derived.Test.YtbephnjnlcfapaaClAlarm
namespace Go.Proofs.Ytbephnjnlcfapaa.Cl
open Go.ChangeShapes Go.WideShapes Go.ChangeAt Go.RowKit
set_option linter.unusedVariables false
set_option maxRecDepth 20000

/-- Block b is a clock that has counted n steps. -/
structure ClkAt (w : World) (b : Nat) (n : Int) : Prop where
  c0 : w.cell? ⟨b, 0, none⟩ = some (.int .u64 n)
  fz : w.frozen? ⟨b, 0, none⟩ = false
theorem ClkAt.lt {w : World} {b : Nat} {n : Int} (h : ClkAt w b n) : b < w.heap.size := lt_of_cell h.c0
theorem ClkAt.keep {l : List Nat} {w w' : World} {b : Nat} {n : Int} (h : ClkAt w b n) (k : But l w w') (hn : b ∉ l) : ClkAt w' b n :=
  ⟨cell_keep h.c0 k hn, (k.frozen (p := ⟨b, 0, none⟩) h.lt hn).trans h.fz⟩
theorem ClkAt.set {w : World} {b : Nat} {n : Int} (h : ClkAt w b n) (m : Int) : ClkAt (w.setCell ⟨b, 0, none⟩ (.int .u64 m)) b m :=
  ⟨World.cell?_setCell_same _ _ _ h.c0, by rw [World.frozen?_setCell]; exact h.fz⟩
theorem clk_new (w : World) : ClkAt (w.alloc (.cells #[.int .u64 0] 31)) w.heap.size 0 :=
  ⟨by rw [cell_of_row _ _ 0 _ _ (0, 0) (heap_alloc_last w _)]; rfl, frozen_of_row _ _ 0 _ _ (heap_alloc_last w _)⟩

theorem go_c (b : Nat) (n m s : Int) (w : World) (h : ClkAt w b n) (hs : IntKind.u64.wrap (n + m) = s) :
    Calls Try.prog 6 #[.pointer (some ⟨b, 0, none⟩), .int .u64 m] w fun e w' => e = .returned (.int .u64 s) ∧ ClkAt w' b s ∧ But [b] w w' := by
  have H : Hid (ClkAt w b n) := h
  have HS : Hid (IntKind.u64.wrap (n + m) = s) := hs
  clear h hs
  go_enter Try.func6, Try.ntmps6
  go_wp2_with fail
  refine (uadd_c b 0 n m s _ H.out.c0 H.out.fz HS.out).mono ?_
  rintro e w1 ⟨rfl, rfl⟩
  go_wp2
  go_ret
  exact ⟨rfl, H.out.set s, (But.refl _ _).setCell (by simp) _⟩
theorem go_nil (m : Int) (w : World) :
    Calls Try.prog 6 #[.pointer none, .int .u64 m] w fun e w' => e = .returned (.int .u64 0) ∧ w = w' := by
  go_enter Try.func6, Try.ntmps6
  go_wp2
  go_ret
  exact ⟨rfl, rfl⟩
theorem now_c (b : Nat) (n : Int) (w : World) (h : ClkAt w b n) :
    Calls Try.prog 15 #[.pointer (some ⟨b, 0, none⟩)] w fun e w' => e = .returned (.int .u64 n) ∧ w = w' := by
  have H : Hid (ClkAt w b n) := h
  clear h
  go_enter Try.func15, Try.ntmps15
  go_wp2_with fail
  refine (uload_c b 0 n _ H.out.c0).mono ?_
  rintro e w1 ⟨rfl, rfl⟩
  go_wp2
  go_ret
  exact ⟨rfl, rfl⟩
theorem now_nil (w : World) :
    Calls Try.prog 15 #[.pointer none] w fun e w' => e = .returned (.int .u64 0) ∧ w = w' := by
  go_enter Try.func15, Try.ntmps15
  go_wp2
  go_ret
  exact ⟨rfl, rfl⟩

/-- The chapter's examples. -/
theorem awake_c (w : World) :
    Calls Try.prog 18 #[] w fun e w' => e = .returned (.bool true) ∧ But [] w w' := by
  obtain ⟨g, hg⟩ : ∃ g, g = w.heap.size := ⟨_, rfl⟩
  have HC : Hid (ClkAt ((w.alloc (.cells #[.int .u64 0] 31)).alloc (.cells #[.pointer none] 45)) g 0) := by
    show ClkAt _ _ _
    rw [hg]
    exact (clk_new w).keep ((But.refl [] _).alloc _) (by simp)
  have HA : Hid (Alm ((w.alloc (.cells #[.int .u64 0] 31)).alloc (.cells #[.pointer none] 45)) (g + 1) (g + 2) false 0) := by
    show Alm _ _ _ _ _
    have := alm_new (w.alloc (.cells #[.int .u64 0] 31)) (g + 2) (by simp; omega) 0
    simpa [hg] using this
  have HK : Hid (But [g, g + 1] w ((w.alloc (.cells #[.int .u64 0] 31)).alloc (.cells #[.pointer none] 45))) := ((But.refl _ _).alloc _).alloc _
  have HL : Hid (g + 2 ≤ ((w.alloc (.cells #[.int .u64 0] 31)).alloc (.cells #[.pointer none] 45)).heap.size) := by
    show _ ≤ _
    simp; omega
  have HW : w.heap.size + 2 ≤ g + 2 := by omega
  have HE : Hid (∀ w', But [g, g + 1] w w' → But [] w w') := fun w' h => h.strike (by intro k hk hlt; simp at hk; omega)
  go_enter Try.func18, Try.ntmps18
  go_wp2_with fail
  rw [← hg]
  generalize (w.alloc (.cells #[.int .u64 0] 31)).alloc (.cells #[.pointer none] 45) = w0 at HC HA HK HL ⊢
  clear hg
  refine (go_c g 0 5 5 _ HC.out rfl).mono ?_
  rintro e w1 ⟨rfl, h1, k1⟩
  have HC1 : Hid (ClkAt w1 g 5) := h1
  have HA1 : Hid (Alm w1 (g + 1) (g + 2) false 0) := HA.out.keep k1 (by simp)
  have HK1 : Hid (But [g, g + 1] w w1) := HK.out.trans (k1.wider (by simp))
  have HL1 : Hid (g + 2 ≤ w1.heap.size) := Nat.le_trans HL.out k1.size
  clear h1 k1 HC HA HK HL
  go_wp2_with fail
  refine (set_c (g + 1) (g + 2) false 0 3 _ HA1.out HL1.out).mono ?_
  rintro e w2 ⟨rfl, h2, k2, -⟩
  have HC2 : Hid (ClkAt w2 g 5) := HC1.out.keep k2 (by simp)
  have HA2 : Hid (Alm w2 (g + 1) (g + 2) true 3) := h2
  have HK2 : Hid (But [g, g + 1] w w2) := HK1.out.trans (k2.wider (by simp))
  clear h2 k2 HC1 HA1 HK1
  go_wp2_with fail
  refine (go_c g 5 2 7 _ HC2.out rfl).mono ?_
  rintro e w3 ⟨rfl, h3, k3⟩
  have HA3 : Hid (Alm w3 (g + 1) (g + 2) true 3) := HA2.out.keep k3 (by simp)
  have HK3 : Hid (But [g, g + 1] w w3) := HK2.out.trans (k3.wider (by simp))
  clear h3 k3 HC2 HA2 HK2
  have HF : Hid (∀ (u v : World) (l : List Nat), (∀ k, k ∈ l → g + 2 ≤ k) → But l u v → w.heap.size + 2 ≤ g + 2 → But [g, g + 1] w u → But [g, g + 1] w v) := by
    intro u v l hl k hg hu
    refine ⟨k.os.trans hu.os, k.tape.trans hu.tape, k.output.trans hu.output, Nat.le_trans hu.size k.size, fun i hi hn => ?_⟩
    exact (k.block i (Nat.lt_of_lt_of_le hi hu.size) (fun hm => by have := hl i hm; omega)).trans (hu.block i hi hn)
  have HG : Hid (w.heap.size + 2 ≤ g + 2) := HW
  go_wp2_with fail
  refine (due_c (g + 1) (g + 2) true 3 2 _ HA3.out).mono ?_
  rintro e w4 ⟨rfl, h4, l4, hl4, k4⟩
  have HA4 : Hid (Alm w4 (g + 1) (g + 2) true 3) := by show Alm _ _ _ _ _; simpa using h4
  have HK4 : Hid (But [g, g + 1] w w4) := HF.out _ _ _ (fun k hk => (hl4 k hk).1) k4 HG.out HK3.out
  clear h4 l4 hl4 k4 HA3 HK3
  go_wp2_with fail
  refine (due_c (g + 1) (g + 2) true 3 4 _ HA4.out).mono ?_
  rintro e w5 ⟨rfl, h5, l5, hl5, k5⟩
  have HA5 : Hid (Alm w5 (g + 1) (g + 2) false 3) := by show Alm _ _ _ _ _; simpa using h5
  have HK5 : Hid (But [g, g + 1] w w5) := HF.out _ _ _ (fun k hk => (hl5 k hk).1) k5 HG.out HK4.out
  clear h5 l5 hl5 k5 HA4 HK4
  go_wp2_with fail
  refine (due_c (g + 1) (g + 2) false 3 5 _ HA5.out).mono ?_
  rintro e w6 ⟨rfl, h6, l6, hl6, k6⟩
  have HK6 : Hid (But [g, g + 1] w w6) := HF.out _ _ _ (fun k hk => (hl6 k hk).1) k6 HG.out HK5.out
  clear h6 l6 hl6 k6 HA5 HK5
  go_wp2
  go_ret
  exact ⟨rfl, HE.out _ HK6.out⟩
end Go.Proofs.Ytbephnjnlcfapaa.Cl
