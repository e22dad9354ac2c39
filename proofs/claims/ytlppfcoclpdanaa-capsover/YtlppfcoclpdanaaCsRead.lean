/-
  Layer 12 (caps): contracts of Set, Parent, Children, over the translated program.
-/
import Derived.Test.YtlppfcoclpdanaaCsFree
namespace Go.Proofs.Ytlppfcoclpdanaa.Cs
open Go.ChangeShapes Go.WideShapes Go.ChangeAt Go.RowKit
open Wh Sn
set_option linter.unusedVariables false
set_option maxRecDepth 20000

/-- Two boxes that are made one behind the other. -/
theorem two_box (w : World) (cs ds : List Value) (t t' : TypeId) :
    ((w.alloc (.cells cs.toArray t)).alloc (.cells ds.toArray t')).rangeAt w.heap.size 0 cs ∧ ((w.alloc (.cells cs.toArray t)).alloc (.cells ds.toArray t')).rangeAt (w.heap.size + 1) 0 ds ∧
      ((w.alloc (.cells cs.toArray t)).alloc (.cells ds.toArray t')).there (w.heap.size + 1) 0 ds.length ∧ ((w.alloc (.cells cs.toArray t)).alloc (.cells ds.toArray t')).heap.size = w.heap.size + 2 ∧
      But [] w ((w.alloc (.cells cs.toArray t)).alloc (.cells ds.toArray t')) := by
  have s1 : (w.alloc (.cells cs.toArray t)).heap.size = w.heap.size + 1 := by simp
  have c2 := new_range (w.alloc (.cells cs.toArray t)) ds t'
  have h2 := there_new (w.alloc (.cells cs.toArray t)) ds.toArray t' ds.length (by simp)
  rw [s1] at c2 h2
  exact ⟨range_keep (l := []) (new_range w cs t) ((But.refl [] _).alloc _) (by simp), c2, h2, by simp, ((But.refl [] w).alloc _).alloc _⟩
theorem there_cell {w : World} {b o n : Nat} (h : w.there b o n) {j : Nat} (hj : j < n) : w.frozen? ⟨b, o + j, none⟩ = false := (h j hj).2
theorem sizeStand : (Try.prog.info? 70).map (·.size) = some 3 := by kernel_rfl

theorem Off.nil (Z : List Nat) (n : Nat) : Off Z Option.none n := fun g off e => by cases e
/-- The numbers of a cap; none, if it is not there. -/
def setS (T : Tr) (at_ : Int) (g : Nat) : Nat → Bool := fun x => isB T at_ g && (T at_.toNat).st x
theorem setS_lim {T : Tr} (h : ∀ p, Lim (T p).st) (at_ : Int) (g : Nat) : Lim (setS T at_ g) := fun x hx => by unfold setS; rw [h _ x hx, Bool.and_false]
theorem setS_yes {T : Tr} {a g : Nat} (h : isB T a g = true) : setS T a g = (T a).st := funext fun x => by unfold setS; rw [h, Int.toNat_natCast, Bool.true_and]
theorem setS_no {T : Tr} {at_ : Int} {g : Nat} (h : isB T at_ g = false) (x : Nat) : setS T at_ g x = false := by unfold setS; rw [h, Bool.false_and]
/-- What Set ends in. -/
def Gts (w : World) (Z : List Nat) (f : Nat → Bool) (ok : Bool) (e : Ending) (w' : World) : Prop :=
  ∃ A n c, e = .returned (.tuple #[.agg #[.slice A n c], .bool ok]) ∧ SetAt w' 0 A n f ∧ Off Z A n ∧ But [] w w'
set_option maxHeartbeats 2000000 in
theorem Set_c (b m : Nat) (Z : List Nat) (T : Tr) (f : Nat → Value) (at_ : Int) (g : Nat) (w : World) (h : TrAt w b Z T m f) :
    Calls Try.prog 14 #[.pointer (some ⟨b, 0, none⟩), .agg #[.int .i64 at_, .int .u64 g]] w (Gts w Z (setS T at_ g) (isB T at_ g)) := by
  obtain ⟨B, hB⟩ : ∃ B, B = w.heap.size := ⟨_, rfl⟩
  obtain ⟨r1, r2, r3, r4, r5⟩ := two_box w [.int .i64 at_, .int .u64 g] [.slice none 0 0] 26 31
  obtain ⟨w0, hw0⟩ : ∃ w0, w0 = (w.alloc (.cells #[.int .i64 at_, .int .u64 g] 26)).alloc (.cells #[.slice none 0 0] 31) := ⟨_, rfl⟩
  rw [← hw0, ← hB] at r1 r2 r3 r4
  rw [← hw0] at r5
  have HC1 : Hid (w0.cell? ⟨B, 0, none⟩ = some (.int .i64 at_)) := range_cells r1 0 _ rfl
  have HC2 : Hid (w0.cell? ⟨B, 1, none⟩ = some (.int .u64 g)) := range_cells r1 1 _ rfl
  have HC3 : Hid (w0.cell? ⟨B + 1, 0, none⟩ = some (.slice none 0 0)) := range_cells r2 0 _ rfl
  have HF3 : Hid (w0.frozen? ⟨B + 1, 0, none⟩ = false) := there_cell r3 (j := 0) (by simp)
  have HS0 := hid r4
  have HK0 := hid r5
  have HBW := hid hB
  have H := hid h
  have H0 := hid (h.keep0 r5)
  clear h r1 r2 r3 r4 r5
  go_enter Try.func14, Try.ntmps14
  go_upto_region 1 with fail
  rw [← hw0, ← hB]
  clear hw0 hB
  have hc1 := HC1.out
  have hc2 := HC2.out
  go_wp2_with fail
  clear hc1 hc2
  refine (there_c b m Z T f at_ g w0 H0.out).mono ?_
  rintro e w1 ⟨rfl, k1⟩
  have hk1 := hid k1
  have hc1 := cell_keep HC1.out k1 (by simp)
  have hc3 := cell_keep HC3.out k1 (by simp)
  have hf3 : w1.frozen? ⟨B + 1, 0, none⟩ = false := (k1.frozen (p := ⟨B + 1, 0, none⟩) (lt_of_cell HC3.out) (by simp)).trans HF3.out
  have H1 := hid (H0.out.keep0 k1)
  clear k1
  by_cases hi : isB T at_ g = true
  · obtain ⟨a, rfl, ha, hg0, hga⟩ := isB_iff.1 hi
    have HI := hid (setS_yes hi)
    have HI2 := hid hi
    rw [hi]
    have haI : (a : Int) < 64 := by omega
    have haI0 : (0 : Int) ≤ (a : Int) := by omega
    clear hi hga
    go_upto_region 3 with fail
    refine wp_region_still_tail 8 (by kernel_rfl) (by kernel_rfl) ?_
    simp only [List.take_succ_cons, List.take_zero, List.drop_succ_cons, List.drop_zero]
    have H2 : Hid (TrAt w1.drew b Z T m f) := H1.out.keep0 (But.refl [] w1).drew
    have HK2 : Hid (But [] w w1.drew) := (HK0.out.trans hk1.out).drew
    change wpStill _ _ w1.drew _ _ _
    have hc1 : w1.drew.cell? ⟨B, 0, none⟩ = some (.int .i64 a) := hc1
    have hc3 : w1.drew.cell? ⟨B + 1, 0, none⟩ = some (.slice none 0 0) := hc3
    have hf3 : w1.drew.frozen? ⟨B + 1, 0, none⟩ = false := hf3
    obtain ⟨-, -, A, n, c, -, hcs, hs, ho⟩ := H.out.cells ha
    have HX := hid hs
    have HO := hid ho
    have hcs := cell_keep hcs HK2.out (by simp)
    clear hs ho
    repeat (first | still_step)
    refine wpStill_nil ?_
    change wpList _ _ _ _ _ w1.drew
    generalize w1.drew = w2 at *
    go_wp2
    refine bodyPost_ret (results_range rfl _ _ (B + 1) 0 [.slice A n c] _ rfl (range1 (World.cell?_setCell_same _ _ _ hc3)) Try.underlying31 rfl sizeSet) rfl ?_
    have hk : But [] w (w2.setCell ⟨B + 1, 0, none⟩ (.slice A n c)) := HK2.out.setCell (.inr (by have := HBW.out; show w.heap.size ≤ B + 1; omega)) _
    exact ⟨A, n, c, by rw [HI2.out]; rfl, by rw [HI.out]; exact HX.out.keep0 hk, HO.out, hk⟩
  · have hi : isB T at_ g = false := by simpa using hi
    have HI := hid (setS_no hi)
    have HI2 := hid hi
    rw [hi]
    clear hi
    have HK2 := hid (HK0.out.trans hk1.out)
    clear hk1
    go_wp2
    refine bodyPost_ret (results_range rfl _ _ (B + 1) 0 [.slice none 0 0] _ rfl (range1 (World.cell?_setCell_same _ _ _ hc3)) Try.underlying31 rfl sizeSet) rfl ?_
    have hk : But [] w (w1.setCell ⟨B + 1, 0, none⟩ (.slice none 0 0)) := HK2.out.setCell (.inr (by have := HBW.out; show w.heap.size ≤ B + 1; omega)) _
    exact ⟨none, 0, 0, by rw [HI2.out]; rfl, SetAt.nil _ _ HI.out, Off.nil _ _, hk⟩
end Go.Proofs.Ytlppfcoclpdanaa.Cs
