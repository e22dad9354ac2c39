/-
  Layer 12 (caps): contracts of Parent, Derive, Revoke, Drop and Cut of a nil tree, over the translated program.
-/
import Derived.Test.YtlppfcoclpdanaaCsDer
namespace Go.Proofs.Ytlppfcoclpdanaa.Cs
open Go.ChangeShapes Go.WideShapes Go.ChangeAt Go.RowKit
open Wh Sn
set_option linter.unusedVariables false
set_option maxRecDepth 20000

set_option maxHeartbeats 1000000 in
theorem Parent_nil (at_ : Int) (g : Nat) (w : World) :
    Calls Try.prog 15 #[.pointer none, .agg #[.int .i64 at_, .int .u64 g]] w fun e w' => e = .returned (.tuple #[.agg #[.int .i64 0, .int .u64 0], .bool false]) ∧ But [] w w' := by
  obtain ⟨B, hB⟩ : ∃ B, B = w.heap.size := ⟨_, rfl⟩
  obtain ⟨r1, r2, r3, r4, r5⟩ := two_box w [.int .i64 at_, .int .u64 g] [.int .i64 0, .int .u64 0] 26 26
  obtain ⟨w0, hw0⟩ : ∃ w0, w0 = (w.alloc (.cells #[.int .i64 at_, .int .u64 g] 26)).alloc (.cells #[.int .i64 0, .int .u64 0] 26) := ⟨_, rfl⟩
  rw [← hw0, ← hB] at r1 r2 r3 r4
  rw [← hw0] at r5
  have HC1 : Hid (w0.cell? ⟨B, 0, none⟩ = some (.int .i64 at_)) := range_cells r1 0 _ rfl
  have HC2 : Hid (w0.cell? ⟨B, 1, none⟩ = some (.int .u64 g)) := range_cells r1 1 _ rfl
  have HT3 : Hid (w0.there (B + 1) 0 2) := r3
  have HS0 := hid r4
  have HK0 := hid r5
  have HBW := hid hB
  clear r1 r2 r3 r4 r5
  go_enter Try.func15, Try.ntmps15
  go_upto_region 1 with fail
  rw [← hw0, ← hB]
  clear hw0 hB
  have hc1 := HC1.out
  have hc2 := HC2.out
  go_wp2_with fail
  clear hc1 hc2
  refine (there_nil at_ g w0).mono ?_
  rintro e w1 ⟨rfl, k1⟩
  have HT1 := hid (there_keep HT3.out k1 (by have := HS0.out; omega) (by simp))
  have HK1 := hid (HK0.out.trans k1)
  clear k1
  go_wp2_with (first
    | (refine wpList_store_mid rfl 26 _ _ rfl (B + 1) 0 #[.int .i64 0, .int .u64 0] rfl rfl ?ht sizeCap (capAll _ _) ?_; case ht => exact HT1.out))
  refine bodyPost_ret (results_range rfl _ _ (B + 1) 0 [.int .i64 0, .int .u64 0] _ rfl (World.rangeAt_setCells_same _ _ _ _ HT1.out) Try.underlying26 rfl sizeCap) rfl ?_
  exact ⟨rfl, HK1.out.setCells (.inr (by have := HBW.out; omega)) _ 0⟩
set_option maxHeartbeats 1000000 in
theorem Derive_nil (at_ : Int) (g : Nat) (A : Option Addr) (n c : Nat) (w : World) :
    Calls Try.prog 23 #[.pointer none, .agg #[.int .i64 at_, .int .u64 g], .agg #[.slice A n c]] w fun e w' =>
      e = .returned (.tuple #[.agg #[.int .i64 0, .int .u64 0], .int .i64 3]) ∧ But [] w w' := by
  obtain ⟨B, hB⟩ : ∃ B, B = w.heap.size := ⟨_, rfl⟩
  have r1 := boxes3 w at_ g A n c 26 31 26
  obtain ⟨w0, hw0⟩ : ∃ w0, w0 = ((w.alloc (.cells #[.int .i64 at_, .int .u64 g] 26)).alloc (.cells #[.slice A n c] 31)).alloc (.cells #[.int .i64 0, .int .u64 0] 26) := ⟨_, rfl⟩
  rw [← hw0, ← hB] at r1
  have HD0 := hid r1
  have HBW := hid hB
  clear r1
  go_enter Try.func23, Try.ntmps23
  go_upto_region 1 with fail
  rw [← hw0, ← hB]
  clear hw0 hB
  have hc1 := HD0.out.c1
  have hc2 := HD0.out.c2
  go_wp2_with fail
  clear hc1 hc2
  refine (there_nil at_ g w0).mono ?_
  rintro e w1 ⟨rfl, k1⟩
  have HD1 := hid (HD0.out.keep k1)
  clear k1
  go_wp2_with (first
    | (refine wpList_store_mid rfl 26 _ _ rfl (B + 2) 0 #[.int .i64 0, .int .u64 0] rfl rfl ?ht sizeCap (capAll _ _) ?_; case ht => exact HD1.out.th))
  refine bodyPost_ret (results_range rfl _ _ (B + 2) 0 [.int .i64 0, .int .u64 0] _ rfl (World.rangeAt_setCells_same _ _ _ _ HD1.out.th) Try.underlying26 rfl sizeCap) rfl ?_
  exact ⟨rfl, HD1.out.but.setCells (.inr (by have := HBW.out; omega)) _ 0⟩
set_option maxHeartbeats 1000000 in
theorem Revoke_nil (at_ : Int) (g : Nat) (w : World) :
    Calls Try.prog 24 #[.pointer none, .agg #[.int .i64 at_, .int .u64 g]] w fun e w' => e = .returned (.tuple #[.int .i64 0, .int .i64 3]) ∧ But [] w w' := by
  obtain ⟨B, hB⟩ : ∃ B, B = w.heap.size := ⟨_, rfl⟩
  obtain ⟨w0, hw0⟩ : ∃ w0, w0 = w.alloc (.cells #[.int .i64 at_, .int .u64 g] 26) := ⟨_, rfl⟩
  have hr := new_range w [.int .i64 at_, .int .u64 g] 26
  have HK0 : Hid (But [] w w0) := by show But _ _ _; rw [hw0]; exact (But.refl [] w).alloc _
  change (w.alloc (.cells #[.int .i64 at_, .int .u64 g] 26)).rangeAt _ _ _ at hr
  rw [← hw0, ← hB] at hr
  have hc1 : w0.cell? ⟨B, 0, none⟩ = some (.int .i64 at_) := range_cells hr 0 _ rfl
  have hc2 : w0.cell? ⟨B, 1, none⟩ = some (.int .u64 g) := range_cells hr 1 _ rfl
  clear hr
  go_enter Try.func24, Try.ntmps24
  go_upto_region 1 with fail
  rw [← hw0, ← hB]
  clear hw0 hB
  go_wp2_with fail
  clear hc1 hc2
  refine (there_nil at_ g w0).mono ?_
  rintro e w1 ⟨rfl, k1⟩
  have HK1 := hid (HK0.out.trans k1)
  clear k1
  go_wp2
  go_ret2
  exact ⟨rfl, HK1.out⟩
set_option maxHeartbeats 1000000 in
theorem Drop_nil (at_ : Int) (g : Nat) (w : World) :
    Calls Try.prog 25 #[.pointer none, .agg #[.int .i64 at_, .int .u64 g]] w fun e w' => e = .returned (.tuple #[.int .i64 0, .int .i64 3]) ∧ But [] w w' := by
  obtain ⟨B, hB⟩ : ∃ B, B = w.heap.size := ⟨_, rfl⟩
  obtain ⟨w0, hw0⟩ : ∃ w0, w0 = w.alloc (.cells #[.int .i64 at_, .int .u64 g] 26) := ⟨_, rfl⟩
  have hr := new_range w [.int .i64 at_, .int .u64 g] 26
  have HK0 : Hid (But [] w w0) := by show But _ _ _; rw [hw0]; exact (But.refl [] w).alloc _
  change (w.alloc (.cells #[.int .i64 at_, .int .u64 g] 26)).rangeAt _ _ _ at hr
  rw [← hw0, ← hB] at hr
  have HC1 : Hid (w0.cell? ⟨B, 0, none⟩ = some (.int .i64 at_)) := range_cells hr 0 _ rfl
  have HC2 : Hid (w0.cell? ⟨B, 1, none⟩ = some (.int .u64 g)) := range_cells hr 1 _ rfl
  clear hr
  go_enter Try.func25, Try.ntmps25
  go_upto_region 1 with fail
  rw [← hw0, ← hB]
  clear hw0 hB
  have hc1 := HC1.out
  have hc2 := HC2.out
  go_wp2_with fail
  clear hc1 hc2
  refine (there_nil at_ g w0).mono ?_
  rintro e w1 ⟨rfl, k1⟩
  have HK1 := hid (HK0.out.trans k1)
  have hc1 := cell_keep HC1.out k1 (by simp)
  have hc2 := cell_keep HC2.out k1 (by simp)
  clear k1
  go_wp2_with fail
  clear hc1 hc2
  refine (Revoke_nil at_ g w1).mono ?_
  rintro e w2 ⟨rfl, k2⟩
  have HK2 := hid (HK1.out.trans k2)
  clear k2
  go_wp2
  go_ret2
  exact ⟨rfl, HK2.out⟩
set_option maxHeartbeats 1000000 in
theorem Cut_nil (at_ : Int) (g : Nat) (A : Option Addr) (n c : Nat) (w : World) :
    Calls Try.prog 22 #[.pointer none, .agg #[.int .i64 at_, .int .u64 g], .agg #[.slice A n c]] w fun e w' => e = .returned (.tuple #[.int .i64 0, .int .i64 3]) ∧ But [] w w' := by
  obtain ⟨B, hB⟩ : ∃ B, B = w.heap.size := ⟨_, rfl⟩
  obtain ⟨r1, r2, r3, r4, r5⟩ := two_box w [.int .i64 at_, .int .u64 g] [.slice A n c] 26 31
  obtain ⟨w0, hw0⟩ : ∃ w0, w0 = (w.alloc (.cells #[.int .i64 at_, .int .u64 g] 26)).alloc (.cells #[.slice A n c] 31) := ⟨_, rfl⟩
  rw [← hw0, ← hB] at r1 r2 r3 r4
  rw [← hw0] at r5
  have hc1 : w0.cell? ⟨B, 0, none⟩ = some (.int .i64 at_) := range_cells r1 0 _ rfl
  have hc2 : w0.cell? ⟨B, 1, none⟩ = some (.int .u64 g) := range_cells r1 1 _ rfl
  have HK0 := hid r5
  clear r1 r2 r3 r4 r5
  go_enter Try.func22, Try.ntmps22
  go_upto_region 1 with fail
  rw [← hw0, ← hB]
  clear hw0 hB
  go_wp2_with fail
  clear hc1 hc2
  refine (there_nil at_ g w0).mono ?_
  rintro e w1 ⟨rfl, k1⟩
  have HK1 := hid (HK0.out.trans k1)
  clear k1
  go_wp2
  go_ret2
  exact ⟨rfl, HK1.out⟩
theorem len_nil (w : World) : Calls Try.prog 18 #[.agg #[.slice none 0 0]] w fun e w' => e = .returned (.int .i64 0) ∧ But [] w w' := by
  have := len_c none 0 0 0 (fun _ => false) w (SetAt.nil w 0 (fun _ => rfl))
  rwa [show (nums (fun _ => false) 1024).length = 0 by simp [nums]] at this
end Go.Proofs.Ytlppfcoclpdanaa.Cs
