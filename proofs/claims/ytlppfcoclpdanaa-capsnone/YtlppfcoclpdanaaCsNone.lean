/-
  Layer 12 (caps): the contract of the statement about a nil tree, over the translated program.
-/
import Derived.Test.YtlppfcoclpdanaaCsNil
import Derived.Test.YtlppfcoclpdanaaCsRev
import Derived.Test.YtlppfcoclpdanaaCsOv
import Derived.Test.YtlppfcoclpdanaaCsAwake
import Derived.Test.YtlppfcoclpdanaaFloat
namespace Go.Proofs.Ytlppfcoclpdanaa.Cs
open Go.ChangeShapes Go.WideShapes Go.ChangeAt Go.RowKit
open Wh Sn
set_option linter.unusedVariables false
set_option maxRecDepth 20000

set_option maxHeartbeats 4000000 in
theorem none_c (a x : Int) (G : Nat) (w : World) : Calls Try.prog 6 #[.agg #[.int .i64 a, .int .u64 G], .int .i64 x] w fun e w' => e = .returned (.bool true) ∧ But [] w w' := by
  obtain ⟨Bc, hBc⟩ : ∃ Bc, Bc = w.heap.size := ⟨_, rfl⟩
  have hb := new_range w [.int .i64 a, .int .u64 G] 26
  change (w.alloc (.cells #[.int .i64 a, .int .u64 G] 26)).rangeAt _ _ _ at hb
  rw [← hBc] at hb
  have HC0 := hid (range_cells hb 0 _ rfl)
  have HC1 := hid (range_cells hb 1 _ rfl)
  have HK0 : Hid (But [] w (w.alloc (.cells #[.int .i64 a, .int .u64 G] 26))) := (But.refl [] w).alloc _
  clear hb
  go_enter Try.func6, Try.ntmps6
  go_upto_region 2 with fail
  rw [← hBc]
  clear hBc
  generalize w.alloc (.cells #[.int .i64 a, .int .u64 G] 26) = w0 at *
  have hc0 := HC0.out
  have hc1 := HC1.out
  go_wp2_with fail
  refine (Set_nil a G w0).mono ?_
  rintro e w1 ⟨rfl, k1⟩
  have HK2 : Hid (But [] w0 (w1.alloc (.cells #[.slice none 0 0] 31))) := k1.alloc _
  clear k1 hc0 hc1
  go_upto_region 3 with fail
  generalize w1.alloc (.cells #[.slice none 0 0] 31) = w2 at *
  have hc0 := cell_keep HC0.out HK2.out (by simp)
  have hc1 := cell_keep HC1.out HK2.out (by simp)
  go_wp2_with fail
  refine (Parent_nil a G w2).mono ?_
  rintro e w3 ⟨rfl, k3⟩
  have HK4 : Hid (But [] w0 (w3.alloc (.cells #[.int .i64 0, .int .u64 0] 26))) := HK2.out.trans (k3.alloc _)
  clear k3 hc0 hc1 HK2
  go_upto_region 4 with fail
  generalize w3.alloc (.cells #[.int .i64 0, .int .u64 0] 26) = w4 at *
  have HC0 := hid (cell_keep HC0.out HK4.out (by simp))
  have HC1 := hid (cell_keep HC1.out HK4.out (by simp))
  have HK4 := hid (HK0.out.trans HK4.out)
  clear HK0
  go_cut [10, 11] from 30 to 36 (fun s10 s11 wx => s11 = .int .i64 3 ∧ But [] w4 wx)
  case first =>
    refine wp_region_noPanic ?_
    refine wp_region_held_drew (S := fun w' => But [] w4 w') (by kernel_rfl) (But.refl _ _).drew (fun hS0 => ?_)
    generalize w4.drew = wd at *
    refine held_take 0 (some 31) (.pointer none) rfl rfl (by kernel_rfl) (by kernel_rfl) (by kernel_rfl) (fun _ _ _ h => h) (Or.inl ⟨by rfl, fun w' hw' => by go_simp⟩) hS0 ?_
    simp only [Act.put, List.setIfInBounds_toArray, List.set_cons_zero, List.set_cons_succ]
    refine held_take 1 (some 32) (.agg #[.int .i64 a, .int .u64 G]) rfl rfl (by kernel_rfl) (by kernel_rfl) (by kernel_rfl) (fun _ _ _ h => h) (Or.inl ⟨by rfl, fun w' hw' => by have hq0 := cell_keep HC0.out hw' (by simp); have hq1 := cell_keep HC1.out hw' (by simp); go_simp⟩) hS0 ?_
    simp only [Act.put, List.setIfInBounds_toArray, List.set_cons_zero, List.set_cons_succ]
    refine held_two 2 7 rfl rfl (by kernel_rfl) (by rfl) (by rfl) (fun K hK => ?_) (fun K hK => ?_)
    · skip
      go_simp
      refine (Sn.of_c 0 5 _).mono ?_
      rintro e w41 ⟨A1, n1, c1, rfl, hs1, k41⟩
      go_wp2_with fail
      have hS1' : But [] w4 w41 := hS0.trans k41
      clear hs1
      refine hK.out _ _ hS1' (fun hS1 => ?_)
      clear hK K
      try simp only [Act.put, List.setIfInBounds_toArray, List.set_cons_zero, List.set_cons_succ]
      refine held_two 3 7 rfl rfl (by kernel_rfl) (by rfl) (by rfl) (fun K hK => ?_) (fun K hK => ?_)
      · skip
        go_simp
        refine (Derive_nil a G A1 n1 c1 _).mono ?_
        rintro e w42 ⟨rfl, k42⟩
        go_wp2_with fail
        have hS2' : But [] w4 w42 := hS1.trans k42
        skip
        refine hK.out _ _ hS2' (fun hS2 => ?_)
        clear hK K
        try simp only [Act.put, List.setIfInBounds_toArray, List.set_cons_zero, List.set_cons_succ]
        refine held_take 4 (some 30) (.tuple #[.agg #[.int .i64 0, .int .u64 0], .int .i64 3]) rfl rfl (by kernel_rfl) (by kernel_rfl) (by kernel_rfl) (fun _ _ _ h => h) (Or.inl ⟨by rfl, fun w' hw' => by go_simp⟩) hS2 ?_
        simp only [Act.put, List.setIfInBounds_toArray, List.set_cons_zero, List.set_cons_succ]
        refine held_take 5 (some 35) (.agg #[.int .i64 0, .int .u64 0]) rfl rfl (by kernel_rfl) (by kernel_rfl) (by kernel_rfl) (fun _ _ _ h => h) (Or.inl ⟨by rfl, fun w' hw' => by go_simp⟩) hS2 ?_
        simp only [Act.put, List.setIfInBounds_toArray, List.set_cons_zero, List.set_cons_succ]
        refine held_take 6 (some 36) (.int .i64 3) rfl rfl (by kernel_rfl) (by kernel_rfl) (by kernel_rfl) (fun _ _ _ h => h) (Or.inl ⟨by rfl, fun w' hw' => by go_simp⟩) hS2 ?_
        simp only [Act.put, List.setIfInBounds_toArray, List.set_cons_zero, List.set_cons_succ]
        refine held_one 7 rfl (by kernel_rfl) (by rfl) (fun K hK => ?_)
        go_simp
        obtain ⟨hA5, hlt6, hka9⟩ := made_box (w42) #[.int .i64 0, .int .u64 0] 26 2 rfl
        have hge7 : w4.heap.size ≤ (w42).heap.size := hS2.size
        have hS3' : But [] w4 (w42.alloc (.cells #[.int .i64 0, .int .u64 0] 26)) := hS2.alloc _
        generalize w42.alloc (.cells #[.int .i64 0, .int .u64 0] 26) = wa8 at *
        generalize hBx : (w42).heap.size = Bx4 at *
        have HBxBx4 : Hid ((w42).heap.size = Bx4) := hBx
        clear hBx
        refine hK.out _ _ hS3' (fun hS3 => ?_)
        clear hK K
        try simp only [Act.put, List.setIfInBounds_toArray, List.set_cons_zero, List.set_cons_succ]
        refine held_one 8 rfl (by kernel_rfl) (by rfl) (fun K hK => ?_)
        refine wp_store_mid _ _ _ rfl Bx4 0 ([.int .i64 0, .int .u64 0]).toArray rfl rfl hA5 sizeCap (capAll2 _ _) ?_
        have hS10' : But [] w4 (wa8.setCells Bx4 0 ([.int .i64 0, .int .u64 0])) := hS3.setCells (.inr hge7) _ _
        have hRhS10 : (wa8.setCells Bx4 0 ([.int .i64 0, .int .u64 0])).rangeAt Bx4 0 ([.int .i64 0, .int .u64 0]) := World.rangeAt_setCells_same _ _ _ _ hA5
        have hkhS10 : But [Bx4] wa8 (wa8.setCells Bx4 0 ([.int .i64 0, .int .u64 0])) := (But.refl _ _).setCells (by simp) _ _
        generalize wa8.setCells Bx4 0 ([.int .i64 0, .int .u64 0]) = wz11 at *
        refine hK.out _ _ hS10' (fun hS10 => ?_)
        clear hK K
        try simp only [Act.put]
        refine held_take 9 (some 11) (.int .i64 3) rfl rfl (by kernel_rfl) (by kernel_rfl) (by kernel_rfl) (fun _ _ _ h => h) (Or.inl ⟨by rfl, fun w' hw' => by go_simp⟩) hS10 ?_
        simp only [Act.put, List.setIfInBounds_toArray]
        refine wpAnyH_done (by kernel_rfl) ?_ _
        refine NoPanic.normal ?_
        go_wp2_with fail
        go_meet
        exact ⟨rfl, hS10⟩
      · skip
        go_simp
        obtain ⟨hA14, hlt15, hka18⟩ := made_box (w41) #[.int .i64 0, .int .u64 0] 26 2 rfl
        have hge16 : w4.heap.size ≤ (w41).heap.size := hS1.size
        have hS12' : But [] w4 (w41.alloc (.cells #[.int .i64 0, .int .u64 0] 26)) := hS1.alloc _
        generalize w41.alloc (.cells #[.int .i64 0, .int .u64 0] 26) = wa17 at *
        generalize hBx : (w41).heap.size = Bx13 at *
        have HBxBx13 : Hid ((w41).heap.size = Bx13) := hBx
        clear hBx
        refine hK.out _ _ hS12' (fun hS12 => ?_)
        clear hK K
        try simp only [Act.put, List.setIfInBounds_toArray, List.set_cons_zero, List.set_cons_succ]
        refine held_one 3 rfl (by kernel_rfl) (by rfl) (fun K hK => ?_)
        go_simp
        refine (Derive_nil a G A1 n1 c1 _).mono ?_
        rintro e w42 ⟨rfl, k42⟩
        go_wp2_with fail
        have hS19' : But [] w4 w42 := hS12.trans k42
        have hA20 := there_keep hA14 k42 hlt15 (by simp)
        have hlt21 := Nat.lt_of_lt_of_le hlt15 k42.size
        skip
        refine hK.out _ _ hS19' (fun hS19 => ?_)
        clear hK K
        try simp only [Act.put, List.setIfInBounds_toArray, List.set_cons_zero, List.set_cons_succ]
        refine held_take 4 (some 30) (.tuple #[.agg #[.int .i64 0, .int .u64 0], .int .i64 3]) rfl rfl (by kernel_rfl) (by kernel_rfl) (by kernel_rfl) (fun _ _ _ h => h) (Or.inl ⟨by rfl, fun w' hw' => by go_simp⟩) hS19 ?_
        simp only [Act.put, List.setIfInBounds_toArray, List.set_cons_zero, List.set_cons_succ]
        refine held_take 5 (some 35) (.agg #[.int .i64 0, .int .u64 0]) rfl rfl (by kernel_rfl) (by kernel_rfl) (by kernel_rfl) (fun _ _ _ h => h) (Or.inl ⟨by rfl, fun w' hw' => by go_simp⟩) hS19 ?_
        simp only [Act.put, List.setIfInBounds_toArray, List.set_cons_zero, List.set_cons_succ]
        refine held_take 6 (some 36) (.int .i64 3) rfl rfl (by kernel_rfl) (by kernel_rfl) (by kernel_rfl) (fun _ _ _ h => h) (Or.inl ⟨by rfl, fun w' hw' => by go_simp⟩) hS19 ?_
        simp only [Act.put, List.setIfInBounds_toArray, List.set_cons_zero, List.set_cons_succ]
        refine held_one 8 rfl (by kernel_rfl) (by rfl) (fun K hK => ?_)
        refine wp_store_mid _ _ _ rfl Bx13 0 ([.int .i64 0, .int .u64 0]).toArray rfl rfl hA20 sizeCap (capAll2 _ _) ?_
        have hS22' : But [] w4 (w42.setCells Bx13 0 ([.int .i64 0, .int .u64 0])) := hS19.setCells (.inr hge16) _ _
        have hRhS22 : (w42.setCells Bx13 0 ([.int .i64 0, .int .u64 0])).rangeAt Bx13 0 ([.int .i64 0, .int .u64 0]) := World.rangeAt_setCells_same _ _ _ _ hA20
        have hkhS22 : But [Bx13] w42 (w42.setCells Bx13 0 ([.int .i64 0, .int .u64 0])) := (But.refl _ _).setCells (by simp) _ _
        generalize w42.setCells Bx13 0 ([.int .i64 0, .int .u64 0]) = wz23 at *
        refine hK.out _ _ hS22' (fun hS22 => ?_)
        clear hK K
        try simp only [Act.put]
        refine held_take 9 (some 11) (.int .i64 3) rfl rfl (by kernel_rfl) (by kernel_rfl) (by kernel_rfl) (fun _ _ _ h => h) (Or.inl ⟨by rfl, fun w' hw' => by go_simp⟩) hS22 ?_
        simp only [Act.put, List.setIfInBounds_toArray]
        refine wpAnyH_done (by kernel_rfl) ?_ _
        refine NoPanic.normal ?_
        go_wp2_with fail
        go_meet
        exact ⟨rfl, hS22⟩
    · skip
      go_simp
      obtain ⟨hA26, hlt27, hka30⟩ := made_box (wd) #[.int .i64 0, .int .u64 0] 26 2 rfl
      have hge28 : w4.heap.size ≤ (wd).heap.size := hS0.size
      have hS24' : But [] w4 (wd.alloc (.cells #[.int .i64 0, .int .u64 0] 26)) := hS0.alloc _
      generalize wd.alloc (.cells #[.int .i64 0, .int .u64 0] 26) = wa29 at *
      generalize hBx : (wd).heap.size = Bx25 at *
      have HBxBx25 : Hid ((wd).heap.size = Bx25) := hBx
      clear hBx
      refine hK.out _ _ hS24' (fun hS24 => ?_)
      clear hK K
      try simp only [Act.put, List.setIfInBounds_toArray, List.set_cons_zero, List.set_cons_succ]
      refine held_one 2 rfl (by kernel_rfl) (by rfl) (fun K hK => ?_)
      go_simp
      refine (Sn.of_c 0 5 _).mono ?_
      rintro e w41 ⟨A1, n1, c1, rfl, hs1, k41⟩
      go_wp2_with fail
      have hS31' : But [] w4 w41 := hS24.trans k41
      have hA32 := there_keep hA26 k41 hlt27 (by simp)
      have hlt33 := Nat.lt_of_lt_of_le hlt27 k41.size
      clear hs1
      refine hK.out _ _ hS31' (fun hS31 => ?_)
      clear hK K
      try simp only [Act.put, List.setIfInBounds_toArray, List.set_cons_zero, List.set_cons_succ]
      refine held_one 3 rfl (by kernel_rfl) (by rfl) (fun K hK => ?_)
      go_simp
      refine (Derive_nil a G A1 n1 c1 _).mono ?_
      rintro e w42 ⟨rfl, k42⟩
      go_wp2_with fail
      have hS34' : But [] w4 w42 := hS31.trans k42
      have hA35 := there_keep hA32 k42 hlt33 (by simp)
      have hlt36 := Nat.lt_of_lt_of_le hlt33 k42.size
      skip
      refine hK.out _ _ hS34' (fun hS34 => ?_)
      clear hK K
      try simp only [Act.put, List.setIfInBounds_toArray, List.set_cons_zero, List.set_cons_succ]
      refine held_take 4 (some 30) (.tuple #[.agg #[.int .i64 0, .int .u64 0], .int .i64 3]) rfl rfl (by kernel_rfl) (by kernel_rfl) (by kernel_rfl) (fun _ _ _ h => h) (Or.inl ⟨by rfl, fun w' hw' => by go_simp⟩) hS34 ?_
      simp only [Act.put, List.setIfInBounds_toArray, List.set_cons_zero, List.set_cons_succ]
      refine held_take 5 (some 35) (.agg #[.int .i64 0, .int .u64 0]) rfl rfl (by kernel_rfl) (by kernel_rfl) (by kernel_rfl) (fun _ _ _ h => h) (Or.inl ⟨by rfl, fun w' hw' => by go_simp⟩) hS34 ?_
      simp only [Act.put, List.setIfInBounds_toArray, List.set_cons_zero, List.set_cons_succ]
      refine held_take 6 (some 36) (.int .i64 3) rfl rfl (by kernel_rfl) (by kernel_rfl) (by kernel_rfl) (fun _ _ _ h => h) (Or.inl ⟨by rfl, fun w' hw' => by go_simp⟩) hS34 ?_
      simp only [Act.put, List.setIfInBounds_toArray, List.set_cons_zero, List.set_cons_succ]
      refine held_one 8 rfl (by kernel_rfl) (by rfl) (fun K hK => ?_)
      refine wp_store_mid _ _ _ rfl Bx25 0 ([.int .i64 0, .int .u64 0]).toArray rfl rfl hA35 sizeCap (capAll2 _ _) ?_
      have hS37' : But [] w4 (w42.setCells Bx25 0 ([.int .i64 0, .int .u64 0])) := hS34.setCells (.inr hge28) _ _
      have hRhS37 : (w42.setCells Bx25 0 ([.int .i64 0, .int .u64 0])).rangeAt Bx25 0 ([.int .i64 0, .int .u64 0]) := World.rangeAt_setCells_same _ _ _ _ hA35
      have hkhS37 : But [Bx25] w42 (w42.setCells Bx25 0 ([.int .i64 0, .int .u64 0])) := (But.refl _ _).setCells (by simp) _ _
      generalize w42.setCells Bx25 0 ([.int .i64 0, .int .u64 0]) = wz38 at *
      refine hK.out _ _ hS37' (fun hS37 => ?_)
      clear hK K
      try simp only [Act.put]
      refine held_take 9 (some 11) (.int .i64 3) rfl rfl (by kernel_rfl) (by kernel_rfl) (by kernel_rfl) (fun _ _ _ h => h) (Or.inl ⟨by rfl, fun w' hw' => by go_simp⟩) hS37 ?_
      simp only [Act.put, List.setIfInBounds_toArray]
      refine wpAnyH_done (by kernel_rfl) ?_ _
      refine NoPanic.normal ?_
      go_wp2_with fail
      go_meet
      exact ⟨rfl, hS37⟩
  case rest =>
  obtain ⟨rfl, k5⟩ := hcut
  rename World => w5
  have HC0 := hid (cell_keep HC0.out k5 (by simp))
  have HC1 := hid (cell_keep HC1.out k5 (by simp))
  have HK5 := hid (HK4.out.trans k5)
  have hc0 := HC0.out
  have hc1 := HC1.out
  clear k5 HK4
  go_wp2_with fail
  refine (Revoke_nil a G w5).mono ?_
  rintro e w6 ⟨rfl, k6⟩
  have HC0 := hid (cell_keep HC0.out k6 (by simp))
  have HC1 := hid (cell_keep HC1.out k6 (by simp))
  have HK6 := hid (HK5.out.trans k6)
  clear hc0 hc1 k6 HK5
  have hc0 := HC0.out
  have hc1 := HC1.out
  go_wp2_with fail
  refine (Drop_nil a G w6).mono ?_
  rintro e w7 ⟨rfl, k7⟩
  have HC0 := hid (cell_keep HC0.out k7 (by simp))
  have HC1 := hid (cell_keep HC1.out k7 (by simp))
  have HK7 := hid (HK6.out.trans k7)
  clear hc0 hc1 k7 HK6
  go_upto_region 7 with fail
  refine wp_region_noPanic ?_
  refine wp_region_held_drew (S := fun w' => But [] w7 w') (by kernel_rfl) (But.refl _ _).drew (fun hS0 => ?_)
  generalize w7.drew = wd at *
  refine held_take 0 (some 50) (.pointer none) rfl rfl (by kernel_rfl) (by kernel_rfl) (by kernel_rfl) (fun _ _ _ h => h) (Or.inl ⟨by rfl, fun w' hw' => by go_simp⟩) hS0 ?_
  simp only [Act.put, List.setIfInBounds_toArray, List.set_cons_zero, List.set_cons_succ]
  refine held_take 1 (some 51) (.agg #[.int .i64 a, .int .u64 G]) rfl rfl (by kernel_rfl) (by kernel_rfl) (by kernel_rfl) (fun _ _ _ h => h) (Or.inl ⟨by rfl, fun w' hw' => by have hq0 := cell_keep HC0.out hw' (by simp); have hq1 := cell_keep HC1.out hw' (by simp); go_simp⟩) hS0 ?_
  simp only [Act.put, List.setIfInBounds_toArray, List.set_cons_zero, List.set_cons_succ]
  refine held_one 2 rfl (by kernel_rfl) (by rfl) (fun K hK => ?_)
  go_simp
  refine (Sn.of_c 0 5 _).mono ?_
  rintro e w71 ⟨A1, n1, c1, rfl, hs1, k71⟩
  go_wp2_with fail
  have hS1' : But [] w7 w71 := hS0.trans k71
  clear hs1
  refine hK.out _ _ hS1' (fun hS1 => ?_)
  clear hK K
  try simp only [Act.put, List.setIfInBounds_toArray, List.set_cons_zero, List.set_cons_succ]
  refine held_one 3 rfl (by kernel_rfl) (by rfl) (fun K hK => ?_)
  go_simp
  refine (Cut_nil a G A1 n1 c1 _).mono ?_
  rintro e w72 ⟨rfl, k72⟩
  go_wp2_with fail
  have hS2' : But [] w7 w72 := hS1.trans k72
  skip
  refine hK.out _ _ hS2' (fun hS2 => ?_)
  clear hK K
  try simp only [Act.put, List.setIfInBounds_toArray, List.set_cons_zero, List.set_cons_succ]
  refine held_take 4 (some 49) (.tuple #[.int .i64 0, .int .i64 3]) rfl rfl (by kernel_rfl) (by kernel_rfl) (by kernel_rfl) (fun _ _ _ h => h) (Or.inl ⟨by rfl, fun w' hw' => by go_simp⟩) hS2 ?_
  simp only [Act.put, List.setIfInBounds_toArray, List.set_cons_zero, List.set_cons_succ]
  refine held_take 5 (some 54) (.int .i64 0) rfl rfl (by kernel_rfl) (by kernel_rfl) (by kernel_rfl) (fun _ _ _ h => h) (Or.inl ⟨by rfl, fun w' hw' => by go_simp⟩) hS2 ?_
  simp only [Act.put, List.setIfInBounds_toArray, List.set_cons_zero, List.set_cons_succ]
  refine held_take 6 (some 55) (.int .i64 3) rfl rfl (by kernel_rfl) (by kernel_rfl) (by kernel_rfl) (fun _ _ _ h => h) (Or.inl ⟨by rfl, fun w' hw' => by go_simp⟩) hS2 ?_
  simp only [Act.put, List.setIfInBounds_toArray, List.set_cons_zero, List.set_cons_succ]
  refine held_take 7 (some 16) (.int .i64 0) rfl rfl (by kernel_rfl) (by kernel_rfl) (by kernel_rfl) (fun _ _ _ h => h) (Or.inl ⟨by rfl, fun w' hw' => by go_simp⟩) hS2 ?_
  simp only [Act.put, List.setIfInBounds_toArray, List.set_cons_zero, List.set_cons_succ]
  refine held_take 8 (some 17) (.int .i64 3) rfl rfl (by kernel_rfl) (by kernel_rfl) (by kernel_rfl) (fun _ _ _ h => h) (Or.inl ⟨by rfl, fun w' hw' => by go_simp⟩) hS2 ?_
  simp only [Act.put, List.setIfInBounds_toArray, List.set_cons_zero, List.set_cons_succ]
  refine wpAnyH_done (by kernel_rfl) ?_ _
  refine NoPanic.normal ?_
  have hS8 := hS2
  clear hS2
  generalize w72 = w8 at *
  have HC0 := hid (cell_keep HC0.out hS8 (by simp))
  have HC1 := hid (cell_keep HC1.out hS8 (by simp))
  have HK8 := hid (HK7.out.trans hS8)
  clear hS8 HK7
  go_upto_region 8 with fail
  refine wp_region_noPanic ?_
  refine wp_region_held_drew (S := fun w' => But [] w8 w') (by kernel_rfl) (But.refl _ _).drew (fun hS0 => ?_)
  generalize w8.drew = wd at *
  refine held_take 0 (some 56) (.bool false) rfl rfl (by kernel_rfl) (by kernel_rfl) (by kernel_rfl) (fun _ _ _ h => h) (Or.inl ⟨by rfl, fun w' hw' => by go_simp⟩) hS0 ?_
  simp only [Act.put, List.setIfInBounds_toArray, List.set_cons_zero, List.set_cons_succ]
  refine held_take 1 (some 57) (.bool true) rfl rfl (by kernel_rfl) (by kernel_rfl) (by kernel_rfl) (fun _ _ _ h => h) (Or.inl ⟨by rfl, fun w' hw' => by go_simp⟩) hS0 ?_
  simp only [Act.put, List.setIfInBounds_toArray, List.set_cons_zero, List.set_cons_succ]
  refine held_take 2 (some 58) (.bool true) rfl rfl (by kernel_rfl) (by kernel_rfl) (by kernel_rfl) (fun _ _ _ h => h) (Or.inl ⟨by rfl, fun w' hw' => by go_simp⟩) hS0 ?_
  simp only [Act.put, List.setIfInBounds_toArray, List.set_cons_zero, List.set_cons_succ]
  refine held_take 3 (some 59) (.bool false) rfl rfl (by kernel_rfl) (by kernel_rfl) (by kernel_rfl) (fun _ _ _ h => h) (Or.inl ⟨by rfl, fun w' hw' => by go_simp⟩) hS0 ?_
  simp only [Act.put, List.setIfInBounds_toArray, List.set_cons_zero, List.set_cons_succ]
  refine held_take 4 (some 60) (.bool true) rfl rfl (by kernel_rfl) (by kernel_rfl) (by kernel_rfl) (fun _ _ _ h => h) (Or.inl ⟨by rfl, fun w' hw' => by go_simp⟩) hS0 ?_
  simp only [Act.put, List.setIfInBounds_toArray, List.set_cons_zero, List.set_cons_succ]
  refine held_take 5 (some 61) (.bool true) rfl rfl (by kernel_rfl) (by kernel_rfl) (by kernel_rfl) (fun _ _ _ h => h) (Or.inl ⟨by rfl, fun w' hw' => by go_simp⟩) hS0 ?_
  simp only [Act.put, List.setIfInBounds_toArray, List.set_cons_zero, List.set_cons_succ]
  refine held_take 6 (some 62) (.bool true) rfl rfl (by kernel_rfl) (by kernel_rfl) (by kernel_rfl) (fun _ _ _ h => h) (Or.inl ⟨by rfl, fun w' hw' => by go_simp⟩) hS0 ?_
  simp only [Act.put, List.setIfInBounds_toArray, List.set_cons_zero, List.set_cons_succ]
  refine held_take 7 (some 63) (.int .i64 3) rfl rfl (by kernel_rfl) (by kernel_rfl) (by kernel_rfl) (fun _ _ _ h => h) (Or.inl ⟨by rfl, fun w' hw' => by go_simp⟩) hS0 ?_
  simp only [Act.put, List.setIfInBounds_toArray, List.set_cons_zero, List.set_cons_succ]
  refine held_take 8 (some 64) (.bool true) rfl rfl (by kernel_rfl) (by kernel_rfl) (by kernel_rfl) (fun _ _ _ h => h) (Or.inl ⟨by rfl, fun w' hw' => by go_simp⟩) hS0 ?_
  simp only [Act.put, List.setIfInBounds_toArray, List.set_cons_zero, List.set_cons_succ]
  refine held_take 9 (some 65) (.bool true) rfl rfl (by kernel_rfl) (by kernel_rfl) (by kernel_rfl) (fun _ _ _ h => h) (Or.inl ⟨by rfl, fun w' hw' => by go_simp⟩) hS0 ?_
  simp only [Act.put, List.setIfInBounds_toArray, List.set_cons_zero, List.set_cons_succ]
  refine held_take 10 (some 66) (.bool true) rfl rfl (by kernel_rfl) (by kernel_rfl) (by kernel_rfl) (fun _ _ _ h => h) (Or.inl ⟨by rfl, fun w' hw' => by go_simp⟩) hS0 ?_
  simp only [Act.put, List.setIfInBounds_toArray, List.set_cons_zero, List.set_cons_succ]
  refine held_take 11 (some 67) (.int .i64 3) rfl rfl (by kernel_rfl) (by kernel_rfl) (by kernel_rfl) (fun _ _ _ h => h) (Or.inl ⟨by rfl, fun w' hw' => by go_simp⟩) hS0 ?_
  simp only [Act.put, List.setIfInBounds_toArray, List.set_cons_zero, List.set_cons_succ]
  refine held_take 12 (some 68) (.bool true) rfl rfl (by kernel_rfl) (by kernel_rfl) (by kernel_rfl) (fun _ _ _ h => h) (Or.inl ⟨by rfl, fun w' hw' => by go_simp⟩) hS0 ?_
  simp only [Act.put, List.setIfInBounds_toArray, List.set_cons_zero, List.set_cons_succ]
  refine held_take 13 (some 69) (.bool true) rfl rfl (by kernel_rfl) (by kernel_rfl) (by kernel_rfl) (fun _ _ _ h => h) (Or.inl ⟨by rfl, fun w' hw' => by go_simp⟩) hS0 ?_
  simp only [Act.put, List.setIfInBounds_toArray, List.set_cons_zero, List.set_cons_succ]
  refine held_take 14 (some 70) (.bool true) rfl rfl (by kernel_rfl) (by kernel_rfl) (by kernel_rfl) (fun _ _ _ h => h) (Or.inl ⟨by rfl, fun w' hw' => by go_simp⟩) hS0 ?_
  simp only [Act.put, List.setIfInBounds_toArray, List.set_cons_zero, List.set_cons_succ]
  refine held_take 15 (some 71) (.int .i64 3) rfl rfl (by kernel_rfl) (by kernel_rfl) (by kernel_rfl) (fun _ _ _ h => h) (Or.inl ⟨by rfl, fun w' hw' => by go_simp⟩) hS0 ?_
  simp only [Act.put, List.setIfInBounds_toArray, List.set_cons_zero, List.set_cons_succ]
  refine held_take 16 (some 72) (.bool true) rfl rfl (by kernel_rfl) (by kernel_rfl) (by kernel_rfl) (fun _ _ _ h => h) (Or.inl ⟨by rfl, fun w' hw' => by go_simp⟩) hS0 ?_
  simp only [Act.put, List.setIfInBounds_toArray, List.set_cons_zero, List.set_cons_succ]
  refine held_take 17 (some 73) (.bool true) rfl rfl (by kernel_rfl) (by kernel_rfl) (by kernel_rfl) (fun _ _ _ h => h) (Or.inl ⟨by rfl, fun w' hw' => by go_simp⟩) hS0 ?_
  simp only [Act.put, List.setIfInBounds_toArray, List.set_cons_zero, List.set_cons_succ]
  refine held_take 18 (some 74) (.bool true) rfl rfl (by kernel_rfl) (by kernel_rfl) (by kernel_rfl) (fun _ _ _ h => h) (Or.inl ⟨by rfl, fun w' hw' => by go_simp⟩) hS0 ?_
  simp only [Act.put, List.setIfInBounds_toArray, List.set_cons_zero, List.set_cons_succ]
  refine held_take 19 (some 75) (.int .i64 3) rfl rfl (by kernel_rfl) (by kernel_rfl) (by kernel_rfl) (fun _ _ _ h => h) (Or.inl ⟨by rfl, fun w' hw' => by go_simp⟩) hS0 ?_
  simp only [Act.put, List.setIfInBounds_toArray, List.set_cons_zero, List.set_cons_succ]
  refine held_take 20 (some 76) (.bool true) rfl rfl (by kernel_rfl) (by kernel_rfl) (by kernel_rfl) (fun _ _ _ h => h) (Or.inl ⟨by rfl, fun w' hw' => by go_simp⟩) hS0 ?_
  simp only [Act.put, List.setIfInBounds_toArray, List.set_cons_zero, List.set_cons_succ]
  refine held_take 21 (some 77) (.bool true) rfl rfl (by kernel_rfl) (by kernel_rfl) (by kernel_rfl) (fun _ _ _ h => h) (Or.inl ⟨by rfl, fun w' hw' => by go_simp⟩) hS0 ?_
  simp only [Act.put, List.setIfInBounds_toArray, List.set_cons_zero, List.set_cons_succ]
  refine held_take 22 (some 78) (.bool true) rfl rfl (by kernel_rfl) (by kernel_rfl) (by kernel_rfl) (fun _ _ _ h => h) (Or.inl ⟨by rfl, fun w' hw' => by go_simp⟩) hS0 ?_
  simp only [Act.put, List.setIfInBounds_toArray, List.set_cons_zero, List.set_cons_succ]
  refine held_take 23 (some 79) (.pointer none) rfl rfl (by kernel_rfl) (by kernel_rfl) (by kernel_rfl) (fun _ _ _ h => h) (Or.inl ⟨by rfl, fun w' hw' => by go_simp⟩) hS0 ?_
  simp only [Act.put, List.setIfInBounds_toArray, List.set_cons_zero, List.set_cons_succ]
  refine held_take 24 (some 80) (.agg #[.int .i64 a, .int .u64 G]) rfl rfl (by kernel_rfl) (by kernel_rfl) (by kernel_rfl) (fun _ _ _ h => h) (Or.inl ⟨by rfl, fun w' hw' => by have hq0 := cell_keep HC0.out hw' (by simp); have hq1 := cell_keep HC1.out hw' (by simp); go_simp⟩) hS0 ?_
  simp only [Act.put, List.setIfInBounds_toArray, List.set_cons_zero, List.set_cons_succ]
  refine held_take 27 (some 83) (.pointer none) rfl rfl (by kernel_rfl) (by kernel_rfl) (by kernel_rfl) (fun _ _ _ h => h) (Or.inl ⟨by rfl, fun w' hw' => by go_simp⟩) hS0 ?_
  simp only [Act.put, List.setIfInBounds_toArray, List.set_cons_zero, List.set_cons_succ]
  refine held_take 28 (some 84) (.agg #[.int .i64 a, .int .u64 G]) rfl rfl (by kernel_rfl) (by kernel_rfl) (by kernel_rfl) (fun _ _ _ h => h) (Or.inl ⟨by rfl, fun w' hw' => by have hq0 := cell_keep HC0.out hw' (by simp); have hq1 := cell_keep HC1.out hw' (by simp); go_simp⟩) hS0 ?_
  simp only [Act.put, List.setIfInBounds_toArray, List.set_cons_zero, List.set_cons_succ]
  refine held_take 32 (some 88) (.pointer none) rfl rfl (by kernel_rfl) (by kernel_rfl) (by kernel_rfl) (fun _ _ _ h => h) (Or.inl ⟨by rfl, fun w' hw' => by go_simp⟩) hS0 ?_
  simp only [Act.put, List.setIfInBounds_toArray, List.set_cons_zero, List.set_cons_succ]
  refine held_take 35 (some 91) (.pointer none) rfl rfl (by kernel_rfl) (by kernel_rfl) (by kernel_rfl) (fun _ _ _ h => h) (Or.inl ⟨by rfl, fun w' hw' => by go_simp⟩) hS0 ?_
  simp only [Act.put, List.setIfInBounds_toArray, List.set_cons_zero, List.set_cons_succ]
  refine held_take 36 (some 92) (.int .i64 x) rfl rfl (by kernel_rfl) (by kernel_rfl) (by kernel_rfl) (fun _ _ _ h => h) (Or.inl ⟨by rfl, fun w' hw' => by go_simp⟩) hS0 ?_
  simp only [Act.put, List.setIfInBounds_toArray, List.set_cons_zero, List.set_cons_succ]
  refine held_one 25 rfl (by kernel_rfl) (by rfl) (fun K hK => ?_)
  go_simp
  refine (Children_nil a G _).mono ?_
  rintro e w81 ⟨rfl, k81⟩
  go_wp2_with fail
  have hS1' : But [] w8 w81 := hS0.trans k81
  skip
  refine hK.out _ _ hS1' (fun hS1 => ?_)
  clear hK K
  try simp only [Act.put, List.setIfInBounds_toArray, List.set_cons_zero, List.set_cons_succ]
  refine held_take 26 (some 82) (.int .i64 0) rfl rfl (by kernel_rfl) (by kernel_rfl) (by kernel_rfl) (fun _ _ _ h => h) (Or.inl ⟨by rfl, fun w' hw' => by go_simp⟩) hS1 ?_
  simp only [Act.put, List.setIfInBounds_toArray, List.set_cons_zero, List.set_cons_succ]
  refine held_one 29 rfl (by kernel_rfl) (by rfl) (fun K hK => ?_)
  go_simp
  refine (Lent_nil a G _).mono ?_
  rintro e w85 ⟨rfl, k85⟩
  go_wp2_with fail
  have hS2' : But [] w8 w85 := hS1.trans k85
  skip
  refine hK.out _ _ hS2' (fun hS2 => ?_)
  clear hK K
  try simp only [Act.put, List.setIfInBounds_toArray, List.set_cons_zero, List.set_cons_succ]
  refine held_one 30 rfl (by kernel_rfl) (by rfl) (fun K hK => ?_)
  go_simp
  refine (len_nil  _).mono ?_
  rintro e w86 ⟨rfl, k86⟩
  go_wp2_with fail
  have hS3' : But [] w8 w86 := hS2.trans k86
  skip
  refine hK.out _ _ hS3' (fun hS3 => ?_)
  clear hK K
  try simp only [Act.put, List.setIfInBounds_toArray, List.set_cons_zero, List.set_cons_succ]
  refine held_take 31 (some 87) (.int .i64 0) rfl rfl (by kernel_rfl) (by kernel_rfl) (by kernel_rfl) (fun _ _ _ h => h) (Or.inl ⟨by rfl, fun w' hw' => by go_simp; rfl⟩) hS3 ?_
  simp only [Act.put, List.setIfInBounds_toArray, List.set_cons_zero, List.set_cons_succ]
  refine held_one 33 rfl (by kernel_rfl) (by rfl) (fun K hK => ?_)
  go_simp
  refine (Len_nil  _).mono ?_
  rintro e w89 ⟨rfl, k89⟩
  go_wp2_with fail
  have hS4' : But [] w8 w89 := hS3.trans k89
  skip
  refine hK.out _ _ hS4' (fun hS4 => ?_)
  clear hK K
  try simp only [Act.put, List.setIfInBounds_toArray, List.set_cons_zero, List.set_cons_succ]
  refine held_take 34 (some 90) (.int .i64 0) rfl rfl (by kernel_rfl) (by kernel_rfl) (by kernel_rfl) (fun _ _ _ h => h) (Or.inl ⟨by rfl, fun w' hw' => by go_simp; rfl⟩) hS4 ?_
  simp only [Act.put, List.setIfInBounds_toArray, List.set_cons_zero, List.set_cons_succ]
  refine held_one 37 rfl (by kernel_rfl) (by rfl) (fun K hK => ?_)
  go_simp
  refine (Over_nil x _).mono ?_
  rintro e w93 ⟨rfl, k93⟩
  go_wp2_with fail
  have hS5' : But [] w8 w93 := hS4.trans k93
  skip
  refine hK.out _ _ hS5' (fun hS5 => ?_)
  clear hK K
  try simp only [Act.put, List.setIfInBounds_toArray, List.set_cons_zero, List.set_cons_succ]
  refine held_take 38 (some 94) (.int .i64 0) rfl rfl (by kernel_rfl) (by kernel_rfl) (by kernel_rfl) (fun _ _ _ h => h) (Or.inl ⟨by rfl, fun w' hw' => by go_simp⟩) hS5 ?_
  simp only [Act.put, List.setIfInBounds_toArray, List.set_cons_zero, List.set_cons_succ]
  refine held_take 39 (some 95) (.int .i64 0) rfl rfl (by kernel_rfl) (by kernel_rfl) (by kernel_rfl) (fun _ _ _ h => h) (Or.inl ⟨by rfl, fun w' hw' => by go_simp; rfl⟩) hS5 ?_
  simp only [Act.put, List.setIfInBounds_toArray, List.set_cons_zero, List.set_cons_succ]
  refine held_take 40 (some 96) (.bool true) rfl rfl (by kernel_rfl) (by kernel_rfl) (by kernel_rfl) (fun _ _ _ h => h) (Or.inl ⟨by rfl, fun w' hw' => by go_simp⟩) hS5 ?_
  simp only [Act.put, List.setIfInBounds_toArray, List.set_cons_zero, List.set_cons_succ]
  refine held_take 41 (some 97) (.bool true) rfl rfl (by kernel_rfl) (by kernel_rfl) (by kernel_rfl) (fun _ _ _ h => h) (Or.inl ⟨by rfl, fun w' hw' => by go_simp⟩) hS5 ?_
  simp only [Act.put, List.setIfInBounds_toArray, List.set_cons_zero, List.set_cons_succ]
  refine held_take 42 (some 98) (.bool true) rfl rfl (by kernel_rfl) (by kernel_rfl) (by kernel_rfl) (fun _ _ _ h => h) (Or.inl ⟨by rfl, fun w' hw' => by go_simp⟩) hS5 ?_
  simp only [Act.put, List.setIfInBounds_toArray, List.set_cons_zero, List.set_cons_succ]
  refine held_one 43 rfl (by kernel_rfl) (by rfl) (fun K hK => ?_)
  go_simp
  refine (awake_c  _).mono ?_
  rintro e w99 ⟨rfl, k99⟩
  go_wp2_with fail
  have hS6' : But [] w8 w99 := hS5.trans k99
  skip
  refine hK.out _ _ hS6' (fun hS6 => ?_)
  clear hK K
  try simp only [Act.put, List.setIfInBounds_toArray, List.set_cons_zero, List.set_cons_succ]
  refine held_take 44 (some 100) (.bool true) rfl rfl (by kernel_rfl) (by kernel_rfl) (by kernel_rfl) (fun _ _ _ h => h) (Or.inl ⟨by rfl, fun w' hw' => by go_simp⟩) hS6 ?_
  simp only [Act.put, List.setIfInBounds_toArray, List.set_cons_zero, List.set_cons_succ]
  refine held_take 45 (some 4) (.bool true) rfl rfl (by kernel_rfl) (by kernel_rfl) (by kernel_rfl) (fun _ _ _ h => h) (Or.inl ⟨by rfl, fun w' hw' => by go_simp⟩) hS6 ?_
  simp only [Act.put, List.setIfInBounds_toArray, List.set_cons_zero, List.set_cons_succ]
  refine wpAnyH_done (by kernel_rfl) ?_ _
  refine NoPanic.normal ?_
  have hS9 := hS6
  clear hS6
  generalize w99 = w9 at *
  have HK9 := hid (HK8.out.trans hS9)
  clear hS9 HK8
  go_wp2
  go_ret
  exact ⟨rfl, HK9.out⟩
end Go.Proofs.Ytlppfcoclpdanaa.Cs
