/-
  Whatever the input, the Go function SpanLays answers true, and its arguments read behind the call as they read before. No condition.
-/
import Derived.Test.YtjidgpomolmglaaRows
import Derived.Test.YtjidgpomolmglaaSnLaw
import Derived.WalkKit
import Derived.Deep.RegionHeld3
import Derived.ProofKit
import Derived.OpenShut
import Derived.ShutString
import Derived.ChangeOld
import Derived.Below
import Derived.Carry
namespace Go.Proofs.Ytjidgpomolmglaa.spanLays
open Go.ChangeShapes Go.WideShapes Go.ChangeAt Go.RowKit
open Go.ChangeMaps (open_string shut_string)
set_option linter.unusedVariables false

theorem own : ownKnob Try.prog.godebug = none := by kernel_rfl
theorem laidOut : laidOutB Try.prog = true := by kernel_rfl

set_option maxHeartbeats 4000000 in
set_option maxRecDepth 100000 in
theorem walk (w : World) (A0 : Option Addr) (len0 cap0 : Nat) (r0 : RowOf ks_flatDeed w A0 len0 cap0) (A1 : Option Addr) (len1 cap1 : Nat) (r1 : RowOf ks_flatDeed w A1 len1 cap1) (a2 : Int) (w2 : (Lit.int .i64 a2).wf = true) :
    Calls Try.prog 3 #[.slice A0 len0 cap0, .slice A1 len1 cap1, .int .i64 a2] w fun e w' => e = .returned (.bool true) ∧ Below w.heap.size w w' := by
  have hz := Sn.zSet
  clear w2
  go_enter Try.func3, Try.ntmps3
  go_wp2_with fail
  refine (Sn.made_c A0 len0 cap0 _ r0).mono ?_
  rintro e w1 ⟨f, A, n, c, rfl, hs, k1⟩
  obtain ⟨t1, t2, t3⟩ := Sn.box2 w1 (.slice A n c) f 25 27
  obtain ⟨w2, hw2⟩ : ∃ w2, w2 = (w1.alloc (.cells #[.slice A n c] 25)).alloc (.cells (Sn.bv f).toArray 27) := ⟨_, rfl⟩
  obtain ⟨b5, hb5⟩ : ∃ b5, b5 = w1.heap.size := ⟨_, rfl⟩
  obtain ⟨b6, hb6⟩ : ∃ b6, b6 = w1.heap.size + 1 := ⟨_, rfl⟩
  rw [← hw2] at t1 t2 t3
  rw [← hb5] at t1
  rw [← hb6] at t2
  have HC5 := Sn.hid t1
  have HC6 := Sn.hid t2
  have HS := Sn.hid (hs.keep0 t3)
  have HK2 := Sn.hid (k1.trans t3)
  have HR1 := Sn.hid (Sn.rowOf_keep r1 HK2.out)
  clear r0 r1 t1 t2 t3 hs k1
  go_upto_region 2 with (refine Wh.wpList_store_newAt rfl 27 _ _ rfl (w1.heap.size + 1) (by simp) (Sn.bv Sn.no).toArray (Sn.bv f).toArray rfl rfl (Sn.iSet' _) (by rw [Sn.bvs, Sn.bvs]) (Sn.bv_all _) ?_)
  rw [← hw2, ← hb6, ← hb5]
  clear hw2 hb5 hb6
  go_wp2_with fail
  refine (Sn.made_c A1 len1 cap1 _ HR1.out).mono ?_
  rintro e w3 ⟨g, A1', n1, c1, rfl, hs, k3⟩
  obtain ⟨t1, t2, t3⟩ := Sn.box2 w3 (.slice A1' n1 c1) g 25 27
  obtain ⟨w4, hw4⟩ : ∃ w4, w4 = (w3.alloc (.cells #[.slice A1' n1 c1] 25)).alloc (.cells (Sn.bv g).toArray 27) := ⟨_, rfl⟩
  obtain ⟨b7, hb7⟩ : ∃ b7, b7 = w3.heap.size := ⟨_, rfl⟩
  obtain ⟨b8, hb8⟩ : ∃ b8, b8 = w3.heap.size + 1 := ⟨_, rfl⟩
  rw [← hw4] at t1 t2 t3
  rw [← hb7] at t1
  rw [← hb8] at t2
  have HC7 := Sn.hid t1
  have HC8 := Sn.hid t2
  have HT := Sn.hid (hs.keep0 t3)
  have HK24 := Sn.hid (k3.trans t3)
  clear t1 t2 t3 hs k3
  go_upto_region 3 with (refine Wh.wpList_store_newAt rfl 27 _ _ rfl (w3.heap.size + 1) (by simp) (Sn.bv Sn.no).toArray (Sn.bv g).toArray rfl rfl (Sn.iSet' _) (by rw [Sn.bvs, Sn.bvs]) (Sn.bv_all _) ?_)
  rw [← hw4, ← hb8, ← hb7]
  clear hw4 hb7 hb8
  have HR6 := Sn.hid (range_keep HC6.out HK24.out (by simp))
  have HS4 := Sn.hid (HS.out.keep0 HK24.out)
  simp only [Act.put]
  go_cut [48] (fun s48 wx => s48 = .bool false ∧ Hid (But [] w4 wx))
  case first =>
    by_cases h0 : a2 < 0
    · have HHB : Hid (Sn.hasB f a2 = false) := Sn.has_neg h0
      have hd : decide (0 ≤ a2) = false := decide_eq_false (by omega)
      have hc5 := cell_keep HC5.out HK24.out (by simp)
      go_wp2_with (first | (refine Sn.wpList_load_mid_g 27 _ rfl b6 0 rfl (Sn.bv f) _ HR6.out Try.underlying27 rfl (Sn.iSet f) rfl ?_) | fail)
      refine (Sn.same_c _ _ _ _ f _ HS4.out).mono ?_
      rintro e w5 ⟨rfl, k5⟩
      have hc7 := cell_keep HC7.out k5 (by simp)
      have HR8 := Sn.hid (range_keep HC8.out k5 (by simp))
      have HT5 := Sn.hid (HT.out.keep0 k5)
      have HK5 := Sn.hid k5
      clear hc5 k5
      go_wp2_with (first | (refine Sn.wpList_load_mid_g 27 _ rfl b8 0 rfl (Sn.bv g) _ HR8.out Try.underlying27 rfl (Sn.iSet g) rfl ?_) | fail)
      refine (Sn.same_c _ _ _ _ g _ HT5.out).mono ?_
      rintro e w6 ⟨rfl, k6⟩
      have HK6 := Sn.hid (HK5.out.trans k6)
      have hc5 := cell_keep (cell_keep HC5.out HK24.out (by simp)) HK6.out (by simp)
      clear hc7 k6
      go_wp2_with fail
      refine (Sn.has_c _ _ _ _ a2 f _ (HS4.out.keep0 HK6.out)).mono ?_
      rintro e w7 ⟨rfl, k7⟩
      have HK7 := Sn.hid (HK6.out.trans k7)
      rw [HHB.out]
      clear hc5 k7
      go_wp2
      go_meet
      exact ⟨rfl, HK7.out⟩
    · have hd : 0 ≤ a2 := by omega
      by_cases h1 : 1023 < a2
      · have HHB : Hid (Sn.hasB f a2 = false) := Sn.has_far h1
        have hd2 : decide (a2 ≤ 1023) = false := decide_eq_false (by omega)
        have hc5 := cell_keep HC5.out HK24.out (by simp)
        go_wp2_with (first | (refine Sn.wpList_load_mid_g 27 _ rfl b6 0 rfl (Sn.bv f) _ HR6.out Try.underlying27 rfl (Sn.iSet f) rfl ?_) | fail)
        refine (Sn.same_c _ _ _ _ f _ HS4.out).mono ?_
        rintro e w5 ⟨rfl, k5⟩
        have hc7 := cell_keep HC7.out k5 (by simp)
        have HR8 := Sn.hid (range_keep HC8.out k5 (by simp))
        have HT5 := Sn.hid (HT.out.keep0 k5)
        have HK5 := Sn.hid k5
        clear hc5 k5
        go_wp2_with (first | (refine Sn.wpList_load_mid_g 27 _ rfl b8 0 rfl (Sn.bv g) _ HR8.out Try.underlying27 rfl (Sn.iSet g) rfl ?_) | fail)
        refine (Sn.same_c _ _ _ _ g _ HT5.out).mono ?_
        rintro e w6 ⟨rfl, k6⟩
        have HK6 := Sn.hid (HK5.out.trans k6)
        have hc5 := cell_keep (cell_keep HC5.out HK24.out (by simp)) HK6.out (by simp)
        clear hc7 k6
        go_wp2_with fail
        refine (Sn.has_c _ _ _ _ a2 f _ (HS4.out.keep0 HK6.out)).mono ?_
        rintro e w7 ⟨rfl, k7⟩
        have HK7 := Sn.hid (HK6.out.trans k7)
        rw [HHB.out]
        clear hc5 k7
        go_wp2
        go_meet
        exact ⟨rfl, HK7.out⟩
      · obtain ⟨mm, hmm⟩ : ∃ mm : Nat, a2 = (mm : Int) := ⟨a2.toNat, by omega⟩
        subst hmm
        have hml : mm < 1024 := by omega
        have hmi : (mm : Int) ≤ 1023 := by omega
        have hmask : bits .and .i64 (mm : Int) 1023 = (mm : Int) := by rw [and1023]; omega
        cases hv : f mm with
        | false =>
          have HHB : Hid (Sn.hasB f (mm : Int) = false) := (Sn.has_in hml).trans hv
          have hc5 := cell_keep HC5.out HK24.out (by simp)
          go_wp2_with (first | (refine Sn.wpList_load_mid_g 27 _ rfl b6 0 rfl (Sn.bv f) _ HR6.out Try.underlying27 rfl (Sn.iSet f) rfl ?_) | fail)
          refine (Sn.same_c _ _ _ _ f _ HS4.out).mono ?_
          rintro e w5 ⟨rfl, k5⟩
          have hc7 := cell_keep HC7.out k5 (by simp)
          have HR8 := Sn.hid (range_keep HC8.out k5 (by simp))
          have HT5 := Sn.hid (HT.out.keep0 k5)
          have HK5 := Sn.hid k5
          clear hc5 k5
          go_wp2_with (first | (refine Sn.wpList_load_mid_g 27 _ rfl b8 0 rfl (Sn.bv g) _ HR8.out Try.underlying27 rfl (Sn.iSet g) rfl ?_) | fail)
          refine (Sn.same_c _ _ _ _ g _ HT5.out).mono ?_
          rintro e w6 ⟨rfl, k6⟩
          have HK6 := Sn.hid (HK5.out.trans k6)
          have hc5 := cell_keep (cell_keep HC5.out HK24.out (by simp)) HK6.out (by simp)
          clear hc7 k6
          go_wp2_with fail
          refine (Sn.has_c _ _ _ _ (mm : Int) f _ (HS4.out.keep0 HK6.out)).mono ?_
          rintro e w7 ⟨rfl, k7⟩
          have HK7 := Sn.hid (HK6.out.trans k7)
          rw [HHB.out]
          have hcm : w7.cell? ⟨b6, mm, none⟩ = some (.bool false) := by have := range_cells (range_keep HR6.out HK7.out (by simp)) mm _ (Sn.bv_get f mm hml); rwa [Nat.zero_add, hv] at this
          clear hc5 k7
          go_wp2
          go_meet
          exact ⟨rfl, HK7.out⟩
        | true =>
          have HHB : Hid (Sn.hasB f (mm : Int) = true) := (Sn.has_in hml).trans hv
          have hc5 := cell_keep HC5.out HK24.out (by simp)
          go_wp2_with (first | (refine Sn.wpList_load_mid_g 27 _ rfl b6 0 rfl (Sn.bv f) _ HR6.out Try.underlying27 rfl (Sn.iSet f) rfl ?_) | fail)
          refine (Sn.same_c _ _ _ _ f _ HS4.out).mono ?_
          rintro e w5 ⟨rfl, k5⟩
          have hc7 := cell_keep HC7.out k5 (by simp)
          have HR8 := Sn.hid (range_keep HC8.out k5 (by simp))
          have HT5 := Sn.hid (HT.out.keep0 k5)
          have HK5 := Sn.hid k5
          clear hc5 k5
          go_wp2_with (first | (refine Sn.wpList_load_mid_g 27 _ rfl b8 0 rfl (Sn.bv g) _ HR8.out Try.underlying27 rfl (Sn.iSet g) rfl ?_) | fail)
          refine (Sn.same_c _ _ _ _ g _ HT5.out).mono ?_
          rintro e w6 ⟨rfl, k6⟩
          have HK6 := Sn.hid (HK5.out.trans k6)
          have hc5 := cell_keep (cell_keep HC5.out HK24.out (by simp)) HK6.out (by simp)
          clear hc7 k6
          go_wp2_with fail
          refine (Sn.has_c _ _ _ _ (mm : Int) f _ (HS4.out.keep0 HK6.out)).mono ?_
          rintro e w7 ⟨rfl, k7⟩
          have HK7 := Sn.hid (HK6.out.trans k7)
          rw [HHB.out]
          have hcm : w7.cell? ⟨b6, mm, none⟩ = some (.bool true) := by have := range_cells (range_keep HR6.out HK7.out (by simp)) mm _ (Sn.bv_get f mm hml); rwa [Nat.zero_add, hv] at this
          clear hc5 k7
          go_wp2
          go_meet
          exact ⟨rfl, HK7.out⟩
  case rest =>
    obtain ⟨rfl, HK7⟩ := hcut
    have HR67 := Sn.hid (range_keep HR6.out HK7.out (by simp))
    have HS5 := Sn.hid (HS4.out.keep0 HK7.out)
    have HS7 := Sn.hid (HT.out.keep0 HK7.out)
    have HKA := Sn.hid ((HK2.out.trans HK24.out).trans HK7.out)
    obtain ⟨Ln, hLn⟩ : ∃ Ln, (Sn.nums (Sn.wo f g) 1024).length = Ln := ⟨_, rfl⟩
    obtain ⟨Wb, hWb⟩ : ∃ Wb, ((Sn.nums (Sn.wo f g) 1024).length == 0) = Wb := ⟨_, rfl⟩
    have HLN := Sn.hid hLn
    have HWB := Sn.hid hWb
    have hLW : ((Ln : Int) == 0) = Wb := by rw [← hWb, hLn]; exact decide_eq_decide.2 (by omega)
    have HST : Hid (wc.drew.cell? ⟨b5, 0, none⟩ = some (.slice A n c) ∧ wc.drew.cell? ⟨b7, 0, none⟩ = some (.slice A1' n1 c1) ∧ wc.drew.rangeAt b6 0 (Sn.bv f) ∧ wc.drew.rangeAt b8 0 (Sn.bv g) ∧ But [] wc wc.drew) :=
      Sn.l_keep (But.refl [] wc).drew ⟨cell_keep (cell_keep HC5.out HK24.out (by simp)) HK7.out (by simp), cell_keep HC7.out HK7.out (by simp), HR67.out, range_keep HC8.out HK7.out (by simp), But.refl [] wc⟩
    clear hLn hWb hz
    go_upto_region 5 with fail
    refine wp_region_noPanic ?_
    refine wp_region_held_drew (S := fun w' => w'.cell? ⟨b5, 0, none⟩ = some (.slice A n c) ∧ w'.cell? ⟨b7, 0, none⟩ = some (.slice A1' n1 c1) ∧ w'.rangeAt b6 0 (Sn.bv f) ∧ w'.rangeAt b8 0 (Sn.bv g) ∧ But [] wc w') (by kernel_rfl) HST.out (fun hS0 => ?_)
    refine held_take 0 (some 49) (.agg #[.slice A n c]) rfl rfl (by kernel_rfl) (by kernel_rfl) (by kernel_rfl) (fun _ _ _ h => h) (Or.inl ⟨by rfl, fun w' hw' => by obtain ⟨hw1, -⟩ := hw'; go_simp⟩) hS0 ?_
    simp only [Act.put, List.setIfInBounds_toArray, List.set_cons_zero, List.set_cons_succ]
    refine held_take 1 (some 50) (.agg #[.slice A1' n1 c1]) rfl rfl (by kernel_rfl) (by kernel_rfl) (by kernel_rfl) (fun _ _ _ h => h) (Or.inl ⟨by rfl, fun w' hw' => by obtain ⟨-, hw1, -⟩ := hw'; go_simp⟩) hS0 ?_
    simp only [Act.put, List.setIfInBounds_toArray, List.set_cons_zero, List.set_cons_succ]
    refine held_take 3 (some 52) (.agg (Sn.bv f).toArray) rfl rfl (by kernel_rfl) (by kernel_rfl) (by kernel_rfl) (fun _ _ _ h => h) (yieldsIf_load_mid (by rfl) _ _ rfl b6 0 rfl (Sn.bv f) _ (fun w' h => h.2.2.1) Try.underlying27 rfl (Sn.iSet f)) hS0 ?_
    simp only [Act.put, List.setIfInBounds_toArray, List.set_cons_zero, List.set_cons_succ]
    refine held_take 4 (some 53) (.agg (Sn.bv g).toArray) rfl rfl (by kernel_rfl) (by kernel_rfl) (by kernel_rfl) (fun _ _ _ h => h) (yieldsIf_load_mid (by rfl) _ _ rfl b8 0 rfl (Sn.bv g) _ (fun w' h => h.2.2.2.1) Try.underlying27 rfl (Sn.iSet g)) hS0 ?_
    simp only [Act.put, List.setIfInBounds_toArray, List.set_cons_zero, List.set_cons_succ]
    refine held_one 2 rfl (by kernel_rfl) (by rfl) (fun K hK => ?_)
    go_simp
    refine (Sn.with_c _ _ _ _ _ _ _ _ _ _ _ (HS5.out.keep0 hS0.2.2.2.2) (HS7.out.keep0 hS0.2.2.2.2)).mono ?_
    rintro e w2 ⟨B2, m2, d2, rfl, hs2, k2⟩
    go_wp2_with fail
    refine hK.out _ _ (Sn.l_keep k2 hS0) (fun hS2 => ?_)
    clear hK K hS0
    try simp only [Act.put, List.setIfInBounds_toArray, List.set_cons_zero, List.set_cons_succ]
    refine held_one 5 rfl (by kernel_rfl) (by rfl) (fun K hK => ?_)
    go_simp
    refine (Sn.rlay0_c f g _).mono ?_
    rintro e w5 ⟨rfl, k5⟩
    go_wp2_with fail
    refine hK.out _ _ (Sn.l_keep k5 hS2) (fun hS5 => ?_)
    clear hK K hS2
    try simp only [Act.put, List.setIfInBounds_toArray, List.set_cons_zero, List.set_cons_succ]
    refine held_one 6 rfl (by kernel_rfl) (by rfl) (fun K hK => ?_)
    go_simp
    refine (Sn.same_c _ _ _ _ (Sn.wi f g) _ (hs2.keep0 k5)).mono ?_
    rintro e w6 ⟨rfl, k6⟩
    go_wp2_with fail
    refine hK.out _ _ (Sn.l_keep k6 hS5) (fun hS6 => ?_)
    clear hK K hS5
    try simp only [Act.put, List.setIfInBounds_toArray, List.set_cons_zero, List.set_cons_succ]
    refine held_take 7 (some 56) (.bool true) rfl rfl (by kernel_rfl) (by kernel_rfl) (by kernel_rfl) (fun _ _ _ h => h) (Or.inl ⟨by rfl, fun w' hw' => by go_simp⟩) hS6 ?_
    simp only [Act.put, List.setIfInBounds_toArray, List.set_cons_zero, List.set_cons_succ]
    refine held_take 8 (some 57) (.agg #[.slice A n c]) rfl rfl (by kernel_rfl) (by kernel_rfl) (by kernel_rfl) (fun _ _ _ h => h) (Or.inl ⟨by rfl, fun w' hw' => by obtain ⟨hw1, -⟩ := hw'; go_simp⟩) hS6 ?_
    simp only [Act.put, List.setIfInBounds_toArray, List.set_cons_zero, List.set_cons_succ]
    refine held_take 9 (some 58) (.agg #[.slice A1' n1 c1]) rfl rfl (by kernel_rfl) (by kernel_rfl) (by kernel_rfl) (fun _ _ _ h => h) (Or.inl ⟨by rfl, fun w' hw' => by obtain ⟨-, hw1, -⟩ := hw'; go_simp⟩) hS6 ?_
    simp only [Act.put, List.setIfInBounds_toArray, List.set_cons_zero, List.set_cons_succ]
    refine held_take 11 (some 60) (.agg (Sn.bv f).toArray) rfl rfl (by kernel_rfl) (by kernel_rfl) (by kernel_rfl) (fun _ _ _ h => h) (yieldsIf_load_mid (by rfl) _ _ rfl b6 0 rfl (Sn.bv f) _ (fun w' h => h.2.2.1) Try.underlying27 rfl (Sn.iSet f)) hS6 ?_
    simp only [Act.put, List.setIfInBounds_toArray, List.set_cons_zero, List.set_cons_succ]
    refine held_take 12 (some 61) (.agg (Sn.bv g).toArray) rfl rfl (by kernel_rfl) (by kernel_rfl) (by kernel_rfl) (fun _ _ _ h => h) (yieldsIf_load_mid (by rfl) _ _ rfl b8 0 rfl (Sn.bv g) _ (fun w' h => h.2.2.2.1) Try.underlying27 rfl (Sn.iSet g)) hS6 ?_
    simp only [Act.put, List.setIfInBounds_toArray, List.set_cons_zero, List.set_cons_succ]
    refine held_one 10 rfl (by kernel_rfl) (by rfl) (fun K hK => ?_)
    go_simp
    refine (Sn.without_c _ _ _ _ _ _ _ _ _ _ _ (HS5.out.keep0 hS6.2.2.2.2) (HS7.out.keep0 hS6.2.2.2.2)).mono ?_
    rintro e w10 ⟨B10, m10, d10, rfl, hs10, k10⟩
    go_wp2_with fail
    refine hK.out _ _ (Sn.l_keep k10 hS6) (fun hS10 => ?_)
    clear hK K hS6
    try simp only [Act.put, List.setIfInBounds_toArray, List.set_cons_zero, List.set_cons_succ]
    refine held_one 13 rfl (by kernel_rfl) (by rfl) (fun K hK => ?_)
    go_simp
    refine (Sn.rlay1_c f g _).mono ?_
    rintro e w13 ⟨rfl, k13⟩
    go_wp2_with fail
    refine hK.out _ _ (Sn.l_keep k13 hS10) (fun hS13 => ?_)
    clear hK K hS10
    try simp only [Act.put, List.setIfInBounds_toArray, List.set_cons_zero, List.set_cons_succ]
    refine held_one 14 rfl (by kernel_rfl) (by rfl) (fun K hK => ?_)
    go_simp
    refine (Sn.same_c _ _ _ _ (Sn.wo f g) _ (hs10.keep0 k13)).mono ?_
    rintro e w14 ⟨rfl, k14⟩
    go_wp2_with fail
    refine hK.out _ _ (Sn.l_keep k14 hS13) (fun hS14 => ?_)
    clear hK K hS13
    try simp only [Act.put, List.setIfInBounds_toArray, List.set_cons_zero, List.set_cons_succ]
    refine held_take 15 (some 64) (.bool true) rfl rfl (by kernel_rfl) (by kernel_rfl) (by kernel_rfl) (fun _ _ _ h => h) (Or.inl ⟨by rfl, fun w' hw' => by go_simp⟩) hS14 ?_
    simp only [Act.put, List.setIfInBounds_toArray, List.set_cons_zero, List.set_cons_succ]
    refine held_take 16 (some 65) (.bool true) rfl rfl (by kernel_rfl) (by kernel_rfl) (by kernel_rfl) (fun _ _ _ h => h) (Or.inl ⟨by rfl, fun w' hw' => by go_simp⟩) hS14 ?_
    simp only [Act.put, List.setIfInBounds_toArray, List.set_cons_zero, List.set_cons_succ]
    refine held_take 17 (some 66) (.agg #[.slice A n c]) rfl rfl (by kernel_rfl) (by kernel_rfl) (by kernel_rfl) (fun _ _ _ h => h) (Or.inl ⟨by rfl, fun w' hw' => by obtain ⟨hw1, -⟩ := hw'; go_simp⟩) hS14 ?_
    simp only [Act.put, List.setIfInBounds_toArray, List.set_cons_zero, List.set_cons_succ]
    refine held_take 18 (some 67) (.agg #[.slice A1' n1 c1]) rfl rfl (by kernel_rfl) (by kernel_rfl) (by kernel_rfl) (fun _ _ _ h => h) (Or.inl ⟨by rfl, fun w' hw' => by obtain ⟨-, hw1, -⟩ := hw'; go_simp⟩) hS14 ?_
    simp only [Act.put, List.setIfInBounds_toArray, List.set_cons_zero, List.set_cons_succ]
    refine held_take 20 (some 69) (.agg (Sn.bv f).toArray) rfl rfl (by kernel_rfl) (by kernel_rfl) (by kernel_rfl) (fun _ _ _ h => h) (yieldsIf_load_mid (by rfl) _ _ rfl b6 0 rfl (Sn.bv f) _ (fun w' h => h.2.2.1) Try.underlying27 rfl (Sn.iSet f)) hS14 ?_
    simp only [Act.put, List.setIfInBounds_toArray, List.set_cons_zero, List.set_cons_succ]
    refine held_take 21 (some 70) (.agg (Sn.bv g).toArray) rfl rfl (by kernel_rfl) (by kernel_rfl) (by kernel_rfl) (fun _ _ _ h => h) (yieldsIf_load_mid (by rfl) _ _ rfl b8 0 rfl (Sn.bv g) _ (fun w' h => h.2.2.2.1) Try.underlying27 rfl (Sn.iSet g)) hS14 ?_
    simp only [Act.put, List.setIfInBounds_toArray, List.set_cons_zero, List.set_cons_succ]
    refine held_one 19 rfl (by kernel_rfl) (by rfl) (fun K hK => ?_)
    go_simp
    refine (Sn.both_c _ _ _ _ _ _ _ _ _ _ _ (HS5.out.keep0 hS14.2.2.2.2) (HS7.out.keep0 hS14.2.2.2.2)).mono ?_
    rintro e w19 ⟨B19, m19, d19, rfl, hs19, k19⟩
    go_wp2_with fail
    refine hK.out _ _ (Sn.l_keep k19 hS14) (fun hS19 => ?_)
    clear hK K hS14
    try simp only [Act.put, List.setIfInBounds_toArray, List.set_cons_zero, List.set_cons_succ]
    refine held_one 22 rfl (by kernel_rfl) (by rfl) (fun K hK => ?_)
    go_simp
    refine (Sn.rlay2_c f g _).mono ?_
    rintro e w22 ⟨rfl, k22⟩
    go_wp2_with fail
    refine hK.out _ _ (Sn.l_keep k22 hS19) (fun hS22 => ?_)
    clear hK K hS19
    try simp only [Act.put, List.setIfInBounds_toArray, List.set_cons_zero, List.set_cons_succ]
    refine held_one 23 rfl (by kernel_rfl) (by rfl) (fun K hK => ?_)
    go_simp
    refine (Sn.same_c _ _ _ _ (Sn.bo f g) _ (hs19.keep0 k22)).mono ?_
    rintro e w23 ⟨rfl, k23⟩
    go_wp2_with fail
    refine hK.out _ _ (Sn.l_keep k23 hS22) (fun hS23 => ?_)
    clear hK K hS22
    try simp only [Act.put, List.setIfInBounds_toArray, List.set_cons_zero, List.set_cons_succ]
    refine held_take 24 (some 73) (.bool true) rfl rfl (by kernel_rfl) (by kernel_rfl) (by kernel_rfl) (fun _ _ _ h => h) (Or.inl ⟨by rfl, fun w' hw' => by go_simp⟩) hS23 ?_
    simp only [Act.put, List.setIfInBounds_toArray, List.set_cons_zero, List.set_cons_succ]
    refine held_take 25 (some 74) (.bool true) rfl rfl (by kernel_rfl) (by kernel_rfl) (by kernel_rfl) (fun _ _ _ h => h) (Or.inl ⟨by rfl, fun w' hw' => by go_simp⟩) hS23 ?_
    simp only [Act.put, List.setIfInBounds_toArray, List.set_cons_zero, List.set_cons_succ]
    refine held_take 26 (some 75) (.agg #[.slice A n c]) rfl rfl (by kernel_rfl) (by kernel_rfl) (by kernel_rfl) (fun _ _ _ h => h) (Or.inl ⟨by rfl, fun w' hw' => by obtain ⟨hw1, -⟩ := hw'; go_simp⟩) hS23 ?_
    simp only [Act.put, List.setIfInBounds_toArray, List.set_cons_zero, List.set_cons_succ]
    refine held_take 27 (some 76) (.agg #[.slice A1' n1 c1]) rfl rfl (by kernel_rfl) (by kernel_rfl) (by kernel_rfl) (fun _ _ _ h => h) (Or.inl ⟨by rfl, fun w' hw' => by obtain ⟨-, hw1, -⟩ := hw'; go_simp⟩) hS23 ?_
    simp only [Act.put, List.setIfInBounds_toArray, List.set_cons_zero, List.set_cons_succ]
    refine held_take 29 (some 78) (.agg (Sn.bv f).toArray) rfl rfl (by kernel_rfl) (by kernel_rfl) (by kernel_rfl) (fun _ _ _ h => h) (yieldsIf_load_mid (by rfl) _ _ rfl b6 0 rfl (Sn.bv f) _ (fun w' h => h.2.2.1) Try.underlying27 rfl (Sn.iSet f)) hS23 ?_
    simp only [Act.put, List.setIfInBounds_toArray, List.set_cons_zero, List.set_cons_succ]
    refine held_take 30 (some 79) (.agg (Sn.bv g).toArray) rfl rfl (by kernel_rfl) (by kernel_rfl) (by kernel_rfl) (fun _ _ _ h => h) (yieldsIf_load_mid (by rfl) _ _ rfl b8 0 rfl (Sn.bv g) _ (fun w' h => h.2.2.2.1) Try.underlying27 rfl (Sn.iSet g)) hS23 ?_
    simp only [Act.put, List.setIfInBounds_toArray, List.set_cons_zero, List.set_cons_succ]
    refine held_one 28 rfl (by kernel_rfl) (by rfl) (fun K hK => ?_)
    go_simp
    refine (Sn.withinb_c _ _ _ _ _ _ _ _ _ _ _ _ (HS5.out.keep0 hS23.2.2.2.2) (HS7.out.keep0 hS23.2.2.2.2) HWB.out).mono ?_
    rintro e w28 ⟨rfl, k28⟩
    go_wp2_with fail
    refine hK.out _ _ (Sn.l_keep k28 hS23) (fun hS28 => ?_)
    clear hK K hS23
    try simp only [Act.put, List.setIfInBounds_toArray, List.set_cons_zero, List.set_cons_succ]
    refine held_one 31 rfl (by kernel_rfl) (by rfl) (fun K hK => ?_)
    go_simp
    refine (Sn.rlay1_c f g _).mono ?_
    rintro e w31 ⟨rfl, k31⟩
    go_wp2_with fail
    refine hK.out _ _ (Sn.l_keep k31 hS28) (fun hS31 => ?_)
    clear hK K hS28
    try simp only [Act.put, List.setIfInBounds_toArray, List.set_cons_zero, List.set_cons_succ]
    refine held_one 32 rfl (by kernel_rfl) (by rfl) (fun K hK => ?_)
    go_simp
    refine (Sn.rallN_c (Sn.wo f g) Ln _ HLN.out).mono ?_
    rintro e w32 ⟨B32, d32, rfl, -, k32, -⟩
    go_wp2_with fail
    refine hK.out _ _ (Sn.l_keep k32 hS31) (fun hS32 => ?_)
    clear hK K hS31
    try simp only [Act.put, List.setIfInBounds_toArray, List.set_cons_zero, List.set_cons_succ]
    refine held_take 33 (some 82) (.int .i64 Ln) rfl rfl (by kernel_rfl) (by kernel_rfl) (by kernel_rfl) (fun _ _ _ h => h) (Or.inl ⟨by rfl, fun w' hw' => by go_simp⟩) hS32 ?_
    simp only [Act.put, List.setIfInBounds_toArray, List.set_cons_zero, List.set_cons_succ]
    refine held_take 34 (some 83) (.bool Wb) rfl rfl (by kernel_rfl) (by kernel_rfl) (by kernel_rfl) (fun _ _ _ h => h) (Or.inl ⟨by rfl, fun w' hw' => by go_simp⟩) hS32 ?_
    simp only [Act.put, List.setIfInBounds_toArray, List.set_cons_zero, List.set_cons_succ]
    refine held_take 35 (some 84) (.bool true) rfl rfl (by kernel_rfl) (by kernel_rfl) (by kernel_rfl) (fun _ _ _ h => h) (Or.inl ⟨by rfl, fun w' hw' => by go_simp⟩) hS32 ?_
    simp only [Act.put, List.setIfInBounds_toArray, List.set_cons_zero, List.set_cons_succ]
    refine held_take 36 (some 85) (.bool true) rfl rfl (by kernel_rfl) (by kernel_rfl) (by kernel_rfl) (fun _ _ _ h => h) (Or.inl ⟨by rfl, fun w' hw' => by go_simp⟩) hS32 ?_
    simp only [Act.put, List.setIfInBounds_toArray, List.set_cons_zero, List.set_cons_succ]
    refine held_take 37 (some 86) (.bool true) rfl rfl (by kernel_rfl) (by kernel_rfl) (by kernel_rfl) (fun _ _ _ h => h) (Or.inl ⟨by rfl, fun w' hw' => by go_simp⟩) hS32 ?_
    simp only [Act.put, List.setIfInBounds_toArray, List.set_cons_zero, List.set_cons_succ]
    refine held_one 38 rfl (by kernel_rfl) (by rfl) (fun K hK => ?_)
    go_simp
    refine (Sn.awake_c _).mono ?_
    rintro e w38 ⟨rfl, k38⟩
    go_wp2_with fail
    refine hK.out _ _ (Sn.l_keep k38 hS32) (fun hS38 => ?_)
    clear hK K hS32
    try simp only [Act.put, List.setIfInBounds_toArray, List.set_cons_zero, List.set_cons_succ]
    refine held_take 39 (some 88) (.bool true) rfl rfl (by kernel_rfl) (by kernel_rfl) (by kernel_rfl) (fun _ _ _ h => h) (Or.inl ⟨by rfl, fun w' hw' => by go_simp⟩) hS38 ?_
    simp only [Act.put, List.setIfInBounds_toArray, List.set_cons_zero, List.set_cons_succ]
    refine held_take 40 (some 6) (.bool true) rfl rfl (by kernel_rfl) (by kernel_rfl) (by kernel_rfl) (fun _ _ _ h => h) (Or.inl ⟨by rfl, fun w' hw' => by go_simp⟩) hS38 ?_
    simp only [Act.put, List.setIfInBounds_toArray, List.set_cons_zero, List.set_cons_succ]
    refine wpAnyH_done (by kernel_rfl) ?_ _
    refine NoPanic.normal ?_
    have HE := Sn.hid (HKA.out.trans hS38.2.2.2.2)
    clear hS38
    go_wp2
    go_ret
    exact ⟨rfl, HE.out.below (Nat.le_refl _) (by simp)⟩

set_option maxRecDepth 100000 in
theorem lifted (os : Os) (started : os.Started) (H : Type) (enc : TypeId × Value → H) :
    ReturnsInHanded {} Try.checked os 3 .any (Rows.spanLaysSpec.pre6 enc Try.prog Try.f3 Rows.spanLaysRow.domain false) (Rows.spanLaysSpec.post enc Try.prog Try.f3 false true false false) := by
  refine returnsInHanded_of_change (C := Try.checked) own started (by kernel_rfl) Try.func3
    (ChangeSpec.witness6 (enc := enc) (C := Try.checked) false ⟨#[], #[.slice none 0 0, .slice none 0 0, .int .i64 0], []⟩ 8 (by kernel_rfl) (by kernel_rfl) (by kernel_rfl) (by kernel_rfl)) ?_
  intro W base args ds gs before hval0 hW hcnd _
  have hval : ∀ (j : Nat) t v, Try.f3.params[j]? = some t → args[j]? = some v → Value.okWide Try.prog W .any base t v := hval0
  have hW' := hW
  obtain ⟨p, q, hA0, hV, rfl, hfz, hnd⟩ := hW
  have hA : DataW.TrodAll enc Try.prog W 0 (fun _ => true) true Try.f3.params.toList args.toList ds p := hA0
  rw [Try.params3] at hA hval
  obtain ⟨v0, vs0, d0, ds0, p0, q0, hargs, rfl, rfl, h0, t0⟩ := trodAll_cons hA
  obtain ⟨v1, vs1, d1, ds1, p1, q1, rfl, rfl, rfl, h1, t1⟩ := trodAll_cons t0
  obtain ⟨v2, vs2, d2, ds2, p2, q2, rfl, rfl, rfl, h2, t2⟩ := trodAll_cons t1
  obtain ⟨rfl, rfl, rfl⟩ := trodAll_nil t2
  obtain rfl : args = #[v0, v1, v2] := by cases args; simp_all
  obtain ⟨rfl, rfl⟩ := trodVars_none hV
  have k0 := h0
  have lt0 : ∀ x ∈ p0, x.block < W.heap.size := by obtain ⟨m, hm⟩ := k0; exact DataW.trod_lt m _ _ _ hm
  have k1 := h1
  have lt1 : ∀ x ∈ p1, x.block < W.heap.size := by obtain ⟨m, hm⟩ := k1; exact DataW.trod_lt m _ _ _ hm
  have k2 := h2
  have lt2 : ∀ x ∈ p2, x.block < W.heap.size := by obtain ⟨m, hm⟩ := k2; exact DataW.trod_lt m _ _ _ hm
  obtain ⟨A0, len0, cap0, rfl⟩ := okWide_slice Try.underlying22 (hval 0 22 v0 rfl rfl)
  have r0 := rowOf_open Try.underlying22 flatDeed (by decide) h0
  obtain ⟨A1, len1, cap1, rfl⟩ := okWide_slice Try.underlying22 (hval 1 22 v1 rfl rfl)
  have r1 := rowOf_open Try.underlying22 flatDeed (by decide) h1
  obtain ⟨a2, rfl, rfl, rfl, w2⟩ := open_int Try.underlying3 (hval 2 3 v2 rfl rfl) h2
  clear hA0 hval0
  refine (walk W A0 len0 cap0 r0 A1 len1 cap1 r1 a2 w2).mono fun e W' ⟨he, hg⟩ => ?_
  subst he
  exact ⟨_, rfl, _, _, _, [], _, [], hW', (trodAll_cons_mk (shut_bool Try.underlying4 _) trodAll_mk0), (trodAll_cons_mk (Below.trod laidOut (by kernel_rfl) (of_decide_eq_true (by kernel_rfl)) k0 hg lt0) (trodAll_cons_mk (Below.trod laidOut (by kernel_rfl) (of_decide_eq_true (by kernel_rfl)) k1 hg lt1) (trodAll_cons_mk (Below.trod laidOut (by kernel_rfl) (of_decide_eq_true (by kernel_rfl)) k2 hg lt2) trodAll_mk0))), rfl, hg.frame _, (fun h => by cases h)⟩

theorem over : Rows.spanLaysRow.holds Try.pinned (OpenSpec.ofChange Rows.spanLaysSpec) :=
  OpenClaim.holds_of_wide 3 Try.f3 rfl rfl rfl rfl rfl rfl rfl ⟨rfl, rfl, rfl, rfl, rfl⟩ rfl rfl rfl rfl rfl (by kernel_rfl) Try.func3 (by kernel_rfl)
    (of_decide_eq_true (by kernel_rfl)) (by unfold Func.isWrapper; first | (rw [if_pos (by decide +kernel)]; kernel_rfl) | (rw [if_neg (by decide +kernel)]; exact ⟨rfl, rfl⟩))
    (fun os started H enc _ => lifted os started H enc)
end Go.Proofs.Ytjidgpomolmglaa.spanLays
namespace Go.Proofs.Ytjidgpomolmglaa
/-- The statement, by its short name. -/
theorem spanLays_holds : Rows.SpanLaysSaid := spanLays.over
#print axioms spanLays_holds
end Go.Proofs.Ytjidgpomolmglaa
