/-
  Whatever the input, the Go function SpanBack answers true, and its arguments read behind the call as they read before. No condition.
-/
import Derived.Test.YtjidgpomolmglaaRows
import Derived.Test.YtjidgpomolmglaaSnLaw
import Derived.WalkKit
import Derived.Deep.RegionHeld3
import Derived.ProofKit
import Derived.OpenShut
import Derived.ShutString
import Derived.ChangeOld
import Derived.Below
import Derived.Carry
namespace Go.Proofs.Ytjidgpomolmglaa.spanBack
open Go.ChangeShapes Go.WideShapes Go.ChangeAt Go.RowKit
open Go.ChangeMaps (open_string shut_string)
set_option linter.unusedVariables false

theorem own : ownKnob Try.prog.godebug = none := by kernel_rfl
theorem laidOut : laidOutB Try.prog = true := by kernel_rfl

set_option maxHeartbeats 4000000 in
set_option maxRecDepth 100000 in
theorem walk (w : World) (A0 : Option Addr) (len0 cap0 : Nat) (r0 : RowOf ks_flatDeed w A0 len0 cap0) (A1 : Option Addr) (len1 cap1 : Nat) (r1 : RowOf ks_flatDeed w A1 len1 cap1) :
    Calls Try.prog 5 #[.slice A0 len0 cap0, .slice A1 len1 cap1] w fun e w' => e = .returned (.bool true) ∧ Below w.heap.size w w' := by
  have hz := Sn.zSet
  go_enter Try.func5, Try.ntmps5
  go_wp2_with fail
  refine (Sn.made_c A0 len0 cap0 _ r0).mono ?_
  rintro e w1 ⟨f, A, n, c, rfl, hs, k1⟩
  obtain ⟨t1, t2, t3⟩ := Sn.box2 w1 (.slice A n c) f 25 27
  obtain ⟨w2, hw2⟩ : ∃ w2, w2 = (w1.alloc (.cells #[.slice A n c] 25)).alloc (.cells (Sn.bv f).toArray 27) := ⟨_, rfl⟩
  obtain ⟨b5, hb5⟩ : ∃ b5, b5 = w1.heap.size := ⟨_, rfl⟩
  obtain ⟨b6, hb6⟩ : ∃ b6, b6 = w1.heap.size + 1 := ⟨_, rfl⟩
  rw [← hw2] at t1 t2 t3
  rw [← hb5] at t1
  rw [← hb6] at t2
  have HC5 := Sn.hid t1
  have HC6 := Sn.hid t2
  have HS := Sn.hid (hs.keep0 t3)
  have HK2 := Sn.hid (k1.trans t3)
  have HR1 := Sn.hid (Sn.rowOf_keep r1 HK2.out)
  clear r0 r1 t1 t2 t3 hs k1
  go_upto_region 2 with (refine Wh.wpList_store_newAt rfl 27 _ _ rfl (w1.heap.size + 1) (by simp) (Sn.bv Sn.no).toArray (Sn.bv f).toArray rfl rfl (Sn.iSet' _) (by rw [Sn.bvs, Sn.bvs]) (Sn.bv_all _) ?_)
  rw [← hw2, ← hb6, ← hb5]
  clear hw2 hb5 hb6
  go_wp2_with fail
  refine (Sn.made_c A1 len1 cap1 _ HR1.out).mono ?_
  rintro e w3 ⟨g, A1', n1, c1, rfl, hs, k3⟩
  obtain ⟨t1, t2, t3⟩ := Sn.box2 w3 (.slice A1' n1 c1) g 25 27
  obtain ⟨w4, hw4⟩ : ∃ w4, w4 = (w3.alloc (.cells #[.slice A1' n1 c1] 25)).alloc (.cells (Sn.bv g).toArray 27) := ⟨_, rfl⟩
  obtain ⟨b7, hb7⟩ : ∃ b7, b7 = w3.heap.size := ⟨_, rfl⟩
  obtain ⟨b8, hb8⟩ : ∃ b8, b8 = w3.heap.size + 1 := ⟨_, rfl⟩
  rw [← hw4] at t1 t2 t3
  rw [← hb7] at t1
  rw [← hb8] at t2
  have HC7 := Sn.hid t1
  have HC8 := Sn.hid t2
  have HT := Sn.hid (hs.keep0 t3)
  have HK24 := Sn.hid (k3.trans t3)
  clear t1 t2 t3 hs k3
  go_upto_region 3 with (refine Wh.wpList_store_newAt rfl 27 _ _ rfl (w3.heap.size + 1) (by simp) (Sn.bv Sn.no).toArray (Sn.bv g).toArray rfl rfl (Sn.iSet' _) (by rw [Sn.bvs, Sn.bvs]) (Sn.bv_all _) ?_)
  rw [← hw4, ← hb8, ← hb7]
  clear hw4 hb7 hb8
  have hc5 := cell_keep HC5.out HK24.out (by simp)
  have hc7 := HC7.out
  go_wp2_with fail
  refine (Sn.both_c _ _ _ _ _ _ _ _ _ _ _ (HS.out.keep0 HK24.out) HT.out).mono ?_
  rintro e w5 ⟨A2, n2, c2, rfl, hs2, k5⟩
  obtain ⟨w6, hw6⟩ : ∃ w6, w6 = w5.alloc (.cells #[.slice A2 n2 c2] 25) := ⟨_, rfl⟩
  obtain ⟨b9, hb9⟩ : ∃ b9, b9 = w5.heap.size := ⟨_, rfl⟩
  have t1 : w6.cell? ⟨b9, 0, none⟩ = some (.slice A2 n2 c2) := by rw [hw6, hb9]; simp
  have t3 : But [] w5 w6 := by rw [hw6]; exact (But.refl [] w5).alloc _
  have k46 := k5.trans t3
  have HS5 := Sn.hid ((HS.out.keep0 HK24.out).keep0 k46)
  have HS7 := Sn.hid (HT.out.keep0 k46)
  have HS9 := Sn.hid (hs2.keep0 t3)
  have HK6 := Sn.hid ((HK2.out.trans HK24.out).trans k46)
  have HST : Hid (w6.drew.cell? ⟨b5, 0, none⟩ = some (.slice A n c) ∧ w6.drew.cell? ⟨b7, 0, none⟩ = some (.slice A1' n1 c1) ∧ w6.drew.cell? ⟨b9, 0, none⟩ = some (.slice A2 n2 c2) ∧ w6.drew.rangeAt b6 0 (Sn.bv f) ∧ But [] w6 w6.drew) :=
    Sn.b_keep (But.refl [] w6).drew ⟨cell_keep hc5 k46 (by simp), cell_keep hc7 k46 (by simp), t1, range_keep (range_keep HC6.out HK24.out (by simp)) k46 (by simp), But.refl [] w6⟩
  clear hc5 hc7 t1 t3 k46 k5 hs2
  go_upto_region 4 with fail
  rw [← hw6, ← hb9]
  clear hw6 hb9 hz
  refine wp_region_noPanic ?_
  refine wp_region_held_drew (S := fun w' => w'.cell? ⟨b5, 0, none⟩ = some (.slice A n c) ∧ w'.cell? ⟨b7, 0, none⟩ = some (.slice A1' n1 c1) ∧ w'.cell? ⟨b9, 0, none⟩ = some (.slice A2 n2 c2) ∧ w'.rangeAt b6 0 (Sn.bv f) ∧ But [] w6 w') (by kernel_rfl) HST.out (fun hS0 => ?_)
  refine held_take 0 (some 23) (.agg #[.slice A n c]) rfl rfl (by kernel_rfl) (by kernel_rfl) (by kernel_rfl) (fun _ _ _ h => h) (Or.inl ⟨by rfl, fun w' hw' => by obtain ⟨hw1, -⟩ := hw'; go_simp⟩) hS0 ?_
  simp only [Act.put, List.setIfInBounds_toArray, List.set_cons_zero, List.set_cons_succ]
  refine held_take 1 (some 24) (.agg #[.slice A2 n2 c2]) rfl rfl (by kernel_rfl) (by kernel_rfl) (by kernel_rfl) (fun _ _ _ h => h) (Or.inl ⟨by rfl, fun w' hw' => by obtain ⟨-, -, hw1, -⟩ := hw'; go_simp⟩) hS0 ?_
  simp only [Act.put, List.setIfInBounds_toArray, List.set_cons_zero, List.set_cons_succ]
  refine held_take 3 (some 26) (.agg #[.slice A2 n2 c2]) rfl rfl (by kernel_rfl) (by kernel_rfl) (by kernel_rfl) (fun _ _ _ h => h) (Or.inl ⟨by rfl, fun w' hw' => by obtain ⟨-, -, hw1, -⟩ := hw'; go_simp⟩) hS0 ?_
  simp only [Act.put, List.setIfInBounds_toArray, List.set_cons_zero, List.set_cons_succ]
  refine held_take 5 (some 28) (.agg (Sn.bv f).toArray) rfl rfl (by kernel_rfl) (by kernel_rfl) (by kernel_rfl) (fun _ _ _ h => h) (yieldsIf_load_mid (by rfl) _ _ rfl b6 0 rfl (Sn.bv f) _ (fun w' h => h.2.2.2.1) Try.underlying27 rfl (Sn.iSet f)) hS0 ?_
  simp only [Act.put, List.setIfInBounds_toArray, List.set_cons_zero, List.set_cons_succ]
  refine held_one 2 rfl (by kernel_rfl) (by rfl) (fun K hK => ?_)
  go_simp
  refine (Sn.without_c _ _ _ _ _ _ _ _ _ _ _ (HS5.out.keep0 hS0.2.2.2.2) (HS9.out.keep0 hS0.2.2.2.2)).mono ?_
  rintro e w2 ⟨B2, m2, d2, rfl, hs2, k2⟩
  go_wp2_with fail
  refine hK.out _ _ (Sn.b_keep k2 hS0) (fun hS2 => ?_)
  clear hK K hS0
  try simp only [Act.put, List.setIfInBounds_toArray, List.set_cons_zero, List.set_cons_succ]
  refine held_one 4 rfl (by kernel_rfl) (by rfl) (fun K hK => ?_)
  go_simp
  refine (Sn.with_c _ _ _ _ _ _ _ _ _ _ _ hs2 (HS9.out.keep0 hS2.2.2.2.2)).mono ?_
  rintro e w4 ⟨B4, m4, d4, rfl, hs4, k4⟩
  go_wp2_with fail
  refine hK.out _ _ (Sn.b_keep k4 hS2) (fun hS4 => ?_)
  clear hK K hS2
  try simp only [Act.put, List.setIfInBounds_toArray, List.set_cons_zero, List.set_cons_succ]
  refine held_one 6 rfl (by kernel_rfl) (by rfl) (fun K hK => ?_)
  go_simp
  refine (Sn.same_c _ _ _ _ f _ (hs4.congr (fun k => congrFun (Sn.back1 f g) k))).mono ?_
  rintro e w6 ⟨rfl, k6⟩
  go_wp2_with fail
  refine hK.out _ _ (Sn.b_keep k6 hS4) (fun hS6 => ?_)
  clear hK K hS4
  try simp only [Act.put, List.setIfInBounds_toArray, List.set_cons_zero, List.set_cons_succ]
  refine held_take 7 (some 30) (.bool true) rfl rfl (by kernel_rfl) (by kernel_rfl) (by kernel_rfl) (fun _ _ _ h => h) (Or.inl ⟨by rfl, fun w' hw' => by go_simp⟩) hS6 ?_
  simp only [Act.put, List.setIfInBounds_toArray, List.set_cons_zero, List.set_cons_succ]
  refine held_take 8 (some 31) (.agg #[.slice A n c]) rfl rfl (by kernel_rfl) (by kernel_rfl) (by kernel_rfl) (fun _ _ _ h => h) (Or.inl ⟨by rfl, fun w' hw' => by obtain ⟨hw1, -⟩ := hw'; go_simp⟩) hS6 ?_
  simp only [Act.put, List.setIfInBounds_toArray, List.set_cons_zero, List.set_cons_succ]
  refine held_take 9 (some 32) (.agg #[.slice A1' n1 c1]) rfl rfl (by kernel_rfl) (by kernel_rfl) (by kernel_rfl) (fun _ _ _ h => h) (Or.inl ⟨by rfl, fun w' hw' => by obtain ⟨-, hw1, -⟩ := hw'; go_simp⟩) hS6 ?_
  simp only [Act.put, List.setIfInBounds_toArray, List.set_cons_zero, List.set_cons_succ]
  refine held_take 11 (some 34) (.agg #[.slice A2 n2 c2]) rfl rfl (by kernel_rfl) (by kernel_rfl) (by kernel_rfl) (fun _ _ _ h => h) (Or.inl ⟨by rfl, fun w' hw' => by obtain ⟨-, -, hw1, -⟩ := hw'; go_simp⟩) hS6 ?_
  simp only [Act.put, List.setIfInBounds_toArray, List.set_cons_zero, List.set_cons_succ]
  refine held_take 13 (some 36) (.agg (Sn.bv f).toArray) rfl rfl (by kernel_rfl) (by kernel_rfl) (by kernel_rfl) (fun _ _ _ h => h) (yieldsIf_load_mid (by rfl) _ _ rfl b6 0 rfl (Sn.bv f) _ (fun w' h => h.2.2.2.1) Try.underlying27 rfl (Sn.iSet f)) hS6 ?_
  simp only [Act.put, List.setIfInBounds_toArray, List.set_cons_zero, List.set_cons_succ]
  refine held_one 10 rfl (by kernel_rfl) (by rfl) (fun K hK => ?_)
  go_simp
  refine (Sn.without_c _ _ _ _ _ _ _ _ _ _ _ (HS5.out.keep0 hS6.2.2.2.2) (HS7.out.keep0 hS6.2.2.2.2)).mono ?_
  rintro e w10 ⟨B10, m10, d10, rfl, hs10, k10⟩
  go_wp2_with fail
  refine hK.out _ _ (Sn.b_keep k10 hS6) (fun hS10 => ?_)
  clear hK K hS6
  try simp only [Act.put, List.setIfInBounds_toArray, List.set_cons_zero, List.set_cons_succ]
  refine held_one 12 rfl (by kernel_rfl) (by rfl) (fun K hK => ?_)
  go_simp
  refine (Sn.with_c _ _ _ _ _ _ _ _ _ _ _ hs10 (HS9.out.keep0 hS10.2.2.2.2)).mono ?_
  rintro e w12 ⟨B12, m12, d12, rfl, hs12, k12⟩
  go_wp2_with fail
  refine hK.out _ _ (Sn.b_keep k12 hS10) (fun hS12 => ?_)
  clear hK K hS10
  try simp only [Act.put, List.setIfInBounds_toArray, List.set_cons_zero, List.set_cons_succ]
  refine held_one 14 rfl (by kernel_rfl) (by rfl) (fun K hK => ?_)
  go_simp
  refine (Sn.same_c _ _ _ _ f _ (hs12.congr (fun k => congrFun (Sn.back2 f g) k))).mono ?_
  rintro e w14 ⟨rfl, k14⟩
  go_wp2_with fail
  refine hK.out _ _ (Sn.b_keep k14 hS12) (fun hS14 => ?_)
  clear hK K hS12
  try simp only [Act.put, List.setIfInBounds_toArray, List.set_cons_zero, List.set_cons_succ]
  refine held_take 15 (some 38) (.bool true) rfl rfl (by kernel_rfl) (by kernel_rfl) (by kernel_rfl) (fun _ _ _ h => h) (Or.inl ⟨by rfl, fun w' hw' => by go_simp⟩) hS14 ?_
  simp only [Act.put, List.setIfInBounds_toArray, List.set_cons_zero, List.set_cons_succ]
  refine held_take 16 (some 39) (.bool true) rfl rfl (by kernel_rfl) (by kernel_rfl) (by kernel_rfl) (fun _ _ _ h => h) (Or.inl ⟨by rfl, fun w' hw' => by go_simp⟩) hS14 ?_
  simp only [Act.put, List.setIfInBounds_toArray, List.set_cons_zero, List.set_cons_succ]
  refine held_take 17 (some 40) (.agg #[.slice A n c]) rfl rfl (by kernel_rfl) (by kernel_rfl) (by kernel_rfl) (fun _ _ _ h => h) (Or.inl ⟨by rfl, fun w' hw' => by obtain ⟨hw1, -⟩ := hw'; go_simp⟩) hS14 ?_
  simp only [Act.put, List.setIfInBounds_toArray, List.set_cons_zero, List.set_cons_succ]
  refine held_take 18 (some 41) (.agg #[.slice A n c]) rfl rfl (by kernel_rfl) (by kernel_rfl) (by kernel_rfl) (fun _ _ _ h => h) (Or.inl ⟨by rfl, fun w' hw' => by obtain ⟨hw1, -⟩ := hw'; go_simp⟩) hS14 ?_
  simp only [Act.put, List.setIfInBounds_toArray, List.set_cons_zero, List.set_cons_succ]
  refine held_one 19 rfl (by kernel_rfl) (by rfl) (fun K hK => ?_)
  go_simp
  refine (Sn.without_c _ _ _ _ _ _ _ _ _ _ _ (HS5.out.keep0 hS14.2.2.2.2) (HS5.out.keep0 hS14.2.2.2.2)).mono ?_
  rintro e w19 ⟨B19, m19, d19, rfl, hs19, k19⟩
  go_wp2_with fail
  refine hK.out _ _ (Sn.b_keep k19 hS14) (fun hS19 => ?_)
  clear hK K hS14
  try simp only [Act.put, List.setIfInBounds_toArray, List.set_cons_zero, List.set_cons_succ]
  refine held_one 20 rfl (by kernel_rfl) (by rfl) (fun K hK => ?_)
  go_simp
  refine (Sn.len0_c _ _ _ _ _ _ hs19 (Sn.out_self f)).mono ?_
  rintro e w20 ⟨rfl, k20⟩
  go_wp2_with fail
  refine hK.out _ _ (Sn.b_keep k20 hS19) (fun hS20 => ?_)
  clear hK K hS19
  try simp only [Act.put, List.setIfInBounds_toArray, List.set_cons_zero, List.set_cons_succ]
  refine held_take 21 (some 44) (.bool true) rfl rfl (by kernel_rfl) (by kernel_rfl) (by kernel_rfl) (fun _ _ _ h => h) (Or.inl ⟨by rfl, fun w' hw' => by go_simp⟩) hS20 ?_
  simp only [Act.put, List.setIfInBounds_toArray, List.set_cons_zero, List.set_cons_succ]
  refine held_take 22 (some 45) (.bool true) rfl rfl (by kernel_rfl) (by kernel_rfl) (by kernel_rfl) (fun _ _ _ h => h) (Or.inl ⟨by rfl, fun w' hw' => by go_simp⟩) hS20 ?_
  simp only [Act.put, List.setIfInBounds_toArray, List.set_cons_zero, List.set_cons_succ]
  refine held_take 23 (some 46) (.bool true) rfl rfl (by kernel_rfl) (by kernel_rfl) (by kernel_rfl) (fun _ _ _ h => h) (Or.inl ⟨by rfl, fun w' hw' => by go_simp⟩) hS20 ?_
  simp only [Act.put, List.setIfInBounds_toArray, List.set_cons_zero, List.set_cons_succ]
  refine held_take 24 (some 47) (.agg #[.slice A2 n2 c2]) rfl rfl (by kernel_rfl) (by kernel_rfl) (by kernel_rfl) (fun _ _ _ h => h) (Or.inl ⟨by rfl, fun w' hw' => by obtain ⟨-, -, hw1, -⟩ := hw'; go_simp⟩) hS20 ?_
  simp only [Act.put, List.setIfInBounds_toArray, List.set_cons_zero, List.set_cons_succ]
  refine held_take 25 (some 48) (.agg #[.slice A n c]) rfl rfl (by kernel_rfl) (by kernel_rfl) (by kernel_rfl) (fun _ _ _ h => h) (Or.inl ⟨by rfl, fun w' hw' => by obtain ⟨hw1, -⟩ := hw'; go_simp⟩) hS20 ?_
  simp only [Act.put, List.setIfInBounds_toArray, List.set_cons_zero, List.set_cons_succ]
  refine held_one 26 rfl (by kernel_rfl) (by rfl) (fun K hK => ?_)
  go_simp
  refine (Sn.within1_c _ _ _ _ _ _ _ _ _ _ _ (HS9.out.keep0 hS20.2.2.2.2) (HS5.out.keep0 hS20.2.2.2.2) (Sn.out_l f g)).mono ?_
  rintro e w26 ⟨rfl, k26⟩
  go_wp2_with fail
  refine hK.out _ _ (Sn.b_keep k26 hS20) (fun hS26 => ?_)
  clear hK K hS20
  try simp only [Act.put, List.setIfInBounds_toArray, List.set_cons_zero, List.set_cons_succ]
  refine held_take 27 (some 50) (.bool true) rfl rfl (by kernel_rfl) (by kernel_rfl) (by kernel_rfl) (fun _ _ _ h => h) (Or.inl ⟨by rfl, fun w' hw' => by go_simp⟩) hS26 ?_
  simp only [Act.put, List.setIfInBounds_toArray, List.set_cons_zero, List.set_cons_succ]
  refine held_take 28 (some 51) (.bool true) rfl rfl (by kernel_rfl) (by kernel_rfl) (by kernel_rfl) (fun _ _ _ h => h) (Or.inl ⟨by rfl, fun w' hw' => by go_simp⟩) hS26 ?_
  simp only [Act.put, List.setIfInBounds_toArray, List.set_cons_zero, List.set_cons_succ]
  refine held_take 29 (some 52) (.agg #[.slice A2 n2 c2]) rfl rfl (by kernel_rfl) (by kernel_rfl) (by kernel_rfl) (fun _ _ _ h => h) (Or.inl ⟨by rfl, fun w' hw' => by obtain ⟨-, -, hw1, -⟩ := hw'; go_simp⟩) hS26 ?_
  simp only [Act.put, List.setIfInBounds_toArray, List.set_cons_zero, List.set_cons_succ]
  refine held_take 30 (some 53) (.agg #[.slice A1' n1 c1]) rfl rfl (by kernel_rfl) (by kernel_rfl) (by kernel_rfl) (fun _ _ _ h => h) (Or.inl ⟨by rfl, fun w' hw' => by obtain ⟨-, hw1, -⟩ := hw'; go_simp⟩) hS26 ?_
  simp only [Act.put, List.setIfInBounds_toArray, List.set_cons_zero, List.set_cons_succ]
  refine held_one 31 rfl (by kernel_rfl) (by rfl) (fun K hK => ?_)
  go_simp
  refine (Sn.within1_c _ _ _ _ _ _ _ _ _ _ _ (HS9.out.keep0 hS26.2.2.2.2) (HS7.out.keep0 hS26.2.2.2.2) (Sn.out_r f g)).mono ?_
  rintro e w31 ⟨rfl, k31⟩
  go_wp2_with fail
  refine hK.out _ _ (Sn.b_keep k31 hS26) (fun hS31 => ?_)
  clear hK K hS26
  try simp only [Act.put, List.setIfInBounds_toArray, List.set_cons_zero, List.set_cons_succ]
  refine held_take 32 (some 55) (.bool true) rfl rfl (by kernel_rfl) (by kernel_rfl) (by kernel_rfl) (fun _ _ _ h => h) (Or.inl ⟨by rfl, fun w' hw' => by go_simp⟩) hS31 ?_
  simp only [Act.put, List.setIfInBounds_toArray, List.set_cons_zero, List.set_cons_succ]
  refine held_take 33 (some 56) (.bool true) rfl rfl (by kernel_rfl) (by kernel_rfl) (by kernel_rfl) (fun _ _ _ h => h) (Or.inl ⟨by rfl, fun w' hw' => by go_simp⟩) hS31 ?_
  simp only [Act.put, List.setIfInBounds_toArray, List.set_cons_zero, List.set_cons_succ]
  refine held_one 34 rfl (by kernel_rfl) (by rfl) (fun K hK => ?_)
  go_simp
  refine (Sn.awake_c _).mono ?_
  rintro e w34 ⟨rfl, k34⟩
  go_wp2_with fail
  refine hK.out _ _ (Sn.b_keep k34 hS31) (fun hS34 => ?_)
  clear hK K hS31
  try simp only [Act.put, List.setIfInBounds_toArray, List.set_cons_zero, List.set_cons_succ]
  refine held_take 35 (some 58) (.bool true) rfl rfl (by kernel_rfl) (by kernel_rfl) (by kernel_rfl) (fun _ _ _ h => h) (Or.inl ⟨by rfl, fun w' hw' => by go_simp⟩) hS34 ?_
  simp only [Act.put, List.setIfInBounds_toArray, List.set_cons_zero, List.set_cons_succ]
  refine held_take 36 (some 4) (.bool true) rfl rfl (by kernel_rfl) (by kernel_rfl) (by kernel_rfl) (fun _ _ _ h => h) (Or.inl ⟨by rfl, fun w' hw' => by go_simp⟩) hS34 ?_
  simp only [Act.put, List.setIfInBounds_toArray, List.set_cons_zero, List.set_cons_succ]
  refine wpAnyH_done (by kernel_rfl) ?_ _
  refine NoPanic.normal ?_
  have HE := Sn.hid (HK6.out.trans hS34.2.2.2.2)
  clear hS34
  go_wp2
  go_ret
  exact ⟨rfl, HE.out.below (Nat.le_refl _) (by simp)⟩

set_option maxRecDepth 100000 in
theorem lifted (os : Os) (started : os.Started) (H : Type) (enc : TypeId × Value → H) :
    ReturnsInHanded {} Try.checked os 5 .any (Rows.spanBackSpec.pre6 enc Try.prog Try.f5 Rows.spanBackRow.domain false) (Rows.spanBackSpec.post enc Try.prog Try.f5 false true false false) := by
  refine returnsInHanded_of_change (C := Try.checked) own started (by kernel_rfl) Try.func5
    (ChangeSpec.witness6 (enc := enc) (C := Try.checked) false ⟨#[], #[.slice none 0 0, .slice none 0 0], []⟩ 8 (by kernel_rfl) (by kernel_rfl) (by kernel_rfl) (by kernel_rfl)) ?_
  intro W base args ds gs before hval0 hW hcnd _
  have hval : ∀ (j : Nat) t v, Try.f5.params[j]? = some t → args[j]? = some v → Value.okWide Try.prog W .any base t v := hval0
  have hW' := hW
  obtain ⟨p, q, hA0, hV, rfl, hfz, hnd⟩ := hW
  have hA : DataW.TrodAll enc Try.prog W 0 (fun _ => true) true Try.f5.params.toList args.toList ds p := hA0
  rw [Try.params5] at hA hval
  obtain ⟨v0, vs0, d0, ds0, p0, q0, hargs, rfl, rfl, h0, t0⟩ := trodAll_cons hA
  obtain ⟨v1, vs1, d1, ds1, p1, q1, rfl, rfl, rfl, h1, t1⟩ := trodAll_cons t0
  obtain ⟨rfl, rfl, rfl⟩ := trodAll_nil t1
  obtain rfl : args = #[v0, v1] := by cases args; simp_all
  obtain ⟨rfl, rfl⟩ := trodVars_none hV
  have k0 := h0
  have lt0 : ∀ x ∈ p0, x.block < W.heap.size := by obtain ⟨m, hm⟩ := k0; exact DataW.trod_lt m _ _ _ hm
  have k1 := h1
  have lt1 : ∀ x ∈ p1, x.block < W.heap.size := by obtain ⟨m, hm⟩ := k1; exact DataW.trod_lt m _ _ _ hm
  obtain ⟨A0, len0, cap0, rfl⟩ := okWide_slice Try.underlying22 (hval 0 22 v0 rfl rfl)
  have r0 := rowOf_open Try.underlying22 flatDeed (by decide) h0
  obtain ⟨A1, len1, cap1, rfl⟩ := okWide_slice Try.underlying22 (hval 1 22 v1 rfl rfl)
  have r1 := rowOf_open Try.underlying22 flatDeed (by decide) h1
  clear hA0 hval0
  refine (walk W A0 len0 cap0 r0 A1 len1 cap1 r1).mono fun e W' ⟨he, hg⟩ => ?_
  subst he
  exact ⟨_, rfl, _, _, _, [], _, [], hW', (trodAll_cons_mk (shut_bool Try.underlying4 _) trodAll_mk0), (trodAll_cons_mk (Below.trod laidOut (by kernel_rfl) (of_decide_eq_true (by kernel_rfl)) k0 hg lt0) (trodAll_cons_mk (Below.trod laidOut (by kernel_rfl) (of_decide_eq_true (by kernel_rfl)) k1 hg lt1) trodAll_mk0)), rfl, hg.frame _, (fun h => by cases h)⟩

theorem over : Rows.spanBackRow.holds Try.pinned (OpenSpec.ofChange Rows.spanBackSpec) :=
  OpenClaim.holds_of_wide 5 Try.f5 rfl rfl rfl rfl rfl rfl rfl ⟨rfl, rfl, rfl, rfl, rfl⟩ rfl rfl rfl rfl rfl (by kernel_rfl) Try.func5 (by kernel_rfl)
    (of_decide_eq_true (by kernel_rfl)) (by unfold Func.isWrapper; first | (rw [if_pos (by decide +kernel)]; kernel_rfl) | (rw [if_neg (by decide +kernel)]; exact ⟨rfl, rfl⟩))
    (fun os started H enc _ => lifted os started H enc)
end Go.Proofs.Ytjidgpomolmglaa.spanBack
namespace Go.Proofs.Ytjidgpomolmglaa
/-- The statement, by its short name. -/
theorem spanBack_holds : Rows.SpanBackSaid := spanBack.over
#print axioms spanBack_holds
end Go.Proofs.Ytjidgpomolmglaa
