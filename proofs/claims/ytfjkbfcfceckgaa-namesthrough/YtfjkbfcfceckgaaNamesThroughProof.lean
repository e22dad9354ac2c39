/-
  Whatever the input, the Go function NamesThrough answers true, and its arguments read behind the call as they read before. No condition.
-/
import Derived.Test.YtfjkbfcfceckgaaRows
import Derived.Test.YtfjkbfcfceckgaaNmLaw
import Derived.WalkKit
import Derived.Deep.RegionHeld3
import Derived.ProofKit
import Derived.OpenShut
import Derived.ShutString
import Derived.ChangeOld
import Derived.Below
import Derived.Carry
namespace Go.Proofs.Ytfjkbfcfceckgaa.namesThrough
open Go.ChangeShapes Go.WideShapes Go.ChangeAt Go.RowKit
open Go.ChangeMaps (open_string shut_string)
set_option linter.unusedVariables false

theorem own : ownKnob Try.prog.godebug = none := by kernel_rfl
theorem laidOut : laidOutB Try.prog = true := by kernel_rfl

set_option maxHeartbeats 4000000 in
set_option maxRecDepth 100000 in
theorem walk (w : World) (A0 : Option Addr) (len0 cap0 : Nat) (r0 : RowOf ks_flatDeed w A0 len0 cap0) (A1 : Option Addr) (len1 cap1 : Nat) (r1 : RowOf ks_flatDeed w A1 len1 cap1) (A2 : Option Addr) (len2 cap2 : Nat) (r2 : RowOf ks_flatDeed w A2 len2 cap2) :
    Calls Try.prog 4 #[.slice A0 len0 cap0, .slice A1 len1 cap1, .slice A2 len2 cap2] w fun e w' => e = .returned (.bool true) ∧ Below w.heap.size w w' := by
  have hz := Nm.zTab
  have HR1 := Nm.hid r1
  have HR2 := Nm.hid r2
  clear r1 r2
  go_enter Try.func4, Try.ntmps4
  go_wp2_with fail
  refine (Nm.made_c A0 len0 cap0 _ r0).mono ?_
  rintro e w1 ⟨T, n, A, c, rfl, tn, dl, k1⟩
  obtain ⟨w2, hw2⟩ : ∃ w2, w2 = w1.alloc (.cells (Nm.tv T).toArray 28) := ⟨_, rfl⟩
  obtain ⟨b7, hb7⟩ : ∃ b7, b7 = w1.heap.size := ⟨_, rfl⟩
  have t3 : But [] w1 w2 := by rw [hw2]; exact (But.refl [] w1).alloc _
  have t1 := new_range w1 (Nm.tv T) 28
  rw [← hw2, ← hb7] at t1
  have kk := k1.trans t3
  have HK := Nm.hid kk
  have HX7 := Nm.hid t1
  have HT7 := Nm.hid tn
  have HD7 := Nm.hid (dl.keep0 t3)
  have HR1 := Nm.hid (Nm.rowOf_keep HR1.out kk)
  have HR2 := Nm.hid (Nm.rowOf_keep HR2.out kk)
  clear r0 t1 t3 tn dl k1 kk
  go_upto_region 2 with (refine Wh.wpList_store_newAt rfl 28 _ _ rfl w1.heap.size rfl (Nm.tv Nm.t0).toArray (Nm.tv T).toArray rfl rfl (Nm.iTab' _) (by rw [Nm.tvs, Nm.tvs]) (Nm.tv_all _) ?_)
  rw [← hw2, ← hb7]
  clear hw2 hb7
  go_wp2_with fail
  refine (Nm.made_c A1 len1 cap1 _ HR1.out).mono ?_
  rintro e w3 ⟨U, n', A', c', rfl, tn, dl, k1⟩
  obtain ⟨w4, hw4⟩ : ∃ w4, w4 = w3.alloc (.cells (Nm.tv U).toArray 28) := ⟨_, rfl⟩
  obtain ⟨b9, hb9⟩ : ∃ b9, b9 = w3.heap.size := ⟨_, rfl⟩
  have t3 : But [] w3 w4 := by rw [hw4]; exact (But.refl [] w3).alloc _
  have t1 := new_range w3 (Nm.tv U) 28
  rw [← hw4, ← hb9] at t1
  have kk := k1.trans t3
  have HX9 := Nm.hid t1
  have HT9 := Nm.hid tn
  have HD9 := Nm.hid (dl.keep0 t3)
  have HX7 := Nm.hid (range_keep HX7.out kk (by simp))
  have HD7 := Nm.hid (HD7.out.keep0 kk)
  have HR2 := Nm.hid (Nm.rowOf_keep HR2.out kk)
  have HK := Nm.hid (HK.out.trans kk)
  clear t1 t3 tn dl k1 kk
  go_upto_region 3 with (refine Wh.wpList_store_newAt rfl 28 _ _ rfl w3.heap.size rfl (Nm.tv Nm.t0).toArray (Nm.tv U).toArray rfl rfl (Nm.iTab' _) (by rw [Nm.tvs, Nm.tvs]) (Nm.tv_all _) ?_)
  rw [← hw4, ← hb9]
  clear hw4 hb9
  go_wp2_with fail
  refine (Nm.made_c A2 len2 cap2 _ HR2.out).mono ?_
  rintro e w5 ⟨V, n2, A2, c2, rfl, tn, dl, k1⟩
  obtain ⟨w6, hw6⟩ : ∃ w6, w6 = w5.alloc (.cells (Nm.tv V).toArray 28) := ⟨_, rfl⟩
  obtain ⟨b11, hb11⟩ : ∃ b11, b11 = w5.heap.size := ⟨_, rfl⟩
  have t3 : But [] w5 w6 := by rw [hw6]; exact (But.refl [] w5).alloc _
  have t1 := new_range w5 (Nm.tv V) 28
  rw [← hw6, ← hb11] at t1
  have kk := k1.trans t3
  have HX11 := Nm.hid t1
  have HT11 := Nm.hid tn
  have HD11 := Nm.hid (dl.keep0 t3)
  have HX7 := Nm.hid (range_keep HX7.out kk (by simp))
  have HD7 := Nm.hid (HD7.out.keep0 kk)
  have HX9 := Nm.hid (range_keep HX9.out kk (by simp))
  have HD9 := Nm.hid (HD9.out.keep0 kk)
  have HK := Nm.hid (HK.out.trans kk)
  clear t1 t3 tn dl k1 kk
  go_upto_region 4 with (refine Wh.wpList_store_newAt rfl 28 _ _ rfl w5.heap.size rfl (Nm.tv Nm.t0).toArray (Nm.tv V).toArray rfl rfl (Nm.iTab' _) (by rw [Nm.tvs, Nm.tvs]) (Nm.tv_all _) ?_)
  rw [← hw6, ← hb11]
  clear hw6 hb11
  clear hz
  have HST : Hid (w6.drew.rangeAt b7 0 (Nm.tv T) ∧ w6.drew.rangeAt b9 0 (Nm.tv U) ∧ w6.drew.rangeAt b11 0 (Nm.tv V) ∧ But [] w6 w6.drew) := Nm.r_keep3 (But.refl [] w6).drew ⟨HX7.out, HX9.out, HX11.out, But.refl [] w6⟩
  refine wp_region_noPanic ?_
  refine wp_region_held_drew (S := fun w' => w'.rangeAt b7 0 (Nm.tv T) ∧ w'.rangeAt b9 0 (Nm.tv U) ∧ w'.rangeAt b11 0 (Nm.tv V) ∧ But [] w6 w') (by kernel_rfl) HST.out (fun hS0 => ?_)
  refine held_take 0 (some 28) (.agg (Nm.tv T).toArray) rfl rfl (by kernel_rfl) (by kernel_rfl) (by kernel_rfl) (fun _ _ _ h => h) (yieldsIf_load_mid (by rfl) _ _ rfl b7 0 rfl (Nm.tv T) _ (fun w' h => h.1) Try.underlying28 rfl (Nm.iTab T)) hS0 ?_
  simp only [Act.put, List.setIfInBounds_toArray, List.set_cons_zero, List.set_cons_succ]
  refine held_take 1 (some 29) (.agg (Nm.tv U).toArray) rfl rfl (by kernel_rfl) (by kernel_rfl) (by kernel_rfl) (fun _ _ _ h => h) (yieldsIf_load_mid (by rfl) _ _ rfl b9 0 rfl (Nm.tv U) _ (fun w' h => h.2.1) Try.underlying28 rfl (Nm.iTab U)) hS0 ?_
  simp only [Act.put, List.setIfInBounds_toArray, List.set_cons_zero, List.set_cons_succ]
  refine held_take 3 (some 31) (.slice A n c) rfl rfl (by kernel_rfl) (by kernel_rfl) (by kernel_rfl) (fun _ _ _ h => h) (Or.inl ⟨by rfl, fun w' hw' => by go_simp⟩) hS0 ?_
  simp only [Act.put, List.setIfInBounds_toArray, List.set_cons_zero, List.set_cons_succ]
  refine held_take 4 (some 32) (.slice A' n' c') rfl rfl (by kernel_rfl) (by kernel_rfl) (by kernel_rfl) (fun _ _ _ h => h) (Or.inl ⟨by rfl, fun w' hw' => by go_simp⟩) hS0 ?_
  simp only [Act.put, List.setIfInBounds_toArray, List.set_cons_zero, List.set_cons_succ]
  refine held_one 2 rfl (by kernel_rfl) (by rfl) (fun K hK => ?_)
  go_simp
  refine (Nm.through_c T U HT7.out.ok HT9.out.ok _).mono ?_
  rintro e w2 ⟨rfl, k2⟩
  go_wp2_with fail
  refine hK.out _ _ (Nm.r_keep3 k2 hS0) (fun hS2 => ?_)
  clear hK K hS0
  try simp only [Act.put, List.setIfInBounds_toArray, List.set_cons_zero, List.set_cons_succ]
  refine held_one 5 rfl (by kernel_rfl) (by rfl) (fun K hK => ?_)
  go_simp
  refine (Nm.rthrough2_c _ _ _ _ _ _ _ _ T U _ (HD7.out.keep0 hS2.2.2.2) (HD9.out.keep0 hS2.2.2.2) HT7.out HT9.out).mono ?_
  rintro e w5 ⟨L5, d5, rfl, dl5, k5⟩
  go_wp2_with fail
  refine hK.out _ _ (Nm.r_keep3 k5 hS2) (fun hS5 => ?_)
  clear hK K hS2
  try simp only [Act.put, List.setIfInBounds_toArray, List.set_cons_zero, List.set_cons_succ]
  refine held_one 6 rfl (by kernel_rfl) (by rfl) (fun K hK => ?_)
  go_simp
  refine (Nm.lsame_c _ _ _ _ (Nm.thr T U) (HT7.out.thr HT9.out) _ dl5).mono ?_
  rintro e w6 ⟨rfl, k6⟩
  go_wp2_with fail
  refine hK.out _ _ (Nm.r_keep3 k6 hS5) (fun hS6 => ?_)
  clear hK K hS5
  try simp only [Act.put, List.setIfInBounds_toArray, List.set_cons_zero, List.set_cons_succ]
  refine held_take 7 (some 35) (.bool true) rfl rfl (by kernel_rfl) (by kernel_rfl) (by kernel_rfl) (fun _ _ _ h => h) (Or.inl ⟨by rfl, fun w' hw' => by go_simp⟩) hS6 ?_
  simp only [Act.put, List.setIfInBounds_toArray, List.set_cons_zero, List.set_cons_succ]
  refine held_take 8 (some 36) (.agg (Nm.tv T).toArray) rfl rfl (by kernel_rfl) (by kernel_rfl) (by kernel_rfl) (fun _ _ _ h => h) (yieldsIf_load_mid (by rfl) _ _ rfl b7 0 rfl (Nm.tv T) _ (fun w' h => h.1) Try.underlying28 rfl (Nm.iTab T)) hS6 ?_
  simp only [Act.put, List.setIfInBounds_toArray, List.set_cons_zero, List.set_cons_succ]
  refine held_take 9 (some 37) (.agg (Nm.tv U).toArray) rfl rfl (by kernel_rfl) (by kernel_rfl) (by kernel_rfl) (fun _ _ _ h => h) (yieldsIf_load_mid (by rfl) _ _ rfl b9 0 rfl (Nm.tv U) _ (fun w' h => h.2.1) Try.underlying28 rfl (Nm.iTab U)) hS6 ?_
  simp only [Act.put, List.setIfInBounds_toArray, List.set_cons_zero, List.set_cons_succ]
  refine held_take 11 (some 39) (.agg (Nm.tv V).toArray) rfl rfl (by kernel_rfl) (by kernel_rfl) (by kernel_rfl) (fun _ _ _ h => h) (yieldsIf_load_mid (by rfl) _ _ rfl b11 0 rfl (Nm.tv V) _ (fun w' h => h.2.2.1) Try.underlying28 rfl (Nm.iTab V)) hS6 ?_
  simp only [Act.put, List.setIfInBounds_toArray, List.set_cons_zero, List.set_cons_succ]
  refine held_take 13 (some 41) (.agg (Nm.tv T).toArray) rfl rfl (by kernel_rfl) (by kernel_rfl) (by kernel_rfl) (fun _ _ _ h => h) (yieldsIf_load_mid (by rfl) _ _ rfl b7 0 rfl (Nm.tv T) _ (fun w' h => h.1) Try.underlying28 rfl (Nm.iTab T)) hS6 ?_
  simp only [Act.put, List.setIfInBounds_toArray, List.set_cons_zero, List.set_cons_succ]
  refine held_take 14 (some 42) (.agg (Nm.tv U).toArray) rfl rfl (by kernel_rfl) (by kernel_rfl) (by kernel_rfl) (fun _ _ _ h => h) (yieldsIf_load_mid (by rfl) _ _ rfl b9 0 rfl (Nm.tv U) _ (fun w' h => h.2.1) Try.underlying28 rfl (Nm.iTab U)) hS6 ?_
  simp only [Act.put, List.setIfInBounds_toArray, List.set_cons_zero, List.set_cons_succ]
  refine held_take 15 (some 43) (.agg (Nm.tv V).toArray) rfl rfl (by kernel_rfl) (by kernel_rfl) (by kernel_rfl) (fun _ _ _ h => h) (yieldsIf_load_mid (by rfl) _ _ rfl b11 0 rfl (Nm.tv V) _ (fun w' h => h.2.2.1) Try.underlying28 rfl (Nm.iTab V)) hS6 ?_
  simp only [Act.put, List.setIfInBounds_toArray, List.set_cons_zero, List.set_cons_succ]
  refine held_one 10 rfl (by kernel_rfl) (by rfl) (fun K hK => ?_)
  go_simp
  refine (Nm.through_c T U HT7.out.ok HT9.out.ok _).mono ?_
  rintro e w10 ⟨rfl, k10⟩
  go_wp2_with fail
  refine hK.out _ _ (Nm.r_keep3 k10 hS6) (fun hS10 => ?_)
  clear hK K hS6
  try simp only [Act.put, List.setIfInBounds_toArray, List.set_cons_zero, List.set_cons_succ]
  refine held_one 12 rfl (by kernel_rfl) (by rfl) (fun K hK => ?_)
  go_simp
  refine (Nm.through_c (Nm.thr T U) V (Nm.thr_ok HT9.out.ok) HT11.out.ok _).mono ?_
  rintro e w12 ⟨rfl, k12⟩
  go_wp2_with fail
  refine hK.out _ _ (Nm.r_keep3 k12 hS10) (fun hS12 => ?_)
  clear hK K hS10
  try simp only [Act.put, List.setIfInBounds_toArray, List.set_cons_zero, List.set_cons_succ]
  refine held_one 16 rfl (by kernel_rfl) (by rfl) (fun K hK => ?_)
  go_simp
  refine (Nm.through_c U V HT9.out.ok HT11.out.ok _).mono ?_
  rintro e w16 ⟨rfl, k16⟩
  go_wp2_with fail
  refine hK.out _ _ (Nm.r_keep3 k16 hS12) (fun hS16 => ?_)
  clear hK K hS12
  try simp only [Act.put, List.setIfInBounds_toArray, List.set_cons_zero, List.set_cons_succ]
  refine held_one 17 rfl (by kernel_rfl) (by rfl) (fun K hK => ?_)
  go_simp
  refine (Nm.through_c T (Nm.thr U V) HT7.out.ok (Nm.thr_ok HT11.out.ok) _).mono ?_
  rintro e w17 ⟨rfl, k17⟩
  go_wp2_with fail
  refine hK.out _ _ (Nm.r_keep3 k17 hS16) (fun hS17 => ?_)
  clear hK K hS16
  try simp only [Act.put, List.setIfInBounds_toArray, List.set_cons_zero, List.set_cons_succ]
  refine held_one 18 rfl (by kernel_rfl) (by rfl) (fun K hK => ?_)
  go_simp
  refine (Nm.same1_c (Nm.thr (Nm.thr T U) V) (Nm.thr T (Nm.thr U V)) _ (Nm.thr_thr T U V)).mono ?_
  rintro e w18 ⟨rfl, k18⟩
  go_wp2_with fail
  refine hK.out _ _ (Nm.r_keep3 k18 hS17) (fun hS18 => ?_)
  clear hK K hS17
  try simp only [Act.put, List.setIfInBounds_toArray, List.set_cons_zero, List.set_cons_succ]
  refine held_take 19 (some 47) (.bool true) rfl rfl (by kernel_rfl) (by kernel_rfl) (by kernel_rfl) (fun _ _ _ h => h) (Or.inl ⟨by rfl, fun w' hw' => by go_simp⟩) hS18 ?_
  simp only [Act.put, List.setIfInBounds_toArray, List.set_cons_zero, List.set_cons_succ]
  refine held_take 20 (some 48) (.bool true) rfl rfl (by kernel_rfl) (by kernel_rfl) (by kernel_rfl) (fun _ _ _ h => h) (Or.inl ⟨by rfl, fun w' hw' => by go_simp⟩) hS18 ?_
  simp only [Act.put, List.setIfInBounds_toArray, List.set_cons_zero, List.set_cons_succ]
  refine held_take 21 (some 49) (.agg (Nm.tv T).toArray) rfl rfl (by kernel_rfl) (by kernel_rfl) (by kernel_rfl) (fun _ _ _ h => h) (yieldsIf_load_mid (by rfl) _ _ rfl b7 0 rfl (Nm.tv T) _ (fun w' h => h.1) Try.underlying28 rfl (Nm.iTab T)) hS18 ?_
  simp only [Act.put, List.setIfInBounds_toArray, List.set_cons_zero, List.set_cons_succ]
  refine held_take 22 (some 50) (.agg (Nm.tv U).toArray) rfl rfl (by kernel_rfl) (by kernel_rfl) (by kernel_rfl) (fun _ _ _ h => h) (yieldsIf_load_mid (by rfl) _ _ rfl b9 0 rfl (Nm.tv U) _ (fun w' h => h.2.1) Try.underlying28 rfl (Nm.iTab U)) hS18 ?_
  simp only [Act.put, List.setIfInBounds_toArray, List.set_cons_zero, List.set_cons_succ]
  refine held_take 25 (some 53) (.agg (Nm.tv U).toArray) rfl rfl (by kernel_rfl) (by kernel_rfl) (by kernel_rfl) (fun _ _ _ h => h) (yieldsIf_load_mid (by rfl) _ _ rfl b9 0 rfl (Nm.tv U) _ (fun w' h => h.2.1) Try.underlying28 rfl (Nm.iTab U)) hS18 ?_
  simp only [Act.put, List.setIfInBounds_toArray, List.set_cons_zero, List.set_cons_succ]
  refine held_one 23 rfl (by kernel_rfl) (by rfl) (fun K hK => ?_)
  go_simp
  refine (Nm.through_c T U HT7.out.ok HT9.out.ok _).mono ?_
  rintro e w23 ⟨rfl, k23⟩
  go_wp2_with fail
  refine hK.out _ _ (Nm.r_keep3 k23 hS18) (fun hS23 => ?_)
  clear hK K hS18
  try simp only [Act.put, List.setIfInBounds_toArray, List.set_cons_zero, List.set_cons_succ]
  refine held_one 24 rfl (by kernel_rfl) (by rfl) (fun K hK => ?_)
  go_simp
  refine (Nm.Meant_c (Nm.thr T U) (Nm.thr_ok HT9.out.ok) _).mono ?_
  rintro e w24 ⟨B24, m24, d24, rfl, hs24, k24⟩
  go_wp2_with fail
  refine hK.out _ _ (Nm.r_keep3 k24 hS23) (fun hS24 => ?_)
  clear hK K hS23
  try simp only [Act.put, List.setIfInBounds_toArray, List.set_cons_zero, List.set_cons_succ]
  refine held_one 26 rfl (by kernel_rfl) (by rfl) (fun K hK => ?_)
  go_simp
  refine (Nm.Meant_c U HT9.out.ok _).mono ?_
  rintro e w26 ⟨B26, m26, d26, rfl, hs26, k26⟩
  go_wp2_with fail
  refine hK.out _ _ (Nm.r_keep3 k26 hS24) (fun hS26 => ?_)
  clear hK K hS24
  try simp only [Act.put, List.setIfInBounds_toArray, List.set_cons_zero, List.set_cons_succ]
  refine held_one 27 rfl (by kernel_rfl) (by rfl) (fun K hK => ?_)
  go_simp
  refine (Nm.within1_c _ _ _ _ _ _ _ _ _ _ _ (hs24.keep0 k26) hs26 (Nm.mn_thr T U)).mono ?_
  rintro e w27 ⟨rfl, k27⟩
  go_wp2_with fail
  refine hK.out _ _ (Nm.r_keep3 k27 hS26) (fun hS27 => ?_)
  clear hK K hS26
  try simp only [Act.put, List.setIfInBounds_toArray, List.set_cons_zero, List.set_cons_succ]
  refine held_take 28 (some 56) (.bool true) rfl rfl (by kernel_rfl) (by kernel_rfl) (by kernel_rfl) (fun _ _ _ h => h) (Or.inl ⟨by rfl, fun w' hw' => by go_simp⟩) hS27 ?_
  simp only [Act.put, List.setIfInBounds_toArray, List.set_cons_zero, List.set_cons_succ]
  refine held_take 29 (some 57) (.bool true) rfl rfl (by kernel_rfl) (by kernel_rfl) (by kernel_rfl) (fun _ _ _ h => h) (Or.inl ⟨by rfl, fun w' hw' => by go_simp⟩) hS27 ?_
  simp only [Act.put, List.setIfInBounds_toArray, List.set_cons_zero, List.set_cons_succ]
  refine held_one 30 rfl (by kernel_rfl) (by rfl) (fun K hK => ?_)
  go_simp
  refine (Nm.awake_c _).mono ?_
  rintro e w30 ⟨rfl, k30⟩
  go_wp2_with fail
  refine hK.out _ _ (Nm.r_keep3 k30 hS27) (fun hS30 => ?_)
  clear hK K hS27
  try simp only [Act.put, List.setIfInBounds_toArray, List.set_cons_zero, List.set_cons_succ]
  refine held_take 31 (some 59) (.bool true) rfl rfl (by kernel_rfl) (by kernel_rfl) (by kernel_rfl) (fun _ _ _ h => h) (Or.inl ⟨by rfl, fun w' hw' => by go_simp⟩) hS30 ?_
  simp only [Act.put, List.setIfInBounds_toArray, List.set_cons_zero, List.set_cons_succ]
  refine held_take 32 (some 6) (.bool true) rfl rfl (by kernel_rfl) (by kernel_rfl) (by kernel_rfl) (fun _ _ _ h => h) (Or.inl ⟨by rfl, fun w' hw' => by go_simp⟩) hS30 ?_
  simp only [Act.put, List.setIfInBounds_toArray, List.set_cons_zero, List.set_cons_succ]
  refine wpAnyH_done (by kernel_rfl) ?_ _
  refine NoPanic.normal ?_
  have HE := Nm.hid (HK.out.trans hS30.2.2.2)
  clear hS30
  go_wp2
  go_ret
  exact ⟨rfl, HE.out.below (Nat.le_refl _) (by simp)⟩

set_option maxRecDepth 100000 in
theorem lifted (os : Os) (started : os.Started) (H : Type) (enc : TypeId × Value → H) :
    ReturnsInHanded {} Try.checked os 4 .any (Rows.namesThroughSpec.pre6 enc Try.prog Try.f4 Rows.namesThroughRow.domain false) (Rows.namesThroughSpec.post enc Try.prog Try.f4 false true false false) := by
  refine returnsInHanded_of_change (C := Try.checked) own started (by kernel_rfl) Try.func4
    (ChangeSpec.witness6 (enc := enc) (C := Try.checked) false ⟨#[], #[.slice none 0 0, .slice none 0 0, .slice none 0 0], []⟩ 8 (by kernel_rfl) (by kernel_rfl) (by kernel_rfl) (by kernel_rfl)) ?_
  intro W base args ds gs before hval0 hW hcnd _
  have hval : ∀ (j : Nat) t v, Try.f4.params[j]? = some t → args[j]? = some v → Value.okWide Try.prog W .any base t v := hval0
  have hW' := hW
  obtain ⟨p, q, hA0, hV, rfl, hfz, hnd⟩ := hW
  have hA : DataW.TrodAll enc Try.prog W 0 (fun _ => true) true Try.f4.params.toList args.toList ds p := hA0
  rw [Try.params4] at hA hval
  obtain ⟨v0, vs0, d0, ds0, p0, q0, hargs, rfl, rfl, h0, t0⟩ := trodAll_cons hA
  obtain ⟨v1, vs1, d1, ds1, p1, q1, rfl, rfl, rfl, h1, t1⟩ := trodAll_cons t0
  obtain ⟨v2, vs2, d2, ds2, p2, q2, rfl, rfl, rfl, h2, t2⟩ := trodAll_cons t1
  obtain ⟨rfl, rfl, rfl⟩ := trodAll_nil t2
  obtain rfl : args = #[v0, v1, v2] := by cases args; simp_all
  obtain ⟨rfl, rfl⟩ := trodVars_none hV
  have k0 := h0
  have lt0 : ∀ x ∈ p0, x.block < W.heap.size := by obtain ⟨m, hm⟩ := k0; exact DataW.trod_lt m _ _ _ hm
  have k1 := h1
  have lt1 : ∀ x ∈ p1, x.block < W.heap.size := by obtain ⟨m, hm⟩ := k1; exact DataW.trod_lt m _ _ _ hm
  have k2 := h2
  have lt2 : ∀ x ∈ p2, x.block < W.heap.size := by obtain ⟨m, hm⟩ := k2; exact DataW.trod_lt m _ _ _ hm
  obtain ⟨A0, len0, cap0, rfl⟩ := okWide_slice Try.underlying22 (hval 0 22 v0 rfl rfl)
  have r0 := rowOf_open Try.underlying22 flatDeed (by decide) h0
  obtain ⟨A1, len1, cap1, rfl⟩ := okWide_slice Try.underlying22 (hval 1 22 v1 rfl rfl)
  have r1 := rowOf_open Try.underlying22 flatDeed (by decide) h1
  obtain ⟨A2, len2, cap2, rfl⟩ := okWide_slice Try.underlying22 (hval 2 22 v2 rfl rfl)
  have r2 := rowOf_open Try.underlying22 flatDeed (by decide) h2
  clear hA0 hval0
  refine (walk W A0 len0 cap0 r0 A1 len1 cap1 r1 A2 len2 cap2 r2).mono fun e W' ⟨he, hg⟩ => ?_
  subst he
  exact ⟨_, rfl, _, _, _, [], _, [], hW', (trodAll_cons_mk (shut_bool Try.underlying4 _) trodAll_mk0), (trodAll_cons_mk (Below.trod laidOut (by kernel_rfl) (of_decide_eq_true (by kernel_rfl)) k0 hg lt0) (trodAll_cons_mk (Below.trod laidOut (by kernel_rfl) (of_decide_eq_true (by kernel_rfl)) k1 hg lt1) (trodAll_cons_mk (Below.trod laidOut (by kernel_rfl) (of_decide_eq_true (by kernel_rfl)) k2 hg lt2) trodAll_mk0))), rfl, hg.frame _, (fun h => by cases h)⟩

theorem over : Rows.namesThroughRow.holds Try.pinned (OpenSpec.ofChange Rows.namesThroughSpec) :=
  OpenClaim.holds_of_wide 4 Try.f4 rfl rfl rfl rfl rfl rfl rfl ⟨rfl, rfl, rfl, rfl, rfl⟩ rfl rfl rfl rfl rfl (by kernel_rfl) Try.func4 (by kernel_rfl)
    (of_decide_eq_true (by kernel_rfl)) (by unfold Func.isWrapper; first | (rw [if_pos (by decide +kernel)]; kernel_rfl) | (rw [if_neg (by decide +kernel)]; exact ⟨rfl, rfl⟩))
    (fun os started H enc _ => lifted os started H enc)
end Go.Proofs.Ytfjkbfcfceckgaa.namesThrough
namespace Go.Proofs.Ytfjkbfcfceckgaa
/-- The statement, by its short name. -/
theorem namesThrough_holds : Rows.NamesThroughSaid := namesThrough.over
#print axioms namesThrough_holds
end Go.Proofs.Ytfjkbfcfceckgaa
