/-
  Whatever the input, the Go function NamesOwn answers true, and its arguments read behind the call as they read before. No condition.
-/
import Derived.Test.YtfjkbfcfceckgaaRows
import Derived.Test.YtfjkbfcfceckgaaNmLaw
import Derived.WalkKit
import Derived.Deep.RegionHeld3
import Derived.ProofKit
import Derived.OpenShut
import Derived.ShutString
import Derived.ChangeOld
import Derived.Below
import Derived.Carry
namespace Go.Proofs.Ytfjkbfcfceckgaa.namesOwn
open Go.ChangeShapes Go.WideShapes Go.ChangeAt Go.RowKit
open Go.ChangeMaps (open_string shut_string)
set_option linter.unusedVariables false

theorem own : ownKnob Try.prog.godebug = none := by kernel_rfl
theorem laidOut : laidOutB Try.prog = true := by kernel_rfl

set_option maxHeartbeats 4000000 in
set_option maxRecDepth 100000 in
theorem walk (w : World) (a0 : Int) (w0 : (Lit.int .i64 a0).wf = true) (A1 : Option Addr) (len1 cap1 : Nat) (r1 : RowOf ks_flatDeed w A1 len1 cap1) :
    Calls Try.prog 6 #[.int .i64 a0, .slice A1 len1 cap1] w fun e w' => e = .returned (.bool true) ∧ Below w.heap.size w w' := by
  have hz := Nm.zTab
  have hb0 := Nm.i64_bd w0
  go_enter Try.func6, Try.ntmps6
  go_wp2_with fail
  refine (Nm.made_c A1 len1 cap1 _ r1).mono ?_
  rintro e w1 ⟨T, n, A, c, rfl, tn, dl, k1⟩
  obtain ⟨w2, hw2⟩ : ∃ w2, w2 = w1.alloc (.cells (Nm.tv T).toArray 28) := ⟨_, rfl⟩
  obtain ⟨b5, hb5⟩ : ∃ b5, b5 = w1.heap.size := ⟨_, rfl⟩
  have t3 : But [] w1 w2 := by rw [hw2]; exact (But.refl [] w1).alloc _
  have t1 := new_range w1 (Nm.tv T) 28
  rw [← hw2, ← hb5] at t1
  have kk := k1.trans t3
  have HK := Nm.hid kk
  have HX5 := Nm.hid t1
  have HT5 := Nm.hid tn
  have HD5 := Nm.hid (dl.keep0 t3)
  clear r1 t1 t3 tn dl k1 kk
  go_upto_region 2 with (refine Wh.wpList_store_newAt rfl 28 _ _ rfl w1.heap.size rfl (Nm.tv Nm.t0).toArray (Nm.tv T).toArray rfl rfl (Nm.iTab' _) (by rw [Nm.tvs, Nm.tvs]) (Nm.tv_all _) ?_)
  rw [← hw2, ← hb5]
  clear hw2 hb5
  go_wp2_with fail
  refine (Nm.own_c a0 _).mono ?_
  rintro e w3 ⟨rfl, k3⟩
  obtain ⟨w4, hw4⟩ : ∃ w4, w4 = w3.alloc (.cells (Nm.tv (Nm.ownT a0)).toArray 28) := ⟨_, rfl⟩
  obtain ⟨b7, hb7⟩ : ∃ b7, b7 = w3.heap.size := ⟨_, rfl⟩
  have t3 : But [] w3 w4 := by rw [hw4]; exact (But.refl [] w3).alloc _
  have t1 := new_range w3 (Nm.tv (Nm.ownT a0)) 28
  rw [← hw4, ← hb7] at t1
  have kk := k3.trans t3
  have HX7 := Nm.hid t1
  have HX5 := Nm.hid (range_keep HX5.out kk (by simp))
  have HD5 := Nm.hid (HD5.out.keep0 kk)
  have HK := Nm.hid (HK.out.trans kk)
  clear t1 t3 k3 kk
  go_upto_region 3 with (refine Wh.wpList_store_newAt rfl 28 _ _ rfl w3.heap.size rfl (Nm.tv Nm.t0).toArray (Nm.tv (Nm.ownT a0)).toArray rfl rfl (Nm.iTab' _) (by rw [Nm.tvs, Nm.tvs]) (Nm.tv_all _) ?_)
  rw [← hw4, ← hb7]
  clear hw4 hb7 hz
  go_upto_if 20 with fail
  go_cut [8] (fun s8 wx => ∃ k1 : Int, s8 = .int .i64 k1 ∧ 0 ≤ k1 ∧ k1 ≤ 9223372036854775807 ∧ Hid (∀ j : Nat, (j : Int) < a0 ↔ (j : Int) < k1) ∧ wx = w4)
  case first =>
    by_cases h0 : a0 < 0
    · go_wp2
      go_meet
      exact ⟨0, rfl, by omega, by omega, fun j => by omega, rfl⟩
    · go_wp2
      go_meet
      exact ⟨a0, rfl, by omega, by omega, fun j => Iff.rfl, rfl⟩
  case rest =>
  obtain ⟨k1, rfl, hk1, hk2, HK1, rfl⟩ := hcut
  go_upto_if 22 with fail
  go_cut [8] (fun s8 wx => ∃ kk : Nat, s8 = .int .i64 kk ∧ kk ≤ 512 ∧ Hid (∀ j : Nat, (j : Int) < a0 ∧ j < 512 ↔ j < kk) ∧ wx = wc)
  case first =>
    by_cases h0 : 512 < k1
    · go_wp2
      go_meet
      exact ⟨512, rfl, by omega, fun j => by have := HK1.out j; omega, rfl⟩
    · obtain ⟨kk, rfl⟩ : ∃ kk : Nat, k1 = kk := ⟨k1.toNat, by omega⟩
      go_wp2
      go_meet
      exact ⟨kk, rfl, by omega, fun j => by have := HK1.out j; omega, rfl⟩
  case rest =>
  obtain ⟨kk, rfl, hk5, HKK, rfl⟩ := hcut
  clear HK1 hk1 hk2
  have hn := HT5.out.le
  go_wp2
  go_loopg [9, 10] (n + 1) (fun g0 bv iv wx => ∃ (i : Nat) (z : Bool), i + g0 = n + 1 ∧ i ≤ n ∧ iv = .int .i64 i ∧ bv = .bool z ∧ Hid (Nm.Bz z T i kk) ∧ wx = wc)
  case atStart => exact ⟨0, true, by omega, by omega, rfl, rfl, Nm.Bz.nil T kk, rfl⟩
  case round =>
    obtain ⟨i, z, hig, hin, rfl, rfl, HZ, rfl⟩ := hrel
    by_cases hlt : i < n
    · have hiI : (i : Int) < n := by omega
      obtain ⟨g, off, rfl, h1, h2, hcs⟩ := HD5.out.at_ hlt
      have hc := hcs i hlt
      clear hcs h1 h2
      cases z with
      | true =>
        by_cases hx : T i < kk
        · have HZ1 := Nm.hid (HZ.out.yes hx)
          generalize T i = x at hc hx
          clear HZ
          go_wp2
          go_roundg (n + 1 - (i + 1))
          case measure => omega
          case rel => exact ⟨i + 1, true, by omega, by omega, by go_num, rfl, HZ1.out, rfl⟩
        · have HZ1 := Nm.hid (Nm.Bz.no hx)
          have hx' : decide (T i < kk) = false := decide_eq_false hx
          generalize T i = x at hc hx hx'
          clear HZ
          go_wp2
          go_roundg (n + 1 - (i + 1))
          case measure => omega
          case rel => exact ⟨i + 1, false, by omega, by omega, by go_num, rfl, HZ1.out, rfl⟩
      | false =>
        have HZ1 := Nm.hid HZ.out.still
        clear HZ hc
        go_wp2
        go_roundg (n + 1 - (i + 1))
        case measure => omega
        case rel => exact ⟨i + 1, false, by omega, by omega, by go_num, rfl, HZ1.out, rfl⟩
    · obtain rfl : i = n := by omega
      have hlt' : decide ((i : Int) < (i : Int)) = false := by simp
      cases z with
      | false =>
        have HST : Hid (wr.drew.rangeAt b5 0 (Nm.tv T) ∧ wr.drew.rangeAt b7 0 (Nm.tv (Nm.ownT a0)) ∧ But [] wr wr.drew) := Nm.r_keep2 (But.refl [] wr).drew ⟨HX5.out, HX7.out, But.refl [] wr⟩
        go_upto_region 13 with fail
        refine wp_region_noPanic ?_
        refine wp_region_held_drew (S := fun w' => w'.rangeAt b5 0 (Nm.tv T) ∧ w'.rangeAt b7 0 (Nm.tv (Nm.ownT a0)) ∧ But [] wr w') (by kernel_rfl) HST.out (fun hS0 => ?_)
        refine held_take 0 (some 38) (.agg (Nm.tv (Nm.ownT a0)).toArray) rfl rfl (by kernel_rfl) (by kernel_rfl) (by kernel_rfl) (fun _ _ _ h => h) (yieldsIf_load_mid (by rfl) _ _ rfl b7 0 rfl (Nm.tv (Nm.ownT a0)) _ (fun w' h => h.2.1) Try.underlying28 rfl (Nm.iTab (Nm.ownT a0))) hS0 ?_
        simp only [Act.put, List.setIfInBounds_toArray, List.set_cons_zero, List.set_cons_succ]
        refine held_take 2 (some 40) (.int .i64 kk) rfl rfl (by kernel_rfl) (by kernel_rfl) (by kernel_rfl) (fun _ _ _ h => h) (Or.inl ⟨by rfl, fun w' hw' => by go_simp⟩) hS0 ?_
        simp only [Act.put, List.setIfInBounds_toArray, List.set_cons_zero, List.set_cons_succ]
        refine held_one 1 rfl (by kernel_rfl) (by rfl) (fun K hK => ?_)
        go_simp
        refine (Nm.lenK_c (Nm.ownT a0) kk (Nm.own_ok a0) (Nm.own_len HKK.out hk5) _).mono ?_
        rintro e w1 ⟨rfl, k1⟩
        go_wp2_with fail
        refine hK.out _ _ (Nm.r_keep2 k1 hS0) (fun hS1 => ?_)
        clear hK K hS0
        try simp only [Act.put, List.setIfInBounds_toArray, List.set_cons_zero, List.set_cons_succ]
        refine held_take 3 (some 41) (.bool true) rfl rfl (by kernel_rfl) (by kernel_rfl) (by kernel_rfl) (fun _ _ _ h => h) (Or.inl ⟨by rfl, fun w' hw' => by go_simp⟩) hS1 ?_
        simp only [Act.put, List.setIfInBounds_toArray, List.set_cons_zero, List.set_cons_succ]
        refine held_take 4 (some 42) (.bool true) rfl rfl (by kernel_rfl) (by kernel_rfl) (by kernel_rfl) (fun _ _ _ h => h) (Or.inl ⟨by rfl, fun w' hw' => by go_simp⟩) hS1 ?_
        simp only [Act.put, List.setIfInBounds_toArray, List.set_cons_zero, List.set_cons_succ]
        refine held_take 5 (some 43) (.bool false) rfl rfl (by kernel_rfl) (by kernel_rfl) (by kernel_rfl) (fun _ _ _ h => h) (Or.inl ⟨by rfl, fun w' hw' => by go_simp⟩) hS1 ?_
        simp only [Act.put, List.setIfInBounds_toArray, List.set_cons_zero, List.set_cons_succ]
        refine held_take 6 (some 44) (.bool true) rfl rfl (by kernel_rfl) (by kernel_rfl) (by kernel_rfl) (fun _ _ _ h => h) (Or.inl ⟨by rfl, fun w' hw' => by go_simp⟩) hS1 ?_
        simp only [Act.put, List.setIfInBounds_toArray, List.set_cons_zero, List.set_cons_succ]
        refine held_take 7 (some 45) (.bool true) rfl rfl (by kernel_rfl) (by kernel_rfl) (by kernel_rfl) (fun _ _ _ h => h) (Or.inl ⟨by rfl, fun w' hw' => by go_simp⟩) hS1 ?_
        simp only [Act.put, List.setIfInBounds_toArray, List.set_cons_zero, List.set_cons_succ]
        refine held_take 8 (some 46) undef rfl rfl (by kernel_rfl) (by kernel_rfl) (by kernel_rfl) (fun _ _ _ h => h) (Or.inr ⟨by rfl, rfl⟩) hS1 ?_
        simp only [Act.put, List.setIfInBounds_toArray, List.set_cons_zero, List.set_cons_succ]
        refine held_take 9 (some 47) undef rfl rfl (by kernel_rfl) (by kernel_rfl) (by kernel_rfl) (fun _ _ _ h => h) (Or.inr ⟨by rfl, rfl⟩) hS1 ?_
        simp only [Act.put, List.setIfInBounds_toArray, List.set_cons_zero, List.set_cons_succ]
        refine held_take 11 (some 49) undef rfl rfl (by kernel_rfl) (by kernel_rfl) (by kernel_rfl) (fun _ _ _ h => h) (Or.inr ⟨by rfl, rfl⟩) hS1 ?_
        simp only [Act.put, List.setIfInBounds_toArray, List.set_cons_zero, List.set_cons_succ]
        refine held_take 10 (some 48) undef rfl rfl (by kernel_rfl) (by kernel_rfl) (by kernel_rfl) (fun _ _ _ h => h) (Or.inr ⟨by rfl, rfl⟩) hS1 ?_
        simp only [Act.put, List.setIfInBounds_toArray, List.set_cons_zero, List.set_cons_succ]
        refine held_take 12 (some 50) undef rfl rfl (by kernel_rfl) (by kernel_rfl) (by kernel_rfl) (fun _ _ _ h => h) (Or.inr ⟨by rfl, rfl⟩) hS1 ?_
        simp only [Act.put, List.setIfInBounds_toArray, List.set_cons_zero, List.set_cons_succ]
        refine held_take 13 (some 51) (.bool true) rfl rfl (by kernel_rfl) (by kernel_rfl) (by kernel_rfl) (fun _ _ _ h => h) (Or.inl ⟨by rfl, fun w' hw' => by go_simp⟩) hS1 ?_
        simp only [Act.put, List.setIfInBounds_toArray, List.set_cons_zero, List.set_cons_succ]
        refine held_take 14 (some 52) (.bool true) rfl rfl (by kernel_rfl) (by kernel_rfl) (by kernel_rfl) (fun _ _ _ h => h) (Or.inl ⟨by rfl, fun w' hw' => by go_simp⟩) hS1 ?_
        simp only [Act.put, List.setIfInBounds_toArray, List.set_cons_zero, List.set_cons_succ]
        refine held_take 15 (some 53) (.bool true) rfl rfl (by kernel_rfl) (by kernel_rfl) (by kernel_rfl) (fun _ _ _ h => h) (Or.inl ⟨by rfl, fun w' hw' => by go_simp⟩) hS1 ?_
        simp only [Act.put, List.setIfInBounds_toArray, List.set_cons_zero, List.set_cons_succ]
        refine held_take 16 (some 54) (.agg (Nm.tv (Nm.ownT a0)).toArray) rfl rfl (by kernel_rfl) (by kernel_rfl) (by kernel_rfl) (fun _ _ _ h => h) (yieldsIf_load_mid (by rfl) _ _ rfl b7 0 rfl (Nm.tv (Nm.ownT a0)) _ (fun w' h => h.2.1) Try.underlying28 rfl (Nm.iTab (Nm.ownT a0))) hS1 ?_
        simp only [Act.put, List.setIfInBounds_toArray, List.set_cons_zero, List.set_cons_succ]
        refine held_take 17 (some 55) (.agg (Nm.tv T).toArray) rfl rfl (by kernel_rfl) (by kernel_rfl) (by kernel_rfl) (fun _ _ _ h => h) (yieldsIf_load_mid (by rfl) _ _ rfl b5 0 rfl (Nm.tv T) _ (fun w' h => h.1) Try.underlying28 rfl (Nm.iTab T)) hS1 ?_
        simp only [Act.put, List.setIfInBounds_toArray, List.set_cons_zero, List.set_cons_succ]
        refine held_take 20 (some 58) (.agg (Nm.tv T).toArray) rfl rfl (by kernel_rfl) (by kernel_rfl) (by kernel_rfl) (fun _ _ _ h => h) (yieldsIf_load_mid (by rfl) _ _ rfl b5 0 rfl (Nm.tv T) _ (fun w' h => h.1) Try.underlying28 rfl (Nm.iTab T)) hS1 ?_
        simp only [Act.put, List.setIfInBounds_toArray, List.set_cons_zero, List.set_cons_succ]
        refine held_one 18 rfl (by kernel_rfl) (by rfl) (fun K hK => ?_)
        go_simp
        refine (Nm.through_c (Nm.ownT a0) T (Nm.own_ok a0) HT5.out.ok _).mono ?_
        rintro e w18 ⟨rfl, k18⟩
        go_wp2_with fail
        refine hK.out _ _ (Nm.r_keep2 k18 hS1) (fun hS18 => ?_)
        clear hK K hS1
        try simp only [Act.put, List.setIfInBounds_toArray, List.set_cons_zero, List.set_cons_succ]
        refine held_one 19 rfl (by kernel_rfl) (by rfl) (fun K hK => ?_)
        go_simp
        refine (Nm.Meant_c (Nm.thr (Nm.ownT a0) T) (Nm.thr_ok HT5.out.ok) _).mono ?_
        rintro e w19 ⟨B19, m19, d19, rfl, hs19, k19⟩
        go_wp2_with fail
        refine hK.out _ _ (Nm.r_keep2 k19 hS18) (fun hS19 => ?_)
        clear hK K hS18
        try simp only [Act.put, List.setIfInBounds_toArray, List.set_cons_zero, List.set_cons_succ]
        refine held_one 21 rfl (by kernel_rfl) (by rfl) (fun K hK => ?_)
        go_simp
        refine (Nm.Meant_c T HT5.out.ok _).mono ?_
        rintro e w21 ⟨B21, m21, d21, rfl, hs21, k21⟩
        go_wp2_with fail
        refine hK.out _ _ (Nm.r_keep2 k21 hS19) (fun hS21 => ?_)
        clear hK K hS19
        try simp only [Act.put, List.setIfInBounds_toArray, List.set_cons_zero, List.set_cons_succ]
        refine held_one 22 rfl (by kernel_rfl) (by rfl) (fun K hK => ?_)
        go_simp
        refine (Nm.within1_c _ _ _ _ _ _ _ _ _ _ _ (hs19.keep0 k21) hs21 (Nm.mn_thr (Nm.ownT a0) T)).mono ?_
        rintro e w22 ⟨rfl, k22⟩
        go_wp2_with fail
        refine hK.out _ _ (Nm.r_keep2 k22 hS21) (fun hS22 => ?_)
        clear hK K hS21
        try simp only [Act.put, List.setIfInBounds_toArray, List.set_cons_zero, List.set_cons_succ]
        refine held_take 23 (some 61) (.bool true) rfl rfl (by kernel_rfl) (by kernel_rfl) (by kernel_rfl) (fun _ _ _ h => h) (Or.inl ⟨by rfl, fun w' hw' => by go_simp⟩) hS22 ?_
        simp only [Act.put, List.setIfInBounds_toArray, List.set_cons_zero, List.set_cons_succ]
        refine held_take 24 (some 62) (.bool true) rfl rfl (by kernel_rfl) (by kernel_rfl) (by kernel_rfl) (fun _ _ _ h => h) (Or.inl ⟨by rfl, fun w' hw' => by go_simp⟩) hS22 ?_
        simp only [Act.put, List.setIfInBounds_toArray, List.set_cons_zero, List.set_cons_succ]
        refine held_one 25 rfl (by kernel_rfl) (by rfl) (fun K hK => ?_)
        go_simp
        refine (Nm.awake_c _).mono ?_
        rintro e w25 ⟨rfl, k25⟩
        go_wp2_with fail
        refine hK.out _ _ (Nm.r_keep2 k25 hS22) (fun hS25 => ?_)
        clear hK K hS22
        try simp only [Act.put, List.setIfInBounds_toArray, List.set_cons_zero, List.set_cons_succ]
        refine held_take 26 (some 64) (.bool true) rfl rfl (by kernel_rfl) (by kernel_rfl) (by kernel_rfl) (fun _ _ _ h => h) (Or.inl ⟨by rfl, fun w' hw' => by go_simp⟩) hS25 ?_
        simp only [Act.put, List.setIfInBounds_toArray, List.set_cons_zero, List.set_cons_succ]
        refine held_take 27 (some 4) (.bool true) rfl rfl (by kernel_rfl) (by kernel_rfl) (by kernel_rfl) (fun _ _ _ h => h) (Or.inl ⟨by rfl, fun w' hw' => by go_simp⟩) hS25 ?_
        simp only [Act.put, List.setIfInBounds_toArray, List.set_cons_zero, List.set_cons_succ]
        refine wpAnyH_done (by kernel_rfl) ?_ _
        refine NoPanic.normal ?_
        have HE := Nm.hid (HK.out.trans hS25.2.2)
        clear hS25
        go_wp2
        go_ret
        exact ⟨rfl, HE.out.below (Nat.le_refl _) (by simp)⟩
      | true =>
        have HST : Hid (wr.drew.rangeAt b5 0 (Nm.tv T) ∧ wr.drew.rangeAt b7 0 (Nm.tv (Nm.ownT a0)) ∧ But [] wr wr.drew) := Nm.r_keep2 (But.refl [] wr).drew ⟨HX5.out, HX7.out, But.refl [] wr⟩
        go_upto_region 13 with fail
        refine wp_region_noPanic ?_
        refine wp_region_held_drew (S := fun w' => w'.rangeAt b5 0 (Nm.tv T) ∧ w'.rangeAt b7 0 (Nm.tv (Nm.ownT a0)) ∧ But [] wr w') (by kernel_rfl) HST.out (fun hS0 => ?_)
        refine held_take 0 (some 38) (.agg (Nm.tv (Nm.ownT a0)).toArray) rfl rfl (by kernel_rfl) (by kernel_rfl) (by kernel_rfl) (fun _ _ _ h => h) (yieldsIf_load_mid (by rfl) _ _ rfl b7 0 rfl (Nm.tv (Nm.ownT a0)) _ (fun w' h => h.2.1) Try.underlying28 rfl (Nm.iTab (Nm.ownT a0))) hS0 ?_
        simp only [Act.put, List.setIfInBounds_toArray, List.set_cons_zero, List.set_cons_succ]
        refine held_take 2 (some 40) (.int .i64 kk) rfl rfl (by kernel_rfl) (by kernel_rfl) (by kernel_rfl) (fun _ _ _ h => h) (Or.inl ⟨by rfl, fun w' hw' => by go_simp⟩) hS0 ?_
        simp only [Act.put, List.setIfInBounds_toArray, List.set_cons_zero, List.set_cons_succ]
        refine held_one 1 rfl (by kernel_rfl) (by rfl) (fun K hK => ?_)
        go_simp
        refine (Nm.lenK_c (Nm.ownT a0) kk (Nm.own_ok a0) (Nm.own_len HKK.out hk5) _).mono ?_
        rintro e w1 ⟨rfl, k1⟩
        go_wp2_with fail
        refine hK.out _ _ (Nm.r_keep2 k1 hS0) (fun hS1 => ?_)
        clear hK K hS0
        try simp only [Act.put, List.setIfInBounds_toArray, List.set_cons_zero, List.set_cons_succ]
        refine held_take 3 (some 41) (.bool true) rfl rfl (by kernel_rfl) (by kernel_rfl) (by kernel_rfl) (fun _ _ _ h => h) (Or.inl ⟨by rfl, fun w' hw' => by go_simp⟩) hS1 ?_
        simp only [Act.put, List.setIfInBounds_toArray, List.set_cons_zero, List.set_cons_succ]
        refine held_take 4 (some 42) (.bool true) rfl rfl (by kernel_rfl) (by kernel_rfl) (by kernel_rfl) (fun _ _ _ h => h) (Or.inl ⟨by rfl, fun w' hw' => by go_simp⟩) hS1 ?_
        simp only [Act.put, List.setIfInBounds_toArray, List.set_cons_zero, List.set_cons_succ]
        refine held_take 5 (some 43) (.bool true) rfl rfl (by kernel_rfl) (by kernel_rfl) (by kernel_rfl) (fun _ _ _ h => h) (Or.inl ⟨by rfl, fun w' hw' => by go_simp⟩) hS1 ?_
        simp only [Act.put, List.setIfInBounds_toArray, List.set_cons_zero, List.set_cons_succ]
        refine held_take 6 (some 44) (.bool false) rfl rfl (by kernel_rfl) (by kernel_rfl) (by kernel_rfl) (fun _ _ _ h => h) (Or.inl ⟨by rfl, fun w' hw' => by go_simp⟩) hS1 ?_
        simp only [Act.put, List.setIfInBounds_toArray, List.set_cons_zero, List.set_cons_succ]
        refine held_take 7 (some 45) (.bool false) rfl rfl (by kernel_rfl) (by kernel_rfl) (by kernel_rfl) (fun _ _ _ h => h) (Or.inl ⟨by rfl, fun w' hw' => by go_simp⟩) hS1 ?_
        simp only [Act.put, List.setIfInBounds_toArray, List.set_cons_zero, List.set_cons_succ]
        refine held_take 8 (some 46) (.agg (Nm.tv T).toArray) rfl rfl (by kernel_rfl) (by kernel_rfl) (by kernel_rfl) (fun _ _ _ h => h) (yieldsIf_load_mid (by rfl) _ _ rfl b5 0 rfl (Nm.tv T) _ (fun w' h => h.1) Try.underlying28 rfl (Nm.iTab T)) hS1 ?_
        simp only [Act.put, List.setIfInBounds_toArray, List.set_cons_zero, List.set_cons_succ]
        refine held_take 9 (some 47) (.agg (Nm.tv (Nm.ownT a0)).toArray) rfl rfl (by kernel_rfl) (by kernel_rfl) (by kernel_rfl) (fun _ _ _ h => h) (yieldsIf_load_mid (by rfl) _ _ rfl b7 0 rfl (Nm.tv (Nm.ownT a0)) _ (fun w' h => h.2.1) Try.underlying28 rfl (Nm.iTab (Nm.ownT a0))) hS1 ?_
        simp only [Act.put, List.setIfInBounds_toArray, List.set_cons_zero, List.set_cons_succ]
        refine held_take 11 (some 49) (.agg (Nm.tv T).toArray) rfl rfl (by kernel_rfl) (by kernel_rfl) (by kernel_rfl) (fun _ _ _ h => h) (yieldsIf_load_mid (by rfl) _ _ rfl b5 0 rfl (Nm.tv T) _ (fun w' h => h.1) Try.underlying28 rfl (Nm.iTab T)) hS1 ?_
        simp only [Act.put, List.setIfInBounds_toArray, List.set_cons_zero, List.set_cons_succ]
        refine held_one 10 rfl (by kernel_rfl) (by rfl) (fun K hK => ?_)
        go_simp
        refine (Nm.through_c T (Nm.ownT a0) HT5.out.ok (Nm.own_ok a0) _).mono ?_
        rintro e w10 ⟨rfl, k10⟩
        go_wp2_with fail
        refine hK.out _ _ (Nm.r_keep2 k10 hS1) (fun hS10 => ?_)
        clear hK K hS1
        try simp only [Act.put, List.setIfInBounds_toArray, List.set_cons_zero, List.set_cons_succ]
        refine held_one 12 rfl (by kernel_rfl) (by rfl) (fun K hK => ?_)
        go_simp
        refine (Nm.same1_c (Nm.thr T (Nm.ownT a0)) T _ (Nm.thr_own HT5.out (Iff.mp HZ.out rfl) HKK.out)).mono ?_
        rintro e w12 ⟨rfl, k12⟩
        go_wp2_with fail
        refine hK.out _ _ (Nm.r_keep2 k12 hS10) (fun hS12 => ?_)
        clear hK K hS10
        try simp only [Act.put, List.setIfInBounds_toArray, List.set_cons_zero, List.set_cons_succ]
        refine held_take 13 (some 51) (.bool true) rfl rfl (by kernel_rfl) (by kernel_rfl) (by kernel_rfl) (fun _ _ _ h => h) (Or.inl ⟨by rfl, fun w' hw' => by go_simp⟩) hS12 ?_
        simp only [Act.put, List.setIfInBounds_toArray, List.set_cons_zero, List.set_cons_succ]
        refine held_take 14 (some 52) (.bool true) rfl rfl (by kernel_rfl) (by kernel_rfl) (by kernel_rfl) (fun _ _ _ h => h) (Or.inl ⟨by rfl, fun w' hw' => by go_simp⟩) hS12 ?_
        simp only [Act.put, List.setIfInBounds_toArray, List.set_cons_zero, List.set_cons_succ]
        refine held_take 15 (some 53) (.bool true) rfl rfl (by kernel_rfl) (by kernel_rfl) (by kernel_rfl) (fun _ _ _ h => h) (Or.inl ⟨by rfl, fun w' hw' => by go_simp⟩) hS12 ?_
        simp only [Act.put, List.setIfInBounds_toArray, List.set_cons_zero, List.set_cons_succ]
        refine held_take 16 (some 54) (.agg (Nm.tv (Nm.ownT a0)).toArray) rfl rfl (by kernel_rfl) (by kernel_rfl) (by kernel_rfl) (fun _ _ _ h => h) (yieldsIf_load_mid (by rfl) _ _ rfl b7 0 rfl (Nm.tv (Nm.ownT a0)) _ (fun w' h => h.2.1) Try.underlying28 rfl (Nm.iTab (Nm.ownT a0))) hS12 ?_
        simp only [Act.put, List.setIfInBounds_toArray, List.set_cons_zero, List.set_cons_succ]
        refine held_take 17 (some 55) (.agg (Nm.tv T).toArray) rfl rfl (by kernel_rfl) (by kernel_rfl) (by kernel_rfl) (fun _ _ _ h => h) (yieldsIf_load_mid (by rfl) _ _ rfl b5 0 rfl (Nm.tv T) _ (fun w' h => h.1) Try.underlying28 rfl (Nm.iTab T)) hS12 ?_
        simp only [Act.put, List.setIfInBounds_toArray, List.set_cons_zero, List.set_cons_succ]
        refine held_take 20 (some 58) (.agg (Nm.tv T).toArray) rfl rfl (by kernel_rfl) (by kernel_rfl) (by kernel_rfl) (fun _ _ _ h => h) (yieldsIf_load_mid (by rfl) _ _ rfl b5 0 rfl (Nm.tv T) _ (fun w' h => h.1) Try.underlying28 rfl (Nm.iTab T)) hS12 ?_
        simp only [Act.put, List.setIfInBounds_toArray, List.set_cons_zero, List.set_cons_succ]
        refine held_one 18 rfl (by kernel_rfl) (by rfl) (fun K hK => ?_)
        go_simp
        refine (Nm.through_c (Nm.ownT a0) T (Nm.own_ok a0) HT5.out.ok _).mono ?_
        rintro e w18 ⟨rfl, k18⟩
        go_wp2_with fail
        refine hK.out _ _ (Nm.r_keep2 k18 hS12) (fun hS18 => ?_)
        clear hK K hS12
        try simp only [Act.put, List.setIfInBounds_toArray, List.set_cons_zero, List.set_cons_succ]
        refine held_one 19 rfl (by kernel_rfl) (by rfl) (fun K hK => ?_)
        go_simp
        refine (Nm.Meant_c (Nm.thr (Nm.ownT a0) T) (Nm.thr_ok HT5.out.ok) _).mono ?_
        rintro e w19 ⟨B19, m19, d19, rfl, hs19, k19⟩
        go_wp2_with fail
        refine hK.out _ _ (Nm.r_keep2 k19 hS18) (fun hS19 => ?_)
        clear hK K hS18
        try simp only [Act.put, List.setIfInBounds_toArray, List.set_cons_zero, List.set_cons_succ]
        refine held_one 21 rfl (by kernel_rfl) (by rfl) (fun K hK => ?_)
        go_simp
        refine (Nm.Meant_c T HT5.out.ok _).mono ?_
        rintro e w21 ⟨B21, m21, d21, rfl, hs21, k21⟩
        go_wp2_with fail
        refine hK.out _ _ (Nm.r_keep2 k21 hS19) (fun hS21 => ?_)
        clear hK K hS19
        try simp only [Act.put, List.setIfInBounds_toArray, List.set_cons_zero, List.set_cons_succ]
        refine held_one 22 rfl (by kernel_rfl) (by rfl) (fun K hK => ?_)
        go_simp
        refine (Nm.within1_c _ _ _ _ _ _ _ _ _ _ _ (hs19.keep0 k21) hs21 (Nm.mn_thr (Nm.ownT a0) T)).mono ?_
        rintro e w22 ⟨rfl, k22⟩
        go_wp2_with fail
        refine hK.out _ _ (Nm.r_keep2 k22 hS21) (fun hS22 => ?_)
        clear hK K hS21
        try simp only [Act.put, List.setIfInBounds_toArray, List.set_cons_zero, List.set_cons_succ]
        refine held_take 23 (some 61) (.bool true) rfl rfl (by kernel_rfl) (by kernel_rfl) (by kernel_rfl) (fun _ _ _ h => h) (Or.inl ⟨by rfl, fun w' hw' => by go_simp⟩) hS22 ?_
        simp only [Act.put, List.setIfInBounds_toArray, List.set_cons_zero, List.set_cons_succ]
        refine held_take 24 (some 62) (.bool true) rfl rfl (by kernel_rfl) (by kernel_rfl) (by kernel_rfl) (fun _ _ _ h => h) (Or.inl ⟨by rfl, fun w' hw' => by go_simp⟩) hS22 ?_
        simp only [Act.put, List.setIfInBounds_toArray, List.set_cons_zero, List.set_cons_succ]
        refine held_one 25 rfl (by kernel_rfl) (by rfl) (fun K hK => ?_)
        go_simp
        refine (Nm.awake_c _).mono ?_
        rintro e w25 ⟨rfl, k25⟩
        go_wp2_with fail
        refine hK.out _ _ (Nm.r_keep2 k25 hS22) (fun hS25 => ?_)
        clear hK K hS22
        try simp only [Act.put, List.setIfInBounds_toArray, List.set_cons_zero, List.set_cons_succ]
        refine held_take 26 (some 64) (.bool true) rfl rfl (by kernel_rfl) (by kernel_rfl) (by kernel_rfl) (fun _ _ _ h => h) (Or.inl ⟨by rfl, fun w' hw' => by go_simp⟩) hS25 ?_
        simp only [Act.put, List.setIfInBounds_toArray, List.set_cons_zero, List.set_cons_succ]
        refine held_take 27 (some 4) (.bool true) rfl rfl (by kernel_rfl) (by kernel_rfl) (by kernel_rfl) (fun _ _ _ h => h) (Or.inl ⟨by rfl, fun w' hw' => by go_simp⟩) hS25 ?_
        simp only [Act.put, List.setIfInBounds_toArray, List.set_cons_zero, List.set_cons_succ]
        refine wpAnyH_done (by kernel_rfl) ?_ _
        refine NoPanic.normal ?_
        have HE := Nm.hid (HK.out.trans hS25.2.2)
        clear hS25
        go_wp2
        go_ret
        exact ⟨rfl, HE.out.below (Nat.le_refl _) (by simp)⟩

set_option maxRecDepth 100000 in
theorem lifted (os : Os) (started : os.Started) (H : Type) (enc : TypeId × Value → H) :
    ReturnsInHanded {} Try.checked os 6 .any (Rows.namesOwnSpec.pre6 enc Try.prog Try.f6 Rows.namesOwnRow.domain false) (Rows.namesOwnSpec.post enc Try.prog Try.f6 false true false false) := by
  refine returnsInHanded_of_change (C := Try.checked) own started (by kernel_rfl) Try.func6
    (ChangeSpec.witness6 (enc := enc) (C := Try.checked) false ⟨#[], #[.int .i64 0, .slice none 0 0], []⟩ 8 (by kernel_rfl) (by kernel_rfl) (by kernel_rfl) (by kernel_rfl)) ?_
  intro W base args ds gs before hval0 hW hcnd _
  have hval : ∀ (j : Nat) t v, Try.f6.params[j]? = some t → args[j]? = some v → Value.okWide Try.prog W .any base t v := hval0
  have hW' := hW
  obtain ⟨p, q, hA0, hV, rfl, hfz, hnd⟩ := hW
  have hA : DataW.TrodAll enc Try.prog W 0 (fun _ => true) true Try.f6.params.toList args.toList ds p := hA0
  rw [Try.params6] at hA hval
  obtain ⟨v0, vs0, d0, ds0, p0, q0, hargs, rfl, rfl, h0, t0⟩ := trodAll_cons hA
  obtain ⟨v1, vs1, d1, ds1, p1, q1, rfl, rfl, rfl, h1, t1⟩ := trodAll_cons t0
  obtain ⟨rfl, rfl, rfl⟩ := trodAll_nil t1
  obtain rfl : args = #[v0, v1] := by cases args; simp_all
  obtain ⟨rfl, rfl⟩ := trodVars_none hV
  have k0 := h0
  have lt0 : ∀ x ∈ p0, x.block < W.heap.size := by obtain ⟨m, hm⟩ := k0; exact DataW.trod_lt m _ _ _ hm
  have k1 := h1
  have lt1 : ∀ x ∈ p1, x.block < W.heap.size := by obtain ⟨m, hm⟩ := k1; exact DataW.trod_lt m _ _ _ hm
  obtain ⟨a0, rfl, rfl, rfl, w0⟩ := open_int Try.underlying3 (hval 0 3 v0 rfl rfl) h0
  obtain ⟨A1, len1, cap1, rfl⟩ := okWide_slice Try.underlying22 (hval 1 22 v1 rfl rfl)
  have r1 := rowOf_open Try.underlying22 flatDeed (by decide) h1
  clear hA0 hval0
  refine (walk W a0 w0 A1 len1 cap1 r1).mono fun e W' ⟨he, hg⟩ => ?_
  subst he
  exact ⟨_, rfl, _, _, _, [], _, [], hW', (trodAll_cons_mk (shut_bool Try.underlying4 _) trodAll_mk0), (trodAll_cons_mk (Below.trod laidOut (by kernel_rfl) (of_decide_eq_true (by kernel_rfl)) k0 hg lt0) (trodAll_cons_mk (Below.trod laidOut (by kernel_rfl) (of_decide_eq_true (by kernel_rfl)) k1 hg lt1) trodAll_mk0)), rfl, hg.frame _, (fun h => by cases h)⟩

theorem over : Rows.namesOwnRow.holds Try.pinned (OpenSpec.ofChange Rows.namesOwnSpec) :=
  OpenClaim.holds_of_wide 6 Try.f6 rfl rfl rfl rfl rfl rfl rfl ⟨rfl, rfl, rfl, rfl, rfl⟩ rfl rfl rfl rfl rfl (by kernel_rfl) Try.func6 (by kernel_rfl)
    (of_decide_eq_true (by kernel_rfl)) (by unfold Func.isWrapper; first | (rw [if_pos (by decide +kernel)]; kernel_rfl) | (rw [if_neg (by decide +kernel)]; exact ⟨rfl, rfl⟩))
    (fun os started H enc _ => lifted os started H enc)
end Go.Proofs.Ytfjkbfcfceckgaa.namesOwn
namespace Go.Proofs.Ytfjkbfcfceckgaa
/-- The statement, by its short name. -/
theorem namesOwn_holds : Rows.NamesOwnSaid := namesOwn.over
#print axioms namesOwn_holds
end Go.Proofs.Ytfjkbfcfceckgaa
