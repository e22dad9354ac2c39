/-
  Layer 11 (names): the contract of the statements' Same, over the translated program.
-/
import Derived.Test.YtfjkbfcfceckgaaNmRef2
import Derived.Test.YtfjkbfcfceckgaaSnInts
namespace Go.Proofs.Ytfjkbfcfceckgaa.Nm
open Go.ChangeShapes Go.WideShapes Go.ChangeAt Go.RowKit
open Wh Sn
set_option linter.unusedVariables false
set_option maxRecDepth 20000

set_option maxHeartbeats 4000000 in
theorem lsame_c (A : Option Addr) (n c lo : Nat) (T : Tf) (hT : Tn T n) (w : World) (h : Dl w lo A n T) :
    Calls Try.prog 8 #[.agg (tv T).toArray, .slice A n c] w fun e w' => e = .returned (.bool true) ∧ But [] w w' := by
  obtain ⟨b, hb⟩ : ∃ b, b = w.heap.size := ⟨_, rfl⟩
  obtain ⟨w0, hw0⟩ : ∃ w0, w0 = w.alloc (.cells (tv T).toArray 28) := ⟨_, rfl⟩
  have HB0 : Hid (But [] w w0) := by show But _ _ _; rw [hw0]; exact (But.refl [] w).alloc _
  have hr := new_range w (tv T) 28
  rw [← hw0, ← hb] at hr
  have HR0 := hid hr
  have HD := hid (h.keep0 HB0.out)
  have hn := hT.le
  have HT := hid hT
  have HE := hid hT.nums_eq
  clear hr hT h
  go_enter Try.func8, Try.ntmps8
  go_upto_region 1 with fail
  rw [← hw0, ← hb]
  clear hw0 hb
  go_wp2_with (first
    | (refine wpList_load_mid rfl 28 _ rfl b 0 rfl (tv T) _ HR0.out Try.underlying28 rfl (iTab _) ?_))
  refine (names_c T HT.out.ok _).mono ?_
  rintro e w1 ⟨A1, m, c1, rfl, l1, r1, k1, -⟩
  rw [HE.out] at l1 r1
  have HL1 := hid l1
  have HI1 := hid r1
  have K1 := hid k1
  clear l1 r1 k1
  go_wp2_with fail
  refine (rnames_c A n c lo T _ (HD.out.keep0 K1.out) hn).mono ?_
  rintro e w2 ⟨A2, m2, c2, rfl, l2, r2, k2, -⟩
  obtain rfl : m2 = m := by have := HL1.out; omega
  have HI2 := hid (Li.of r2)
  have HI1' := hid ((Li.of HI1.out).keep k2)
  have K2 := hid (K1.out.trans k2)
  have hm : m2 ≤ 512 := by have := HL1.out; have := nums_le (has T) n; omega
  clear l2 r2 k2 HI1
  go_wp2_with fail
  refine (ints_c A1 A2 m2 c1 c2 (nums (has T) n) _ HL1.out (by omega) HI1'.out HI2.out).mono ?_
  rintro e w3 ⟨rfl, k3⟩
  have K3 := hid (K2.out.trans k3)
  have HR3 := hid (range_keep HR0.out K3.out (by simp))
  clear k3
  go_wp2_with (first
    | (refine wpList_load_mid_g 28 _ rfl b 0 rfl (tv T) _ HR3.out Try.underlying28 rfl (iTab _) rfl ?_))
  refine (len_c T HT.out.ok _).mono ?_
  rintro e w4 ⟨rfl, k4⟩
  rw [HE.out, HL1.out]
  have K4 := hid (K3.out.trans k4)
  clear k4
  go_wp2_with fail
  refine (rnames_c A n c lo T _ (HD.out.keep0 K4.out) hn).mono ?_
  rintro e w5 ⟨A5, m5, c5, rfl, l5, r5, k5, -⟩
  obtain rfl : m5 = m2 := by have := HL1.out; omega
  have K5 := hid (K4.out.trans k5)
  clear l5 r5 k5
  go_wp2
  go_loopg [5] (n + 1) (fun g0 i wx => ∃ j : Nat, j + g0 = n + 1 ∧ j ≤ n ∧ i = .int .i64 j ∧ Hid (But [] w0 wx))
  case atStart => exact ⟨0, by omega, by omega, rfl, K5.out⟩
  case round =>
    obtain ⟨j, hjg, hj, rfl, HB⟩ := hrel
    by_cases hlt : j < n
    · have hjI : (j : Int) < n := by omega
      have HRj := hid (range_keep HR0.out HB.out (by simp))
      have eg : getT T j = T j := by unfold getT; rw [if_pos (by omega)]; rfl
      go_wp2_with (first
        | (refine wpList_load_mid rfl 28 _ rfl b 0 rfl (tv T) _ HRj.out Try.underlying28 rfl (iTab _) ?_))
      refine (get_c T HT.out.ok j _).mono ?_
      rintro e w6 ⟨rfl, k6⟩
      rw [eg]
      have K6 := hid (HB.out.trans k6)
      obtain ⟨g, off, rfl, h1, h2, hcs⟩ := (HD.out.keep0 K6.out).at_ hlt
      have hc := hcs j hlt
      clear eg k6 h1 h2 hcs
      by_cases hx : 0 ≤ T j
      · rw [Pr_yes hx]
        generalize T j = x at *
        go_wp2
        go_roundg (n + 1 - (j + 1))
        case measure => omega
        case rel => exact ⟨j + 1, by omega, by omega, by go_num, K6.out⟩
      · have hx' : T j < 0 := by omega
        rw [Pr_no hx']
        generalize T j = x at *
        have h10 : decide (0 ≤ x) = false := decide_eq_false hx
        clear hx
        go_wp2
        go_roundg (n + 1 - (j + 1))
        case measure => omega
        case rel => exact ⟨j + 1, by omega, by omega, by go_num, K6.out⟩
    · obtain rfl : j = n := by omega
      go_wp2
      go_ret
      exact ⟨rfl, HB0.out.trans HB.out⟩
end Go.Proofs.Ytfjkbfcfceckgaa.Nm
