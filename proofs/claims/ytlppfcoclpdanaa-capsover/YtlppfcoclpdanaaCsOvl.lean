/-
  Layer 12 (caps): the contract of the statement about the caps that have a number, over the translated program.
-/
import Derived.Test.YtlppfcoclpdanaaCsOvm
import Derived.Test.YtlppfcoclpdanaaCsGone
import Derived.Test.YtlppfcoclpdanaaCsNew
import Derived.Test.YtlppfcoclpdanaaCsRefN
import Derived.Test.YtlppfcoclpdanaaCsDoes
import Derived.Test.YtlppfcoclpdanaaCsAwake
import Derived.Test.YtlppfcoclpdanaaFloat
import Derived.Test.YtlppfcoclpdanaaMaskMath
namespace Go.Proofs.Ytlppfcoclpdanaa.Cs
open Go.ChangeShapes Go.WideShapes Go.ChangeAt Go.RowKit
open Wh Sn
set_option linter.unusedVariables false
set_option maxRecDepth 20000

/-- The first cap's handle, in its box. -/
def Fst (Bc : Nat) (T : Tr) (wx : World) : Prop := (T 0).gen = 1 ∧ wx.cell? ⟨Bc, 0, none⟩ = some (.int .i64 0) ∧ wx.cell? ⟨Bc, 1, none⟩ = some (.int .u64 1)
theorem Fst.keep {l : List Nat} {Bc : Nat} {T : Tr} {wx wy : World} (h : Fst Bc T wx) (k : But l wx wy) (hb : Bc ∉ l) : Fst Bc T wy := ⟨h.1, cell_keep h.2.1 k hb, cell_keep h.2.2 k hb⟩
set_option maxHeartbeats 8000000 in
theorem overs_c (A0 : Option Addr) (len0 cap0 : Nat) (x : Int) (w : World) (hx : (Lit.int .i64 x).wf = true) (r0 : RowOf ks_flatDeed w A0 len0 cap0) :
    Calls Try.prog 5 #[.slice A0 len0 cap0, .int .i64 x] w fun e w' => e = .returned (.bool true) ∧ But [] w w' := by
  obtain ⟨hlc, hcm, hrow⟩ := r0
  have HR : Hid (len0 = 0 ∨ ∃ b off, A0 = some ⟨b, off, none⟩ ∧ b < w.heap.size ∧ ∀ i, i < len0 → ∃ vs, w.rangeAt b (off + i * 5) vs ∧ Fits ks_flatDeed vs) := hrow
  unfold maxLen at hcm
  clear hrow
  go_enter Try.func5, Try.ntmps5
  go_wp2_with fail
  refine (Sn.of_c 0 40 w).mono ?_
  rintro e w1 ⟨A1, n1, c1, rfl, hs1, k1⟩
  have HS1 := hid hs1
  have HK1 := hid k1
  clear hs1 k1
  go_wp2_with fail
  refine (New_c A1 n1 c1 _ _ w1 HS1.out).mono ?_
  rintro e w2 ⟨bt, rfl, hbt, ht2, k2⟩
  have HBT : Hid (w.heap.size ≤ bt) := Nat.le_trans HK1.out.size hbt
  have HT2 : Hid (TrA w2 bt [bt] (T0 (one 0 40)) 1) := ht2
  have HK2 := hid (HK1.out.trans k2)
  obtain ⟨Bc, hBc⟩ : ∃ Bc, Bc = w2.heap.size := ⟨_, rfl⟩
  have hb := new_range w2 [.int .i64 0, .int .u64 1] 26
  change (w2.alloc (.cells #[.int .i64 0, .int .u64 1] 26)).rangeAt _ _ _ at hb
  rw [← hBc] at hb
  have HC0 := hid (range_cells hb 0 _ rfl)
  have HC1 := hid (range_cells hb 1 _ rfl)
  have HK3 : Hid (But [] w2 (w2.alloc (.cells #[.int .i64 0, .int .u64 1] 26))) := (But.refl [] w2).alloc _
  have HBC : Hid (bt < Bc ∧ w.heap.size ≤ Bc) := by have := HT2.out.low bt (by simp); show _ ∧ _; have := HBT.out; omega
  clear hbt ht2 k2 hb
  go_upto_region 2 with fail
  rw [← hBc]
  have HT3 := hid (HT2.out.keep0 HK3.out)
  have HK3' := hid (HK2.out.trans HK3.out)
  clear hBc
  generalize w2.alloc (.cells #[.int .i64 0, .int .u64 1] 26) = w3 at *
  clear HT2 HK2 HK3 HS1 HK1
  go_wp2_with fail
  refine (Sn.rof_c 0 40 w3).mono ?_
  rintro e w4 ⟨rfl, k4⟩
  have HK4 := hid k4
  clear k4
  go_wp2_with fail
  refine (rNew_c _ w4).mono ?_
  rintro e w5 ⟨bx, bl, rfl, hbx, hbl, hrf, k5⟩
  have HL0 : Hid (Lw w bt bx bl [] (T0 (one 0 40)) 1 0 w5) :=
    ⟨Bo.new HT3.out (HK4.out.trans k5) (Nat.le_trans HK4.out.size hbx) (Nat.le_trans HK4.out.size hbl) hrf (new_wf (one_lim _ _)), Nat.le_refl _, (HK3'.out.trans HK4.out).trans k5, HBT.out, by have := HK3'.out.size; have := HK4.out.size; omega, by have := HK3'.out.size; have := HK4.out.size; omega⟩
  have HF0 : Hid (Fst Bc (T0 (one 0 40)) w5) := ⟨by show (updN _ _ _ 0).gen = 1; rw [updN_same], cell_keep HC0.out (HK4.out.trans k5) (by simp), cell_keep HC1.out (HK4.out.trans k5) (by simp)⟩
  have HBN : Hid (Bc ∉ [bt, bx, bl] ∧ w.heap.size ≤ bt ∧ Bc ≠ bt) := by
    have h1 := HBC.out
    have h4 := HBT.out
    have h2 : Bc < w3.heap.size := lt_of_cell HC0.out
    have h3 := HK4.out.size
    show _ ∧ _
    simp
    omega
  clear hbx hbl hrf k5 HT3 HK4 HK3' HBT HC0 HC1 HBC
  go_wp2
  go_loopg [8] 30 (fun g0 iv wx => ∃ (i : Nat) (T : Tr) (m : Nat), i + g0 = 30 ∧ i ≤ len0 ∧ iv = .int .i64 i ∧ Hid (Lw w bt bx bl [] T m i wx) ∧ Hid (Fst Bc T wx))
  case atStart => exact ⟨0, _, _, by omega, Nat.zero_le _, rfl, HL0.out, HF0.out⟩
  case round =>
  obtain ⟨i, T, m, hig, hil, rfl, HS, HF⟩ := hrel
  clear HL0 HF0
  rename World => wa
  obtain ⟨z, hz⟩ : ∃ z : Bool, z = decide (i < len0 ∧ i < 30) := ⟨_, rfl⟩
  have HZ := hid hz
  clear hz
  go_upto_region 4 with fail
  go_cut [33] from 26 to 32 (fun s33 wx => s33 = .bool z ∧ wx = wa)
  case first =>
    by_cases hlt : i < len0
    · have hilt : decide ((i : Int) < (len0 : Int)) = true := decide_eq_true (by omega)
      by_cases h30 : i < 30
      · have hi30 : decide ((i : Int) < 30) = true := decide_eq_true (by omega)
        go_wp2_with fail
        go_meet
        exact ⟨by rw [HZ.out, decide_eq_true ⟨hlt, h30⟩], rfl⟩
      · have hi30 : decide ((i : Int) < 30) = false := decide_eq_false (by omega)
        go_wp2_with fail
        go_meet
        exact ⟨by rw [HZ.out, decide_eq_false (fun h => h30 h.2)], rfl⟩
    · have hilt : decide ((i : Int) < (len0 : Int)) = false := decide_eq_false (by omega)
      go_wp2_with fail
      go_meet
      exact ⟨by rw [HZ.out, decide_eq_false (fun h => hlt h.1)], rfl⟩
  case rest =>
  obtain ⟨rfl, hwa⟩ := hcut
  rw [hwa]
  clear hwa
  cases z with
  | true =>
    obtain ⟨hlt, h30⟩ := of_decide_eq_true HZ.out.symm
    obtain ⟨bA, off, rfl, hbl, hall⟩ : ∃ bA off, A0 = some ⟨bA, off, none⟩ ∧ bA < w.heap.size ∧ ∀ i, i < len0 → ∃ vs, w.rangeAt bA (off + i * 5) vs ∧ Fits ks_flatDeed vs := by
      rcases HR.out with h | h
      · omega
      · exact h
    obtain ⟨vs, hr, hfit⟩ := hall i hlt
    obtain ⟨K, at_, F, To, G, rfl⟩ := deed_of hfit
    have HRE := hid (range_below hr HS.out.but)
    clear hall hr hfit
    have hilt : (i : Int) < (len0 : Int) := by omega
    go_wp2_with (first
      | (refine wpList_load_mid rfl 40 _ rfl bA (off + i * 5) rfl [.int .i64 K, .int .i64 at_, .int .i64 F, .int .i64 To, .int .u64 G] _ HRE.out Try.underlying40 rfl infoDeed ?_)
      | fail)
    refine (does_c bt bx bl m T K at_ F To G wa HS.out.bo (by have := HS.out.le; omega)).mono ?_
    rintro e w6 ⟨rfl, T', m', hb6, hs6, k6⟩
    have HS6 := hid (HS.out.step hb6 hs6.1 k6)
    have HF6 : Hid (Fst Bc T' w6) := ⟨hs6.2.trans HF.out.1, (HF.out.keep k6 HBN.out.1).2⟩
    clear hb6 hs6 k6
    go_wp2
    go_roundg (30 - (i + 1))
    case measure => omega
    case rel => exact ⟨i + 1, T', m', by omega, by omega, by go_num, HS6.out, HF6.out⟩
  | false =>
    clear HZ hig hil
    obtain ⟨f, hf⟩ := HS.out.bo.tr
    have HTF := hid hf
    have HWF := hid HS.out.bo.wf
    clear hf
    go_wp2_with fail
    refine (Over_c bt m _ T f x wa HTF.out HWF.out).mono ?_
    rintro e w7 ⟨L, Ao, no, co, rfl, hq7, k7, hov, hdn⟩
    have HOV := hid hov
    have HQ7 := hid hq7
    have hnl : no = L.length := by have := hq7.1; rw [kc_len] at this; omega
    have HCT : Hid ((nums (ovP T x) 64).length = no) := by show _ = _; rw [hnl]; exact ov_count HWF.out hov hdn
    have hn64 : no ≤ 64 := by rw [hnl]; exact hov.len HWF.out
    have HNL := hid hnl
    have HK7 := hid k7
    have HF7 := hid (HF.out.keep k7 (by simp))
    have HRF7 := hid (HS.out.bo.rf.keep0 k7)
    clear hq7 k7 hov hdn hnl HF
    go_wp2
    go_loopg [10, 11] 65 (fun g1 nv iv wy => ∃ k : Nat, k + g1 = 65 ∧ k ≤ 64 ∧ nv = .int .i64 ((nums (ovP T x) k).length : Nat) ∧ iv = .int .i64 k ∧ Hid (But [] w7 wy))
    case atStart => exact ⟨0, by omega, by omega, rfl, rfl, But.refl _ _⟩
    case round =>
    obtain ⟨k, hkg, hk, rfl, rfl, HB⟩ := hrel
    rename World => w8
    by_cases hkl : k < 64
    case pos =>
      have hkI : (k : Int) < 64 := by omega
      have HRF := hid (HRF7.out.keep0 HB.out)
      have hc0 := HRF.out.c0
      have hcg := HRF.out.g hkl
      have hsu := nums_succ (ovP T x) k
      have hle := nums_le (ovP T x) k
      obtain ⟨v, hv⟩ : ∃ v, ovP T x k = v := ⟨_, rfl⟩
      rw [hv] at hsu
      have HV := hid hv
      have HSU := hid hsu
      clear hv hsu
      go_upto_region 12 with fail
      go_cut [79] from 50 to 78 (fun s79 wx => s79 = .bool v ∧ wx = w8)
      case first =>
        by_cases hg : (T k).gen = 0
        · have hv : Hid (v = false) := by show _ = _; rw [← HV.out]; unfold ovP; rw [decide_eq_false (by omega)]; rfl
          rw [hg] at hcg
          go_wp2_with fail
          go_meet
          exact ⟨by rw [hv.out], rfl⟩
        · have hd1 : decide (0 < (T k).gen) = true := decide_eq_true (by omega)
          have hd2 : decide ((0 : Int) < ((T k).gen : Int)) = true := decide_eq_true (by omega)
          have HV2 : Hid (v = hasB (T k).st x) := by show _ = _; rw [← HV.out]; unfold ovP; rw [hd1, Bool.true_and]
          have HRS := hid (HRF.out.s hkl)
          generalize (T k).gen = gg at *
          by_cases h0 : x < 0
          · have hv : Hid (v = false) := by show _ = _; rw [HV2.out, has_lo h0]
            have hd3 : decide (0 ≤ x) = false := decide_eq_false (by omega)
            go_wp2_with fail
            go_meet
            exact ⟨by rw [hv.out], rfl⟩
          · have hd3 : decide (0 ≤ x) = true := decide_eq_true (by omega)
            by_cases h1 : x < 1024
            · obtain ⟨M, rfl⟩ : ∃ M : Nat, x = M := ⟨x.toNat, by omega⟩
              have hM : M < 1024 := by omega
              have hd4 : decide ((M : Int) < 1024) = true := decide_eq_true h1
              have hv : Hid (v = (T k).st M) := by show _ = _; rw [HV2.out, has_mid hM]
              have hand := and1023 (M : Int)
              rw [show (M : Int) % 1024 = (M : Int) by omega] at hand
              have hcs := range_cells HRS.out M _ (bv_get _ _ hM)
              generalize (T k).st M = bb at *
              go_wp2_with fail
              go_meet
              exact ⟨by rw [hv.out], rfl⟩
            · have hv : Hid (v = false) := by show _ = _; rw [HV2.out, has_hi (by omega)]
              have hd4 : decide (x < 1024) = false := decide_eq_false h1
              go_wp2_with fail
              go_meet
              exact ⟨by rw [hv.out], rfl⟩
      case rest =>
      obtain ⟨rfl, hw8⟩ := hcut
      rw [hw8]
      clear hw8 hc0 hcg
      cases v with
      | true =>
        have HN : Hid ((nums (ovP T x) (k + 1)).length = (nums (ovP T x) k).length + 1) := by show _ = _; rw [HSU.out]; simp
        generalize (nums (ovP T x) k).length = u at *
        go_wp2
        go_roundg (65 - (k + 1))
        case measure => omega
        case rel => exact ⟨k + 1, by omega, by omega, by rw [HN.out]; go_num, by go_num, HB.out⟩
      | false =>
        have HN : Hid ((nums (ovP T x) (k + 1)).length = (nums (ovP T x) k).length) := by show _ = _; rw [HSU.out]; simp
        generalize (nums (ovP T x) k).length = u at *
        go_wp2
        go_roundg (65 - (k + 1))
        case measure => omega
        case rel => exact ⟨k + 1, by omega, by omega, by rw [HN.out], by go_num, HB.out⟩
    case neg =>
    obtain rfl : k = 64 := by omega
    rw [HCT.out]
    have HK8 := hid (HK7.out.trans HB.out)
    have HQ8 := hid (HQ7.out.keep0 HB.out)
    have HF8 := hid (HF7.out.keep HB.out (by simp))
    have HTF8 := hid (HTF.out.keep0 HK8.out)
    have HKW := hid (HS.out.but.trans HK8.out)
    clear HRF7 HB HQ7 HF7 HK7 HTF HS
    go_wp2
    go_loopg [12] (no + 1) (fun g2 iv wy => ∃ j : Nat, j + g2 = no + 1 ∧ j ≤ no ∧ iv = .int .i64 j ∧ Hid (But [] w8 wy))
    case atStart => exact ⟨0, by omega, by omega, rfl, But.refl _ _⟩
    case round =>
    obtain ⟨j, hjg, hj, rfl, HB⟩ := hrel
    rename World => w9
    by_cases hjl : j < no
    case pos =>
      have hjI : (j : Int) < (no : Int) := by omega
      obtain ⟨go_, oo, rfl, hd0, hd1⟩ := caps_at (HQ8.out.keep0 HB.out) hjl
      obtain ⟨hib, hhb, hpar⟩ := ov_at HWF.out HOV.out (j := j) (by have := HNL.out; omega)
      have HIB := hid hib
      have HHB := hid hhb
      obtain ⟨p, hp⟩ : ∃ p, L.getD j 0 = p := ⟨_, rfl⟩
      rw [hp] at hd0 hd1 HIB HHB hpar
      have HPR := hid hpar
      have HD : Hid (∀ wy, But [] w9 wy → wy.cell? ⟨go_, oo + j * 2, none⟩ = some (.int .i64 (p : Nat)) ∧ wy.cell? ⟨go_, oo + j * 2 + 1, none⟩ = some (.int .u64 ((T p).gen : Nat))) := fun wy hy => ⟨cell_keep hd0 hy (by simp), cell_keep (show w9.cell? ⟨go_, oo + j * 2 + 1, none⟩ = _ from hd1) hy (by simp)⟩
      have HW9 := hid (HTF8.out.keep0 HB.out)
      have HPREV : Hid (∀ i, j = i + 1 → ∀ wy, But [] w9 wy → wy.cell? ⟨go_, oo + i * 2, none⟩ = some (.int .i64 (L.getD i 0 : Nat)) ∧ wy.cell? ⟨go_, oo + i * 2 + 1, none⟩ = some (.int .u64 ((T (L.getD i 0)).gen : Nat))) := by
        show ∀ i, _ → _
        intro i hi wy hy
        obtain ⟨g', o', e, h1, h2⟩ := caps_at (HQ8.out.keep0 (HB.out.trans hy)) (j := i) (by omega)
        injection e with e
        injection e with e1 e2 _
        subst e1; subst e2
        exact ⟨h1, h2⟩
      clear hib hhb hpar hp hd0 hd1
      obtain ⟨gg, hgg⟩ : ∃ gg, (T p).gen = gg := ⟨_, rfl⟩
      rw [hgg] at HIB HPR HD
      have HGG := hid hgg
      clear hgg
      obtain ⟨pa, pg, ok, hPV, hok⟩ : ∃ (pa : Int) (pg : Nat) (ok : Bool), ParV T p gg = .tuple #[.agg #[.int .i64 pa, .int .u64 pg], .bool ok] ∧ ((ok = false ∧ j = 0) ∨ (ok = true ∧ ∃ i, j = i + 1 ∧ pa = (L.getD i 0 : Nat) ∧ pg = (T (L.getD i 0)).gen)) := by
        rcases HPR.out with ⟨h1, h2⟩ | ⟨i, h1, h2⟩
        · exact ⟨0, 0, false, h2, .inl ⟨rfl, h1⟩⟩
        · exact ⟨_, _, true, h2, .inr ⟨rfl, i, h1, rfl, rfl⟩⟩
      have HOK := hid hok
      clear hok HPR
      obtain ⟨hd0, hd1⟩ := HD.out w9 (But.refl _ _)
      go_wp2_with fail
      refine (Parent_c bt m _ T f p gg w9 HW9.out HWF.out).mono ?_
      rintro e w13 ⟨rfl, k13⟩
      rw [hPV]
      obtain ⟨q13, hq13⟩ : ∃ q, q = w13.heap.size := ⟨_, rfl⟩
      have hb13 := new_range w13 [.int .i64 pa, .int .u64 pg] 26
      change (w13.alloc (.cells #[.int .i64 pa, .int .u64 pg] 26)).rangeAt _ _ _ at hb13
      rw [← hq13] at hb13
      have HP0 := hid (range_cells hb13 0 _ rfl)
      have HP1 := hid (range_cells hb13 1 _ rfl)
      have HK14 : Hid (But [] w9 (w13.alloc (.cells #[.int .i64 pa, .int .u64 pg] 26))) := k13.alloc _
      clear k13 hPV hd0 hd1 hb13
      go_upto_region 20 with fail
      rw [← hq13]
      clear hq13
      generalize w13.alloc (.cells #[.int .i64 pa, .int .u64 pg] 26) = w14 at *
      obtain ⟨hd0, hd1⟩ := HD.out w14 HK14.out
      go_wp2_with fail
      refine (Set_c bt m _ T f p gg w14 (HW9.out.keep0 HK14.out)).mono ?_
      rintro e w15 ⟨A15, n15, c15, rfl, hs15, -, k15⟩
      rw [HIB.out]
      rw [setS_yes HIB.out] at hs15
      obtain ⟨q15, hq15⟩ : ∃ q, q = w15.heap.size := ⟨_, rfl⟩
      have hb15 := new_range w15 [.slice A15 n15 c15] 31
      change (w15.alloc (.cells #[.slice A15 n15 c15] 31)).rangeAt _ _ _ at hb15
      rw [← hq15] at hb15
      have HB15 := hid (range_cells hb15 0 _ rfl)
      have HS15 := hid (hs15.keep0 ((But.refl [] w15).alloc (.cells #[.slice A15 n15 c15] 31)))
      have HK15 : Hid (But [] w14 (w15.alloc (.cells #[.slice A15 n15 c15] 31))) := k15.alloc _
      clear k15 hs15 hd0 hd1 hb15
      go_upto_region 21 with fail
      rw [← hq15]
      clear hq15
      generalize w15.alloc (.cells #[.slice A15 n15 c15] 31) = w16 at *
      have HK16 := hid (HB.out.trans (HK14.out.trans HK15.out))
      have HK916 := hid (HK14.out.trans HK15.out)
      have HP0 := hid (cell_keep HP0.out HK15.out (by simp))
      have HP1 := hid (cell_keep HP1.out HK15.out (by simp))
      have HPREV := hid (fun i hi => HPREV.out i hi w16 HK916.out)
      clear HD HK14 HK15 HK916
      go_cut [135] from 110 to 134 (fun s135 wx => s135 = .bool false ∧ But [] w16 wx)
      case first =>
        rcases HOK.out with ⟨rfl, hj0⟩ | ⟨rfl, i, hi, hpa, hpg⟩
        · have hgt : decide ((0 : Int) < (j : Int)) = false := decide_eq_false (by omega)
          have HJ := hid hj0
          clear hjI hj0
          refine wp_region_noPanic ?_
          refine wp_region_held_drew (S := fun w' => But [] w16 w') (by kernel_rfl) (But.refl _ _).drew (fun hS0 => ?_)
          generalize w16.drew = wd at *
          refine held_take 0 (some 110) (.bool true) rfl rfl (by kernel_rfl) (by kernel_rfl) (by kernel_rfl) (fun _ _ _ h => h) (Or.inl ⟨by rfl, fun w' hw' => by go_simp⟩) hS0 ?_
          simp only [Act.put, List.setIfInBounds_toArray, List.set_cons_zero, List.set_cons_succ]
          refine held_take 1 (some 111) (.bool false) rfl rfl (by kernel_rfl) (by kernel_rfl) (by kernel_rfl) (fun _ _ _ h => h) (Or.inl ⟨by rfl, fun w' hw' => by go_simp⟩) hS0 ?_
          simp only [Act.put, List.setIfInBounds_toArray, List.set_cons_zero, List.set_cons_succ]
          refine held_take 2 (some 112) (.bool false) rfl rfl (by kernel_rfl) (by kernel_rfl) (by kernel_rfl) (fun _ _ _ h => h) (Or.inl ⟨by rfl, fun w' hw' => by go_simp⟩) hS0 ?_
          simp only [Act.put, List.setIfInBounds_toArray, List.set_cons_zero, List.set_cons_succ]
          refine held_take 3 (some 113) (.agg #[.slice A15 n15 c15]) rfl rfl (by kernel_rfl) (by kernel_rfl) (by kernel_rfl) (fun _ _ _ h => h) (Or.inl ⟨by rfl, fun w' hw' => by have hq0 := cell_keep HB15.out hw' (by simp); go_simp⟩) hS0 ?_
          simp only [Act.put, List.setIfInBounds_toArray, List.set_cons_zero, List.set_cons_succ]
          refine held_take 4 (some 114) (.int .i64 x) rfl rfl (by kernel_rfl) (by kernel_rfl) (by kernel_rfl) (fun _ _ _ h => h) (Or.inl ⟨by rfl, fun w' hw' => by go_simp⟩) hS0 ?_
          simp only [Act.put, List.setIfInBounds_toArray, List.set_cons_zero, List.set_cons_succ]
          refine held_one 5 rfl (by kernel_rfl) (by rfl) (fun K hK => ?_)
          go_simp
          refine (has_c A15 n15 c15 _ x _ _ (HS15.out.keep0 hS0)).mono ?_
          rintro e w17 ⟨rfl, k17⟩
          rw [HHB.out]
          go_wp2_with fail
          have hS1' : But [] w16 w17 := hS0.trans k17
          skip
          refine hK.out _ _ hS1' (fun hS1 => ?_)
          clear hK K
          try simp only [Act.put, List.setIfInBounds_toArray, List.set_cons_zero, List.set_cons_succ]
          refine held_take 6 (some 116) (.bool false) rfl rfl (by kernel_rfl) (by kernel_rfl) (by kernel_rfl) (fun _ _ _ h => h) (Or.inl ⟨by rfl, fun w' hw' => by go_simp⟩) hS1 ?_
          simp only [Act.put, List.setIfInBounds_toArray, List.set_cons_zero, List.set_cons_succ]
          refine held_take 7 (some 117) (.bool false) rfl rfl (by kernel_rfl) (by kernel_rfl) (by kernel_rfl) (fun _ _ _ h => h) (Or.inl ⟨by rfl, fun w' hw' => by go_simp⟩) hS1 ?_
          simp only [Act.put, List.setIfInBounds_toArray, List.set_cons_zero, List.set_cons_succ]
          refine held_take 8 (some 118) (.bool false) rfl rfl (by kernel_rfl) (by kernel_rfl) (by kernel_rfl) (fun _ _ _ h => h) (Or.inl ⟨by rfl, fun w' hw' => by go_simp⟩) hS1 ?_
          simp only [Act.put, List.setIfInBounds_toArray, List.set_cons_zero, List.set_cons_succ]
          refine held_take 9 (some 119) (.bool false) rfl rfl (by kernel_rfl) (by kernel_rfl) (by kernel_rfl) (fun _ _ _ h => h) (Or.inl ⟨by rfl, fun w' hw' => by go_simp⟩) hS1 ?_
          simp only [Act.put, List.setIfInBounds_toArray, List.set_cons_zero, List.set_cons_succ]
          refine held_take 10 (some 120) (.int .i64 j) rfl rfl (by kernel_rfl) (by kernel_rfl) (by kernel_rfl) (fun _ _ _ h => h) (Or.inl ⟨by rfl, fun w' hw' => by go_simp⟩) hS1 ?_
          simp only [Act.put, List.setIfInBounds_toArray, List.set_cons_zero, List.set_cons_succ]
          refine held_take 11 (some 121) (.bool false) rfl rfl (by kernel_rfl) (by kernel_rfl) (by kernel_rfl) (fun _ _ _ h => h) (Or.inl ⟨by rfl, fun w' hw' => by go_simp; exact HJ.out⟩) hS1 ?_
          simp only [Act.put, List.setIfInBounds_toArray, List.set_cons_zero, List.set_cons_succ]
          refine held_take 12 (some 122) (.bool false) rfl rfl (by kernel_rfl) (by kernel_rfl) (by kernel_rfl) (fun _ _ _ h => h) (Or.inl ⟨by rfl, fun w' hw' => by go_simp⟩) hS1 ?_
          simp only [Act.put, List.setIfInBounds_toArray, List.set_cons_zero, List.set_cons_succ]
          refine held_take 13 (some 123) (.bool false) rfl rfl (by kernel_rfl) (by kernel_rfl) (by kernel_rfl) (fun _ _ _ h => h) (Or.inl ⟨by rfl, fun w' hw' => by go_simp⟩) hS1 ?_
          simp only [Act.put, List.setIfInBounds_toArray, List.set_cons_zero, List.set_cons_succ]
          refine held_take 14 (some 124) (.bool false) rfl rfl (by kernel_rfl) (by kernel_rfl) (by kernel_rfl) (fun _ _ _ h => h) (Or.inl ⟨by rfl, fun w' hw' => by go_simp⟩) hS1 ?_
          simp only [Act.put, List.setIfInBounds_toArray, List.set_cons_zero, List.set_cons_succ]
          refine held_take 15 (some 125) (.bool false) rfl rfl (by kernel_rfl) (by kernel_rfl) (by kernel_rfl) (fun _ _ _ h => h) (Or.inl ⟨by rfl, fun w' hw' => by go_simp⟩) hS1 ?_
          simp only [Act.put, List.setIfInBounds_toArray, List.set_cons_zero, List.set_cons_succ]
          refine held_take 16 (some 126) (.bool false) rfl rfl (by kernel_rfl) (by kernel_rfl) (by kernel_rfl) (fun _ _ _ h => h) (Or.inl ⟨by rfl, fun w' hw' => by go_simp⟩) hS1 ?_
          simp only [Act.put, List.setIfInBounds_toArray, List.set_cons_zero, List.set_cons_succ]
          refine held_take 17 (some 127) undef rfl rfl (by kernel_rfl) (by kernel_rfl) (by kernel_rfl) (fun _ _ _ h => h) (Or.inr ⟨by rfl, rfl⟩) hS1 ?_
          simp only [Act.put, List.setIfInBounds_toArray, List.set_cons_zero, List.set_cons_succ]
          refine held_take 18 (some 128) undef rfl rfl (by kernel_rfl) (by kernel_rfl) (by kernel_rfl) (fun _ _ _ h => h) (Or.inr ⟨by rfl, rfl⟩) hS1 ?_
          simp only [Act.put, List.setIfInBounds_toArray, List.set_cons_zero, List.set_cons_succ]
          refine held_take 19 (some 129) undef rfl rfl (by kernel_rfl) (by kernel_rfl) (by kernel_rfl) (fun _ _ _ h => h) (Or.inr ⟨by rfl, rfl⟩) hS1 ?_
          simp only [Act.put, List.setIfInBounds_toArray, List.set_cons_zero, List.set_cons_succ]
          refine held_take 20 (some 130) undef rfl rfl (by kernel_rfl) (by kernel_rfl) (by kernel_rfl) (fun _ _ _ h => h) (Or.inr ⟨by rfl, rfl⟩) hS1 ?_
          simp only [Act.put, List.setIfInBounds_toArray, List.set_cons_zero, List.set_cons_succ]
          refine held_take 21 (some 131) undef rfl rfl (by kernel_rfl) (by kernel_rfl) (by kernel_rfl) (fun _ _ _ h => h) (Or.inr ⟨by rfl, rfl⟩) hS1 ?_
          simp only [Act.put, List.setIfInBounds_toArray, List.set_cons_zero, List.set_cons_succ]
          refine held_take 22 (some 132) undef rfl rfl (by kernel_rfl) (by kernel_rfl) (by kernel_rfl) (fun _ _ _ h => h) (Or.inr ⟨by rfl, rfl⟩) hS1 ?_
          simp only [Act.put, List.setIfInBounds_toArray, List.set_cons_zero, List.set_cons_succ]
          refine held_take 23 (some 133) undef rfl rfl (by kernel_rfl) (by kernel_rfl) (by kernel_rfl) (fun _ _ _ h => h) (Or.inr ⟨by rfl, rfl⟩) hS1 ?_
          simp only [Act.put, List.setIfInBounds_toArray, List.set_cons_zero, List.set_cons_succ]
          refine held_take 24 (some 134) (.bool false) rfl rfl (by kernel_rfl) (by kernel_rfl) (by kernel_rfl) (fun _ _ _ h => h) (Or.inl ⟨by rfl, fun w' hw' => by go_simp⟩) hS1 ?_
          simp only [Act.put, List.setIfInBounds_toArray, List.set_cons_zero, List.set_cons_succ]
          refine held_take 25 (some 135) (.bool false) rfl rfl (by kernel_rfl) (by kernel_rfl) (by kernel_rfl) (fun _ _ _ h => h) (Or.inl ⟨by rfl, fun w' hw' => by go_simp⟩) hS1 ?_
          simp only [Act.put, List.setIfInBounds_toArray, List.set_cons_zero, List.set_cons_succ]
          refine wpAnyH_done (by kernel_rfl) ?_ _
          refine NoPanic.normal ?_
          go_wp2_with fail
          go_meet
          exact ⟨rfl, hS1⟩
        · have hgt : decide ((0 : Int) < (j : Int)) = true := decide_eq_true (by omega)
          obtain ⟨hr0, hr1⟩ := HPREV.out i hi
          rw [← hpa] at hr0
          rw [← hpg] at hr1
          have HR0 := hid hr0
          have HR1 := hid hr1
          have hiw : (j : Int) - 1 = (i : Int) := by omega
          have hilo : i < no := by omega
          have hwi : IntKind.i64.wrap (i : Int) = (i : Int) := by rw [IntKind.wrap_i64]; omega
          have HJ : Hid (0 < j) := by show 0 < j; omega
          clear hr0 hr1 hpa hpg hi
          refine wp_region_noPanic ?_
          refine wp_region_held_drew (S := fun w' => But [] w16 w') (by kernel_rfl) (But.refl _ _).drew (fun hS0 => ?_)
          generalize w16.drew = wd at *
          refine held_take 0 (some 110) (.bool true) rfl rfl (by kernel_rfl) (by kernel_rfl) (by kernel_rfl) (fun _ _ _ h => h) (Or.inl ⟨by rfl, fun w' hw' => by go_simp⟩) hS0 ?_
          simp only [Act.put, List.setIfInBounds_toArray, List.set_cons_zero, List.set_cons_succ]
          refine held_take 1 (some 111) (.bool false) rfl rfl (by kernel_rfl) (by kernel_rfl) (by kernel_rfl) (fun _ _ _ h => h) (Or.inl ⟨by rfl, fun w' hw' => by go_simp⟩) hS0 ?_
          simp only [Act.put, List.setIfInBounds_toArray, List.set_cons_zero, List.set_cons_succ]
          refine held_take 2 (some 112) (.bool false) rfl rfl (by kernel_rfl) (by kernel_rfl) (by kernel_rfl) (fun _ _ _ h => h) (Or.inl ⟨by rfl, fun w' hw' => by go_simp⟩) hS0 ?_
          simp only [Act.put, List.setIfInBounds_toArray, List.set_cons_zero, List.set_cons_succ]
          refine held_take 3 (some 113) (.agg #[.slice A15 n15 c15]) rfl rfl (by kernel_rfl) (by kernel_rfl) (by kernel_rfl) (fun _ _ _ h => h) (Or.inl ⟨by rfl, fun w' hw' => by have hq0 := cell_keep HB15.out hw' (by simp); go_simp⟩) hS0 ?_
          simp only [Act.put, List.setIfInBounds_toArray, List.set_cons_zero, List.set_cons_succ]
          refine held_take 4 (some 114) (.int .i64 x) rfl rfl (by kernel_rfl) (by kernel_rfl) (by kernel_rfl) (fun _ _ _ h => h) (Or.inl ⟨by rfl, fun w' hw' => by go_simp⟩) hS0 ?_
          simp only [Act.put, List.setIfInBounds_toArray, List.set_cons_zero, List.set_cons_succ]
          refine held_one 5 rfl (by kernel_rfl) (by rfl) (fun K hK => ?_)
          go_simp
          refine (has_c A15 n15 c15 _ x _ _ (HS15.out.keep0 hS0)).mono ?_
          rintro e w17 ⟨rfl, k17⟩
          rw [HHB.out]
          go_wp2_with fail
          have hS1' : But [] w16 w17 := hS0.trans k17
          skip
          refine hK.out _ _ hS1' (fun hS1 => ?_)
          clear hK K
          try simp only [Act.put, List.setIfInBounds_toArray, List.set_cons_zero, List.set_cons_succ]
          refine held_take 6 (some 116) (.bool false) rfl rfl (by kernel_rfl) (by kernel_rfl) (by kernel_rfl) (fun _ _ _ h => h) (Or.inl ⟨by rfl, fun w' hw' => by go_simp⟩) hS1 ?_
          simp only [Act.put, List.setIfInBounds_toArray, List.set_cons_zero, List.set_cons_succ]
          refine held_take 7 (some 117) (.bool false) rfl rfl (by kernel_rfl) (by kernel_rfl) (by kernel_rfl) (fun _ _ _ h => h) (Or.inl ⟨by rfl, fun w' hw' => by go_simp⟩) hS1 ?_
          simp only [Act.put, List.setIfInBounds_toArray, List.set_cons_zero, List.set_cons_succ]
          refine held_take 8 (some 118) (.bool false) rfl rfl (by kernel_rfl) (by kernel_rfl) (by kernel_rfl) (fun _ _ _ h => h) (Or.inl ⟨by rfl, fun w' hw' => by go_simp⟩) hS1 ?_
          simp only [Act.put, List.setIfInBounds_toArray, List.set_cons_zero, List.set_cons_succ]
          refine held_take 9 (some 119) (.bool true) rfl rfl (by kernel_rfl) (by kernel_rfl) (by kernel_rfl) (fun _ _ _ h => h) (Or.inl ⟨by rfl, fun w' hw' => by go_simp⟩) hS1 ?_
          simp only [Act.put, List.setIfInBounds_toArray, List.set_cons_zero, List.set_cons_succ]
          refine held_take 10 (some 120) (.int .i64 j) rfl rfl (by kernel_rfl) (by kernel_rfl) (by kernel_rfl) (fun _ _ _ h => h) (Or.inl ⟨by rfl, fun w' hw' => by go_simp⟩) hS1 ?_
          simp only [Act.put, List.setIfInBounds_toArray, List.set_cons_zero, List.set_cons_succ]
          refine held_take 11 (some 121) (.bool true) rfl rfl (by kernel_rfl) (by kernel_rfl) (by kernel_rfl) (fun _ _ _ h => h) (Or.inl ⟨by rfl, fun w' hw' => by go_simp; exact HJ.out⟩) hS1 ?_
          simp only [Act.put, List.setIfInBounds_toArray, List.set_cons_zero, List.set_cons_succ]
          refine held_take 12 (some 122) (.bool false) rfl rfl (by kernel_rfl) (by kernel_rfl) (by kernel_rfl) (fun _ _ _ h => h) (Or.inl ⟨by rfl, fun w' hw' => by go_simp⟩) hS1 ?_
          simp only [Act.put, List.setIfInBounds_toArray, List.set_cons_zero, List.set_cons_succ]
          refine held_take 13 (some 123) (.bool false) rfl rfl (by kernel_rfl) (by kernel_rfl) (by kernel_rfl) (fun _ _ _ h => h) (Or.inl ⟨by rfl, fun w' hw' => by go_simp⟩) hS1 ?_
          simp only [Act.put, List.setIfInBounds_toArray, List.set_cons_zero, List.set_cons_succ]
          refine held_take 14 (some 124) (.bool false) rfl rfl (by kernel_rfl) (by kernel_rfl) (by kernel_rfl) (fun _ _ _ h => h) (Or.inl ⟨by rfl, fun w' hw' => by go_simp⟩) hS1 ?_
          simp only [Act.put, List.setIfInBounds_toArray, List.set_cons_zero, List.set_cons_succ]
          refine held_take 15 (some 125) (.bool true) rfl rfl (by kernel_rfl) (by kernel_rfl) (by kernel_rfl) (fun _ _ _ h => h) (Or.inl ⟨by rfl, fun w' hw' => by go_simp⟩) hS1 ?_
          simp only [Act.put, List.setIfInBounds_toArray, List.set_cons_zero, List.set_cons_succ]
          refine held_take 16 (some 126) (.bool true) rfl rfl (by kernel_rfl) (by kernel_rfl) (by kernel_rfl) (fun _ _ _ h => h) (Or.inl ⟨by rfl, fun w' hw' => by go_simp⟩) hS1 ?_
          simp only [Act.put, List.setIfInBounds_toArray, List.set_cons_zero, List.set_cons_succ]
          refine held_take 17 (some 127) (.agg #[.int .i64 pa, .int .u64 pg]) rfl rfl (by kernel_rfl) (by kernel_rfl) (by kernel_rfl) (fun _ _ _ h => h) (Or.inl ⟨by rfl, fun w' hw' => by have hq0 := cell_keep HP0.out hw' (by simp); have hq1 := cell_keep HP1.out hw' (by simp); go_simp⟩) hS1 ?_
          simp only [Act.put, List.setIfInBounds_toArray, List.set_cons_zero, List.set_cons_succ]
          refine held_take 18 (some 128) (.slice (some ⟨go_, oo, none⟩) no co) rfl rfl (by kernel_rfl) (by kernel_rfl) (by kernel_rfl) (fun _ _ _ h => h) (Or.inl ⟨by rfl, fun w' hw' => by go_simp⟩) hS1 ?_
          simp only [Act.put, List.setIfInBounds_toArray, List.set_cons_zero, List.set_cons_succ]
          refine held_take 19 (some 129) (.int .i64 j) rfl rfl (by kernel_rfl) (by kernel_rfl) (by kernel_rfl) (fun _ _ _ h => h) (Or.inl ⟨by rfl, fun w' hw' => by go_simp⟩) hS1 ?_
          simp only [Act.put, List.setIfInBounds_toArray, List.set_cons_zero, List.set_cons_succ]
          refine held_take 20 (some 130) (.int .i64 i) rfl rfl (by kernel_rfl) (by kernel_rfl) (by kernel_rfl) (fun _ _ _ h => h) (Or.inl ⟨by rfl, fun w' hw' => by go_simp; try exact hwi⟩) hS1 ?_
          simp only [Act.put, List.setIfInBounds_toArray, List.set_cons_zero, List.set_cons_succ]
          refine held_take 21 (some 131) (.pointer (some ⟨go_, oo + i * 2, none⟩)) rfl rfl (by kernel_rfl) (by kernel_rfl) (by kernel_rfl) (fun _ _ _ h => h) (Or.inl ⟨by rfl, fun w' hw' => by go_simp⟩) hS1 ?_
          simp only [Act.put, List.setIfInBounds_toArray, List.set_cons_zero, List.set_cons_succ]
          refine held_take 22 (some 132) (.agg #[.int .i64 pa, .int .u64 pg]) rfl rfl (by kernel_rfl) (by kernel_rfl) (by kernel_rfl) (fun _ _ _ h => h) (Or.inl ⟨by rfl, fun w' hw' => by have hq0 := cell_keep HR0.out hw' (by simp); have hq1 := cell_keep HR1.out hw' (by simp); go_simp⟩) hS1 ?_
          simp only [Act.put, List.setIfInBounds_toArray, List.set_cons_zero, List.set_cons_succ]
          refine held_take 23 (some 133) (.bool false) rfl rfl (by kernel_rfl) (by kernel_rfl) (by kernel_rfl) (fun _ _ _ h => h) (Or.inl ⟨by rfl, fun w' hw' => by go_simp⟩) hS1 ?_
          simp only [Act.put, List.setIfInBounds_toArray, List.set_cons_zero, List.set_cons_succ]
          refine held_take 24 (some 134) (.bool false) rfl rfl (by kernel_rfl) (by kernel_rfl) (by kernel_rfl) (fun _ _ _ h => h) (Or.inl ⟨by rfl, fun w' hw' => by go_simp⟩) hS1 ?_
          simp only [Act.put, List.setIfInBounds_toArray, List.set_cons_zero, List.set_cons_succ]
          refine held_take 25 (some 135) (.bool false) rfl rfl (by kernel_rfl) (by kernel_rfl) (by kernel_rfl) (fun _ _ _ h => h) (Or.inl ⟨by rfl, fun w' hw' => by go_simp⟩) hS1 ?_
          simp only [Act.put, List.setIfInBounds_toArray, List.set_cons_zero, List.set_cons_succ]
          refine wpAnyH_done (by kernel_rfl) ?_ _
          refine NoPanic.normal ?_
          go_wp2_with fail
          go_meet
          exact ⟨rfl, hS1⟩
      case rest =>
      obtain ⟨rfl, k21⟩ := hcut
      have HK21 := hid (HK16.out.trans k21)
      clear k21
      go_wp2
      go_roundg (no + 1 - (j + 1))
      case measure => omega
      case rel => exact ⟨j + 1, by omega, by omega, by go_num, HK21.out⟩
    case neg =>
    obtain rfl : j = no := by omega
    have HK9 := hid (HKW.out.trans HB.out)
    have HTF9 := hid (HTF8.out.keep0 HB.out)
    have HF9 := hid (HF8.out.keep HB.out (by simp))
    clear HQ8 HF8 HTF8 HKW HB
    by_cases hfar : x < 0 ∨ 1023 < x
    case pos =>
      obtain rfl : j = 0 := by
        have := HCT.out
        rw [ov_none (ov_far hfar)] at this
        exact this.symm
      go_upto_region 23 with fail
      go_cut [141] from 136 to 140 (fun s141 wx => s141 = .bool true ∧ wx = w9)
      case first =>
        by_cases h0 : x < 0
        · have hd3 : decide (x < 0) = true := decide_eq_true h0
          go_wp2_with fail
          go_meet
          exact ⟨rfl, rfl⟩
        · have hd3 : decide (x < 0) = false := decide_eq_false h0
          have hd4 : decide (1023 < x) = true := decide_eq_true (by omega)
          go_wp2_with fail
          go_meet
          exact ⟨rfl, rfl⟩
      case rest =>
      obtain ⟨rfl, hw9⟩ := hcut
      rw [hw9]
      clear hw9
      go_wp2_with fail
      refine (awake_c _).mono ?_
      rintro e w10 ⟨rfl, k10⟩
      have HK10 := hid (HK9.out.trans k10)
      clear k10
      go_wp2
      go_ret
      exact ⟨rfl, HK10.out⟩
    case neg =>
    obtain ⟨M, rfl⟩ : ∃ M : Nat, x = M := ⟨x.toNat, by omega⟩
    have hM : M < 1024 := by omega
    have HM := hid hM
    have hd3 : decide ((M : Int) < 0) = false := decide_eq_false (by omega)
    have hd4 : decide (1023 < (M : Int)) = false := decide_eq_false (by omega)
    have HCC : Hid (CutV T 0 1 (one (M : Int) ((M : Int) + 1)) = .tuple #[.int .i64 (j : Nat), .int .i64 0] ∧ CutT T 0 1 (one (M : Int) ((M : Int) + 1)) = ctT T 0 (one (M : Int) ((M : Int) + 1))) := by
      have hi : isB T 0 1 = true := isB_nat (a := 0) (by omega) (by omega) HF9.out.1
      refine ⟨?_, ?_⟩
      · unfold CutV
        rw [if_pos hi]
        show Value.tuple #[.int .i64 (ctC T 0 _ : Nat), .int .i64 0] = _
        rw [ov_cut HWF.out hM, HCT.out]
      · unfold CutT
        rw [if_pos hi]
        rfl
    have HWC : Hid (Wf (ctT T 0 (one (M : Int) ((M : Int) + 1))) m) := ct_wf HWF.out
    have HGO := hid (fun i => ov_gone HWF.out hM i)
    have HC0 := hid HF9.out.2.1
    have HC1 := hid HF9.out.2.2
    clear hfar HF9
    have hwM : IntKind.i64.wrap ((M : Int) + 1) = (M : Int) + 1 := by rw [IntKind.wrap_i64]; omega
    go_upto_region 25 with fail
    have hTR : TrA w9.drew bt _ T m := ⟨f, HTF9.out.keep0 (But.refl [] w9).drew⟩
    have hTRd := hTR
    refine wp_region_noPanic ?_
    refine wp_region_held_drew (S := fun w' => But [bt] w9 w') (by kernel_rfl) (But.refl _ _).drew (fun hS0 => ?_)
    generalize w9.drew = wd at *
    refine held_take 0 (some 148) (.pointer (some ⟨bt, 0, none⟩)) rfl rfl (by kernel_rfl) (by kernel_rfl) (by kernel_rfl) (fun _ _ _ h => h) (Or.inl ⟨by rfl, fun w' hw' => by go_simp⟩) hS0 ?_
    simp only [Act.put, List.setIfInBounds_toArray, List.set_cons_zero, List.set_cons_succ]
    refine held_take 1 (some 149) (.agg #[.int .i64 0, .int .u64 1]) rfl rfl (by kernel_rfl) (by kernel_rfl) (by kernel_rfl) (fun _ _ _ h => h) (Or.inl ⟨by rfl, fun w' hw' => by have hq0 := cell_keep HC0.out hw' (by have := HBN.out.2.2; simpa using this); have hq1 := cell_keep HC1.out hw' (by have := HBN.out.2.2; simpa using this); go_simp⟩) hS0 ?_
    simp only [Act.put, List.setIfInBounds_toArray, List.set_cons_zero, List.set_cons_succ]
    refine held_take 2 (some 150) (.int .i64 M) rfl rfl (by kernel_rfl) (by kernel_rfl) (by kernel_rfl) (fun _ _ _ h => h) (Or.inl ⟨by rfl, fun w' hw' => by go_simp⟩) hS0 ?_
    simp only [Act.put, List.setIfInBounds_toArray, List.set_cons_zero, List.set_cons_succ]
    refine held_take 3 (some 151) (.int .i64 M) rfl rfl (by kernel_rfl) (by kernel_rfl) (by kernel_rfl) (fun _ _ _ h => h) (Or.inl ⟨by rfl, fun w' hw' => by go_simp⟩) hS0 ?_
    simp only [Act.put, List.setIfInBounds_toArray, List.set_cons_zero, List.set_cons_succ]
    refine held_take 4 (some 152) (.int .i64 ((M : Int) + 1)) rfl rfl (by kernel_rfl) (by kernel_rfl) (by kernel_rfl) (fun _ _ _ h => h) (Or.inl ⟨by rfl, fun w' hw' => by go_simp; try exact hwM⟩) hS0 ?_
    simp only [Act.put, List.setIfInBounds_toArray, List.set_cons_zero, List.set_cons_succ]
    refine held_one 5 rfl (by kernel_rfl) (by rfl) (fun K hK => ?_)
    go_simp
    refine (of_c' M ((M : Int) + 1) _).mono ?_
    rintro e w61 ⟨A1, n1x, c1, rfl, hs1, k61⟩
    go_wp2_with fail
    have hS1' : But [bt] w9 w61 := hS0.trans (k61.any _)
    have hTR := hTR.keep0 k61
    have hoK := Off.of_lo hs1 hTRd.low
    refine hK.out _ _ hS1' (fun hS1 => ?_)
    clear hK K
    try simp only [Act.put, List.setIfInBounds_toArray, List.set_cons_zero, List.set_cons_succ]
    refine held_one 6 rfl (by kernel_rfl) (by rfl) (fun K hK => ?_)
    go_simp
    refine (Cut_c' bt m _ T 0 1 A1 n1x c1 _ (one (M : Int) ((M : Int) + 1)) _ hTR HWF.out hs1 hoK).mono ?_
    rintro e w62 ⟨rfl, hTR, k62⟩
    rw [HCC.out.1]
    rw [HCC.out.2] at hTR
    go_wp2_with fail
    have hS2' : But [bt] w9 w62 := hS1.trans k62
    skip
    refine hK.out _ _ hS2' (fun hS2 => ?_)
    clear hK K
    try simp only [Act.put, List.setIfInBounds_toArray, List.set_cons_zero, List.set_cons_succ]
    refine held_take 7 (some 147) (.tuple #[.int .i64 j, .int .i64 0]) rfl rfl (by kernel_rfl) (by kernel_rfl) (by kernel_rfl) (fun _ _ _ h => h) (Or.inl ⟨by rfl, fun w' hw' => by go_simp⟩) hS2 ?_
    simp only [Act.put, List.setIfInBounds_toArray, List.set_cons_zero, List.set_cons_succ]
    refine held_take 8 (some 155) (.int .i64 j) rfl rfl (by kernel_rfl) (by kernel_rfl) (by kernel_rfl) (fun _ _ _ h => h) (Or.inl ⟨by rfl, fun w' hw' => by go_simp⟩) hS2 ?_
    simp only [Act.put, List.setIfInBounds_toArray, List.set_cons_zero, List.set_cons_succ]
    refine held_take 9 (some 156) (.int .i64 0) rfl rfl (by kernel_rfl) (by kernel_rfl) (by kernel_rfl) (fun _ _ _ h => h) (Or.inl ⟨by rfl, fun w' hw' => by go_simp⟩) hS2 ?_
    simp only [Act.put, List.setIfInBounds_toArray, List.set_cons_zero, List.set_cons_succ]
    refine held_take 10 (some 17) (.int .i64 j) rfl rfl (by kernel_rfl) (by kernel_rfl) (by kernel_rfl) (fun _ _ _ h => h) (Or.inl ⟨by rfl, fun w' hw' => by go_simp⟩) hS2 ?_
    simp only [Act.put, List.setIfInBounds_toArray, List.set_cons_zero, List.set_cons_succ]
    refine held_take 11 (some 18) (.int .i64 0) rfl rfl (by kernel_rfl) (by kernel_rfl) (by kernel_rfl) (fun _ _ _ h => h) (Or.inl ⟨by rfl, fun w' hw' => by go_simp⟩) hS2 ?_
    simp only [Act.put, List.setIfInBounds_toArray, List.set_cons_zero, List.set_cons_succ]
    refine wpAnyH_done (by kernel_rfl) ?_ _
    refine NoPanic.normal ?_
    have hS11 := hS2
    clear hS2
    generalize w62 = w11 at *
    have HK11 := hid (but_own HK9.out hS11 (fun i hi => by have := HBN.out; simp at hi; omega))
    clear hS11
    obtain ⟨f', hf'⟩ := hTR
    have HTF' := hid hf'
    clear hf'
    go_wp2_with fail
    refine (Over_c bt m _ _ f' M w11 HTF'.out HWC.out).mono ?_
    rintro e w12 ⟨L', Ao', no', co', rfl, hq12, k12, hov, hdn⟩
    have hn0 : no' = 0 := by
      have h1 := hq12.1
      rw [kc_len] at h1
      have h2 := ov_count HWC.out hov hdn
      rw [ov_none HGO.out] at h2
      omega
    subst hn0
    have HK12 := hid (HK11.out.trans k12)
    clear hq12 k12 hov hdn
    go_wp2_with fail
    refine (awake_c _).mono ?_
    rintro e w14 ⟨rfl, k14⟩
    have HK14 := hid (HK12.out.trans k14)
    clear k14
    go_wp2
    go_ret
    exact ⟨rfl, HK14.out⟩
end Go.Proofs.Ytlppfcoclpdanaa.Cs
