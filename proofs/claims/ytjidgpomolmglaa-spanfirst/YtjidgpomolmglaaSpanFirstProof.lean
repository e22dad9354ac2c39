/-
  Whatever the input, the Go function SpanFirst answers true, and its arguments read behind the call as they read before. No condition.
-/
import Derived.Test.YtjidgpomolmglaaRows
import Derived.Test.YtjidgpomolmglaaSnLaw
import Derived.WalkKit
import Derived.Deep.RegionHeld3
import Derived.Deep.CutBlock
import Derived.Deep.DeepCutAuto
import Derived.ProofKit
import Derived.OpenShut
import Derived.ShutString
import Derived.ChangeOld
import Derived.Below
import Derived.Carry
namespace Go.Proofs.Ytjidgpomolmglaa.spanFirst
open Go.ChangeShapes Go.WideShapes Go.ChangeAt Go.RowKit
open Go.ChangeMaps (open_string shut_string)
set_option linter.unusedVariables false

theorem own : ownKnob Try.prog.godebug = none := by kernel_rfl
theorem laidOut : laidOutB Try.prog = true := by kernel_rfl

set_option maxHeartbeats 4000000 in
set_option maxRecDepth 100000 in
theorem walk (w : World) (A0 : Option Addr) (len0 cap0 : Nat) (r0 : RowOf ks_flatDeed w A0 len0 cap0) (a1 : Int) (w1 : (Lit.int .i64 a1).wf = true) :
    Calls Try.prog 4 #[.slice A0 len0 cap0, .int .i64 a1] w fun e w' => e = .returned (.bool true) ∧ Below w.heap.size w w' := by
  have hwf := Sn.i64_bd w1
  have hz := Sn.zSet
  clear w1
  go_enter Try.func4, Try.ntmps4
  go_wp2_with fail
  refine (Sn.made_c A0 len0 cap0 _ r0).mono ?_
  rintro e w1 ⟨f, A, n, c, rfl, hs, k1⟩
  obtain ⟨t1, t2, t3⟩ := Sn.box2 w1 (.slice A n c) f 25 27
  obtain ⟨w2, hw2⟩ : ∃ w2, w2 = (w1.alloc (.cells #[.slice A n c] 25)).alloc (.cells (Sn.bv f).toArray 27) := ⟨_, rfl⟩
  obtain ⟨b5, hb5⟩ : ∃ b5, b5 = w1.heap.size := ⟨_, rfl⟩
  obtain ⟨b6, hb6⟩ : ∃ b6, b6 = w1.heap.size + 1 := ⟨_, rfl⟩
  rw [← hw2] at t1 t2 t3
  rw [← hb5] at t1
  rw [← hb6] at t2
  have HC5 := Sn.hid t1
  have HC6 := Sn.hid t2
  have HS := Sn.hid (hs.keep0 t3)
  have HK2 := Sn.hid (k1.trans t3)
  clear r0 t1 t2 t3 hs k1
  go_upto_region 2 with (refine Wh.wpList_store_newAt rfl 27 _ _ rfl (w1.heap.size + 1) (by simp) (Sn.bv Sn.no).toArray (Sn.bv f).toArray rfl rfl (Sn.iSet' _) (by rw [Sn.bvs, Sn.bvs]) (Sn.bv_all _) ?_)
  rw [← hw2, ← hb6, ← hb5]
  clear hw2 hb5 hb6
  obtain ⟨L, hL⟩ : ∃ L, (Sn.nums f 1024).length = L := ⟨_, rfl⟩
  have hL4 : L ≤ 1024 := by have := Sn.nums_le f 1024; omega
  have HL := Sn.hid hL
  clear hL
  go_wp2_with (first | (refine Sn.wpList_load_mid_g 27 _ rfl b6 0 rfl (Sn.bv f) _ HC6.out Try.underlying27 rfl (Sn.iSet f) rfl ?_) | fail)
  refine (Sn.rallN_c f L _ HL.out).mono ?_
  rintro e w3 ⟨A2, c2, rfl, L2, k3, hfm⟩
  have HL2 := Sn.hid L2
  have HK3 := Sn.hid k3
  have HFM := Sn.hid hfm
  clear L2 k3 hfm
  obtain ⟨N, hN⟩ : ∃ N, N = a1.toNat := ⟨_, rfl⟩
  obtain ⟨kk, hkk⟩ : ∃ kk, kk = min N L := ⟨_, rfl⟩
  have HKK := Sn.hid hkk
  have HN := Sn.hid hN
  have hkL : kk ≤ L := by omega
  have H1 : Hid (a1 < 0 → N = 0) := by show _ → _; omega
  have H2 : Hid (¬ a1 < 0 → a1 = (N : Int)) := by show _ → _; omega
  have H3 : Hid (L < N → kk = L) := by show _ → _; omega
  have H4 : Hid (¬ L < N → kk = N) := by show _ → _; omega
  clear hN hkk
  go_upto_if 19 with fail
  go_cut [8] (fun s8 wx => s8 = .int .i64 (N : Int) ∧ wx = w3)
  case first =>
    by_cases h0 : a1 < 0
    · have e : N = 0 := H1.out (by omega)
      subst e
      go_wp2
      go_meet
      exact ⟨rfl, rfl⟩
    · have e : a1 = (N : Int) := H2.out (by omega)
      subst e
      go_wp2
      go_meet
      exact ⟨rfl, rfl⟩
  case rest =>
    obtain ⟨rfl, rfl⟩ := hcut
    go_upto_if 23 with fail
    go_cut [8] (fun s8 wx => s8 = .int .i64 (kk : Int) ∧ wx = wc)
    case first =>
      by_cases h0 : L < N
      · have e : kk = L := H3.out (by omega)
        subst e
        have h0i : (kk : Int) < (N : Int) := by omega
        go_wp2
        go_meet
        exact ⟨rfl, rfl⟩
      · have e : kk = N := H4.out (by omega)
        subst e
        have h0i : ¬ (L : Int) < (kk : Int) := by omega
        go_wp2
        go_meet
        exact ⟨rfl, rfl⟩
    case rest =>
      obtain ⟨rfl, hwc⟩ := hcut
      subst hwc
      have hc5 := cell_keep HC5.out HK3.out (by simp)
      go_wp2_with fail
      refine (Sn.first_c _ _ _ _ f a1 _ (HS.out.keep0 HK3.out) hwf).mono ?_
      rintro e w6 ⟨A3, n3, c3, rfl, hs3, k6⟩
      rw [← HN.out] at hs3
      obtain ⟨w7, hw7⟩ : ∃ w7, w7 = w6.alloc (.cells #[.slice A3 n3 c3] 25) := ⟨_, rfl⟩
      obtain ⟨b9, hb9⟩ : ∃ b9, b9 = w6.heap.size := ⟨_, rfl⟩
      have t1 : w7.cell? ⟨b9, 0, none⟩ = some (.slice A3 n3 c3) := by rw [hw7, hb9]; simp
      have t3 : But [] w6 w7 := by rw [hw7]; exact (But.refl [] w6).alloc _
      have k37 := k6.trans t3
      have HS5 := Sn.hid ((HS.out.keep0 HK3.out).keep0 k37)
      have HS9 := Sn.hid (hs3.keep0 t3)
      have HKA := Sn.hid ((HK2.out.trans HK3.out).trans k37)
      have HNF : Hid (Sn.nums (Sn.fst f N) 1024 = (Sn.nums f 1024).take kk ∧ (Sn.nums (Sn.fst f N) 1024).length = kk) := by
        show _ ∧ _
        rw [HKK.out]
        exact Sn.first_num f N L HL.out
      have HLK : Hid (∀ wy, But [] w7 wy → Sn.Li wy A2 (Sn.nums (Sn.fst f N) 1024)) := by
        show ∀ wy, _ → _
        intro wy hy
        rw [HNF.out.1]
        exact ((HL2.out.keep k37).keep hy).take kk
      have HST : Hid (w7.drew.cell? ⟨b9, 0, none⟩ = some (.slice A3 n3 c3) ∧ w7.drew.cell? ⟨b5, 0, none⟩ = some (.slice A n c) ∧ But [] w7 w7.drew) :=
        ⟨t1, cell_keep hc5 k37.drew (by simp), (But.refl [] w7).drew⟩
      clear hc5 t1 t3 k37 k6 hs3
      go_upto_region 9 with fail
      rw [← hw7, ← hb9]
      clear hw7 hb9 hz
      rcases HFM.out with ⟨rfl, rfl, rfl⟩ | ⟨g2, off2, rfl, hLc⟩
      · obtain rfl : kk = 0 := by omega
        go_region_held3 (fun w' => w'.cell? ⟨b9, 0, none⟩ = some (.slice A3 n3 c3) ∧ w'.cell? ⟨b5, 0, none⟩ = some (.slice A n c) ∧ But [] w7 w')
          (first | exact HST.out | assumption | exact Sn.s_keep (by assumption) (by assumption))
          (first
            | (go_at_call 18; refine (Sn.allN_c _ _ _ _ (Sn.fst f N) 0 _ (HS9.out.keep0 (Sn.held3 (by assumption))) HNF.out.2).mono ?_; rintro e w8 ⟨A8, c8, rfl, L8, k8, -⟩)
            | (go_at_call 17; refine (Sn.ints_c _ _ 0 _ _ (Sn.nums (Sn.fst f N) 1024) _ HNF.out.2 (by omega) (by first | exact L8 | exact L8.keep (by assumption)) (HLK.out _ (Sn.held3 (by assumption)))).mono ?_; rintro e w9 ⟨rfl, k9⟩)
            | (go_at_call 13; refine (Sn.within1_c _ _ _ _ _ _ _ _ _ _ _ (HS9.out.keep0 (Sn.held3 (by assumption))) (HS5.out.keep0 (Sn.held3 (by assumption))) (Sn.fst_out f N)).mono ?_; rintro e w10 ⟨rfl, k10⟩)
            | (go_at_call 19; refine (Sn.lenN_c _ _ _ _ (Sn.fst f N) 0 _ (HS9.out.keep0 (Sn.held3 (by assumption))) HNF.out.2).mono ?_; rintro e w11 ⟨rfl, k11⟩)
            | (go_at_call 15; refine (Sn.awake_c _).mono ?_; rintro e w12 ⟨rfl, k12⟩))
        go_split_ands
        have HE : Hid (But [] w w12) := HKA.out.trans ‹But [] w7 w12›
        go_wp2
        go_ret
        exact ⟨rfl, HE.out.below (Nat.le_refl _) (by simp)⟩
      · have hkc : (kk : Int) ≤ (c2 : Int) := by omega
        have hki : (kk : Int) ≤ (L : Int) := by omega
        have hk0 : (0 : Int) ≤ (kk : Int) := by omega
        go_region_held3 (fun w' => w'.cell? ⟨b9, 0, none⟩ = some (.slice A3 n3 c3) ∧ w'.cell? ⟨b5, 0, none⟩ = some (.slice A n c) ∧ But [] w7 w')
          (first | exact HST.out | assumption | exact Sn.s_keep (by assumption) (by assumption))
          (first
            | (go_at_call 18; refine (Sn.allN_c _ _ _ _ (Sn.fst f N) kk _ (HS9.out.keep0 (Sn.held3 (by assumption))) HNF.out.2).mono ?_; rintro e w8 ⟨A8, c8, rfl, L8, k8, -⟩)
            | (go_at_call 17; refine (Sn.ints_c _ _ kk _ _ (Sn.nums (Sn.fst f N) 1024) _ HNF.out.2 (by omega) (by first | exact L8 | exact L8.keep (by assumption)) (HLK.out _ (Sn.held3 (by assumption)))).mono ?_; rintro e w9 ⟨rfl, k9⟩)
            | (go_at_call 13; refine (Sn.within1_c _ _ _ _ _ _ _ _ _ _ _ (HS9.out.keep0 (Sn.held3 (by assumption))) (HS5.out.keep0 (Sn.held3 (by assumption))) (Sn.fst_out f N)).mono ?_; rintro e w10 ⟨rfl, k10⟩)
            | (go_at_call 19; refine (Sn.lenN_c _ _ _ _ (Sn.fst f N) kk _ (HS9.out.keep0 (Sn.held3 (by assumption))) HNF.out.2).mono ?_; rintro e w11 ⟨rfl, k11⟩)
            | (go_at_call 15; refine (Sn.awake_c _).mono ?_; rintro e w12 ⟨rfl, k12⟩))
        go_split_ands
        have HE : Hid (But [] w w12) := HKA.out.trans ‹But [] w7 w12›
        go_wp2
        go_ret
        exact ⟨rfl, HE.out.below (Nat.le_refl _) (by simp)⟩

set_option maxRecDepth 100000 in
theorem lifted (os : Os) (started : os.Started) (H : Type) (enc : TypeId × Value → H) :
    ReturnsInHanded {} Try.checked os 4 .any (Rows.spanFirstSpec.pre6 enc Try.prog Try.f4 Rows.spanFirstRow.domain false) (Rows.spanFirstSpec.post enc Try.prog Try.f4 false true false false) := by
  refine returnsInHanded_of_change (C := Try.checked) own started (by kernel_rfl) Try.func4
    (ChangeSpec.witness6 (enc := enc) (C := Try.checked) false ⟨#[], #[.slice none 0 0, .int .i64 0], []⟩ 8 (by kernel_rfl) (by kernel_rfl) (by kernel_rfl) (by kernel_rfl)) ?_
  intro W base args ds gs before hval0 hW hcnd _
  have hval : ∀ (j : Nat) t v, Try.f4.params[j]? = some t → args[j]? = some v → Value.okWide Try.prog W .any base t v := hval0
  have hW' := hW
  obtain ⟨p, q, hA0, hV, rfl, hfz, hnd⟩ := hW
  have hA : DataW.TrodAll enc Try.prog W 0 (fun _ => true) true Try.f4.params.toList args.toList ds p := hA0
  rw [Try.params4] at hA hval
  obtain ⟨v0, vs0, d0, ds0, p0, q0, hargs, rfl, rfl, h0, t0⟩ := trodAll_cons hA
  obtain ⟨v1, vs1, d1, ds1, p1, q1, rfl, rfl, rfl, h1, t1⟩ := trodAll_cons t0
  obtain ⟨rfl, rfl, rfl⟩ := trodAll_nil t1
  obtain rfl : args = #[v0, v1] := by cases args; simp_all
  obtain ⟨rfl, rfl⟩ := trodVars_none hV
  have k0 := h0
  have lt0 : ∀ x ∈ p0, x.block < W.heap.size := by obtain ⟨m, hm⟩ := k0; exact DataW.trod_lt m _ _ _ hm
  have k1 := h1
  have lt1 : ∀ x ∈ p1, x.block < W.heap.size := by obtain ⟨m, hm⟩ := k1; exact DataW.trod_lt m _ _ _ hm
  obtain ⟨A0, len0, cap0, rfl⟩ := okWide_slice Try.underlying22 (hval 0 22 v0 rfl rfl)
  have r0 := rowOf_open Try.underlying22 flatDeed (by decide) h0
  obtain ⟨a1, rfl, rfl, rfl, w1⟩ := open_int Try.underlying3 (hval 1 3 v1 rfl rfl) h1
  clear hA0 hval0
  refine (walk W A0 len0 cap0 r0 a1 w1).mono fun e W' ⟨he, hg⟩ => ?_
  subst he
  exact ⟨_, rfl, _, _, _, [], _, [], hW', (trodAll_cons_mk (shut_bool Try.underlying4 _) trodAll_mk0), (trodAll_cons_mk (Below.trod laidOut (by kernel_rfl) (of_decide_eq_true (by kernel_rfl)) k0 hg lt0) (trodAll_cons_mk (Below.trod laidOut (by kernel_rfl) (of_decide_eq_true (by kernel_rfl)) k1 hg lt1) trodAll_mk0)), rfl, hg.frame _, (fun h => by cases h)⟩

theorem over : Rows.spanFirstRow.holds Try.pinned (OpenSpec.ofChange Rows.spanFirstSpec) :=
  OpenClaim.holds_of_wide 4 Try.f4 rfl rfl rfl rfl rfl rfl rfl ⟨rfl, rfl, rfl, rfl, rfl⟩ rfl rfl rfl rfl rfl (by kernel_rfl) Try.func4 (by kernel_rfl)
    (of_decide_eq_true (by kernel_rfl)) (by unfold Func.isWrapper; first | (rw [if_pos (by decide +kernel)]; kernel_rfl) | (rw [if_neg (by decide +kernel)]; exact ⟨rfl, rfl⟩))
    (fun os started H enc _ => lifted os started H enc)
end Go.Proofs.Ytjidgpomolmglaa.spanFirst
namespace Go.Proofs.Ytjidgpomolmglaa
/-- The statement, by its short name. -/
theorem spanFirst_holds : Rows.SpanFirstSaid := spanFirst.over
#print axioms spanFirst_holds
end Go.Proofs.Ytjidgpomolmglaa
