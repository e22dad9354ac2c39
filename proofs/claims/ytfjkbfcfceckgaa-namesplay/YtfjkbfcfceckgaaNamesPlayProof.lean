/-
  Whatever the input, the Go function NamesPlay answers true, and its arguments read behind the call as they read before. No condition.
-/
import Derived.Test.YtfjkbfcfceckgaaRows
import Derived.Test.YtfjkbfcfceckgaaNmLaw
import Derived.WalkKit
import Derived.Deep.RegionHeld3
import Derived.ProofKit
import Derived.OpenShut
import Derived.ShutString
import Derived.ChangeOld
import Derived.Below
import Derived.Carry
namespace Go.Proofs.Ytfjkbfcfceckgaa.namesPlay
open Go.ChangeShapes Go.WideShapes Go.ChangeAt Go.RowKit
open Go.ChangeMaps (open_string shut_string)
set_option linter.unusedVariables false

theorem own : ownKnob Try.prog.godebug = none := by kernel_rfl
theorem laidOut : laidOutB Try.prog = true := by kernel_rfl

set_option maxHeartbeats 4000000 in
set_option maxRecDepth 100000 in
theorem walk (w : World) (A0 : Option Addr) (len0 cap0 : Nat) (r0 : RowOf ks_flatDeed w A0 len0 cap0) (c1 : Array Value) (f1 : Fits ks_flatDeed c1.toList) :
    Calls Try.prog 3 #[.slice A0 len0 cap0, .agg c1] w fun e w' => e = .returned (.bool true) ∧ Below w.heap.size w w' := by
  obtain ⟨cl⟩ := c1
  obtain ⟨K, F, rfl⟩ := deed_of f1
  clear f1
  have hz := Nm.zTab
  obtain ⟨b3, hb3⟩ : ∃ b3, b3 = w.heap.size := ⟨_, rfl⟩
  obtain ⟨w0, hw0⟩ : ∃ w0, w0 = w.alloc (.cells #[.int .i64 K, .int .i64 F] 24) := ⟨_, rfl⟩
  have HK : Hid (But [] w w0) := by show But _ _ _; rw [hw0]; exact (But.refl [] w).alloc _
  have hr := new_range w [.int .i64 K, .int .i64 F] 24
  rw [← hw0, ← hb3] at hr
  have HE := Nm.hid hr
  have HR0 := Nm.hid (Nm.rowOf_keep r0 HK.out)
  clear hr r0
  go_enter Try.func3, Try.ntmps3
  go_upto_region 1 with fail
  rw [← hw0, ← hb3]
  clear hw0 hb3
  go_wp2_with fail
  refine (Nm.made_c A0 len0 cap0 _ HR0.out).mono ?_
  rintro e w1 ⟨T, n, A, c, rfl, tn, dl, k1⟩
  obtain ⟨w2, hw2⟩ : ∃ w2, w2 = w1.alloc (.cells (Nm.tv T).toArray 28) := ⟨_, rfl⟩
  obtain ⟨b5, hb5⟩ : ∃ b5, b5 = w1.heap.size := ⟨_, rfl⟩
  have t3 : But [] w1 w2 := by rw [hw2]; exact (But.refl [] w1).alloc _
  have t1 := new_range w1 (Nm.tv T) 28
  rw [← hw2, ← hb5] at t1
  have kk := k1.trans t3
  have HX5 := Nm.hid t1
  have HT5 := Nm.hid tn
  have HD5 := Nm.hid (dl.keep0 t3)
  have HE := Nm.hid (range_keep HE.out kk (by simp))
  have HK := Nm.hid (HK.out.trans kk)
  clear t1 t3 tn dl k1 kk
  go_upto_region 2 with (refine Wh.wpList_store_newAt rfl 28 _ _ rfl w1.heap.size rfl (Nm.tv Nm.t0).toArray (Nm.tv T).toArray rfl rfl (Nm.iTab' _) (by rw [Nm.tvs, Nm.tvs]) (Nm.tv_all _) ?_)
  rw [← hw2, ← hb5]
  clear hw2 hb5
  have HD5 : Hid (Nm.Dl w2 0 A n T) := HD5.out.wider (Nat.zero_le _)
  clear HR0
  go_wp2_with (first | (refine wpList_load_mid rfl 28 _ rfl b5 0 rfl (Nm.tv T) _ HX5.out Try.underlying28 rfl (Nm.iTab _) ?_))
  refine (Nm.lsame_c A n c 0 T HT5.out _ HD5.out).mono ?_
  rintro e w3 ⟨rfl, k3⟩
  have HX5 := Nm.hid (range_keep HX5.out k3 (by simp))
  have HD5 := Nm.hid (HD5.out.keep0 k3)
  have HE := Nm.hid (range_keep HE.out k3 (by simp))
  have HK := Nm.hid (HK.out.trans k3)
  clear k3
  have HU := Nm.hid (HT5.out.add F)
  have HRA : Hid (∀ wy, Nm.Dl wy 0 A n T → Calls Try.prog 10 #[.slice A n c, .int .i64 F] wy (Nm.Added wy 0 (Nm.adn T n F) (Nm.adT T F) (.int .i64 (Nm.adk T F)))) := fun wy h => Nm.radd_c A n c 0 T HT5.out F wy h (Nat.zero_le _)
  have hcF := HE.out 1 _ rfl
  rw [Nat.zero_add] at hcF
  go_wp2_with (first | (refine wpList_load_mid rfl 28 _ rfl b5 0 rfl (Nm.tv T) _ HX5.out Try.underlying28 rfl (Nm.iTab _) ?_))
  refine (Nm.add_c T HT5.out.ok F _).mono ?_
  rintro e w4 ⟨rfl, k4⟩
  have HX5 := Nm.hid (range_keep HX5.out k4 (by simp))
  have HD5 := Nm.hid (HD5.out.keep0 k4)
  have HE := Nm.hid (range_keep HE.out k4 (by simp))
  have HK := Nm.hid (HK.out.trans k4)
  clear k4 hcF
  generalize Nm.adT T F = U at HU HRA ⊢
  generalize Nm.adn T n F = m at HU HRA
  generalize Nm.adk T F = k at HRA ⊢
  obtain ⟨at_, ok, hp, hao⟩ := Nm.Pr3_cases U k
  rw [hp]
  have HAO := Nm.hid hao
  clear hp hao
  obtain ⟨w5, hw5⟩ : ∃ w5, w5 = w4.alloc (.cells (Nm.tv U).toArray 28) := ⟨_, rfl⟩
  obtain ⟨b7, hb7⟩ : ∃ b7, b7 = w4.heap.size := ⟨_, rfl⟩
  have t3 : But [] w4 w5 := by rw [hw5]; exact (But.refl [] w4).alloc _
  have t1 := new_range w4 (Nm.tv U) 28
  rw [← hw5, ← hb7] at t1
  have HX5 := Nm.hid (range_keep HX5.out t3 (by simp))
  have HD5 := Nm.hid (HD5.out.keep0 t3)
  have HE := Nm.hid (range_keep HE.out t3 (by simp))
  have HK := Nm.hid (HK.out.trans t3)
  have HX7 := Nm.hid t1
  clear t1 t3
  go_upto_region 5 with (refine Wh.wpList_store_newAt rfl 28 _ _ rfl w4.heap.size rfl (Nm.tv Nm.t0).toArray (Nm.tv U).toArray rfl rfl (Nm.iTab' _) (by rw [Nm.tvs, Nm.tvs]) (Nm.tv_all _) ?_)
  rw [← hw5, ← hb7]
  clear hw5 hb7
  have hcF := HE.out 1 _ rfl
  rw [Nat.zero_add] at hcF
  go_wp2_with fail
  refine (HRA.out _ HD5.out).mono ?_
  rintro e w6 ⟨A6, c6, rfl, d6, k6⟩
  have HX5 := Nm.hid (range_keep HX5.out k6 (by simp))
  have HD5 := Nm.hid (HD5.out.keep0 k6)
  have HE := Nm.hid (range_keep HE.out k6 (by simp))
  have HK := Nm.hid (HK.out.trans k6)
  have HX7 := Nm.hid (range_keep HX7.out k6 (by simp))
  have HD6 := Nm.hid d6
  clear k6 d6 hcF HRA
  go_upto_region 6 with fail
  go_cut [68] (fun s68 wx => s68 = .bool false ∧ Hid (But [] w6 wx))
  case first =>
    go_wp2_with (first | (refine wpList_load_mid rfl 28 _ rfl b7 0 rfl (Nm.tv U) _ HX7.out Try.underlying28 rfl (Nm.iTab _) ?_))
    refine (Nm.lsame_c A6 m c6 0 U HU.out _ HD6.out).mono ?_
    rintro e w7 ⟨rfl, k7⟩
    have K7 := Nm.hid k7
    clear k7
    rcases HAO.out with ⟨h0, rfl, rfl⟩ | ⟨h0, rfl, rfl⟩
    · go_wp2
      go_meet
      exact ⟨rfl, K7.out⟩
    · have hd : decide (0 ≤ k) = false := decide_eq_false (by omega)
      go_wp2
      go_meet
      exact ⟨rfl, K7.out⟩
  case rest =>
  obtain ⟨rfl, kc⟩ := hcut
  have kc := kc.out
  have HX5 := Nm.hid (range_keep HX5.out kc (by simp))
  have HD5 := Nm.hid (HD5.out.keep0 kc)
  have HE := Nm.hid (range_keep HE.out kc (by simp))
  have HK := Nm.hid (HK.out.trans kc)
  clear kc HX7 HD6 HU HAO
  have HV := Nm.hid (HT5.out.drop F)
  have HRD : Hid (∀ wy, Nm.Dl wy 0 A n T → Calls Try.prog 12 #[.slice A n c, .int .i64 F] wy (Nm.Added wy 0 n (Nm.drT T F) (.bool (decide (0 ≤ Nm.getT T F))))) := fun wy h => Nm.rdrop_c A n c 0 T HT5.out F wy h (Nat.zero_le _)
  have hcF := HE.out 1 _ rfl
  rw [Nat.zero_add] at hcF
  go_wp2_with (first | (refine wpList_load_mid rfl 28 _ rfl b5 0 rfl (Nm.tv T) _ HX5.out Try.underlying28 rfl (Nm.iTab _) ?_))
  refine (Nm.drop_c T HT5.out.ok F _).mono ?_
  rintro e w8 ⟨rfl, k8⟩
  have HX5 := Nm.hid (range_keep HX5.out k8 (by simp))
  have HD5 := Nm.hid (HD5.out.keep0 k8)
  have HE := Nm.hid (range_keep HE.out k8 (by simp))
  have HK := Nm.hid (HK.out.trans k8)
  clear k8 hcF
  generalize Nm.drT T F = V at HV HRD ⊢
  generalize decide (0 ≤ Nm.getT T F) = gb at HRD ⊢
  obtain ⟨w9, hw9⟩ : ∃ w9, w9 = w8.alloc (.cells (Nm.tv V).toArray 28) := ⟨_, rfl⟩
  obtain ⟨b12, hb12⟩ : ∃ b12, b12 = w8.heap.size := ⟨_, rfl⟩
  have t3 : But [] w8 w9 := by rw [hw9]; exact (But.refl [] w8).alloc _
  have t1 := new_range w8 (Nm.tv V) 28
  rw [← hw9, ← hb12] at t1
  have HX5 := Nm.hid (range_keep HX5.out t3 (by simp))
  have HD5 := Nm.hid (HD5.out.keep0 t3)
  have HE := Nm.hid (range_keep HE.out t3 (by simp))
  have HK := Nm.hid (HK.out.trans t3)
  have HX12 := Nm.hid t1
  clear t1 t3
  go_upto_region 9 with (refine Wh.wpList_store_newAt rfl 28 _ _ rfl w8.heap.size rfl (Nm.tv Nm.t0).toArray (Nm.tv V).toArray rfl rfl (Nm.iTab' _) (by rw [Nm.tvs, Nm.tvs]) (Nm.tv_all _) ?_)
  rw [← hw9, ← hb12]
  clear hw9 hb12
  have hcF := HE.out 1 _ rfl
  rw [Nat.zero_add] at hcF
  go_wp2_with fail
  refine (HRD.out _ HD5.out).mono ?_
  rintro e w10 ⟨A10, c10, rfl, d10, k10⟩
  have HX5 := Nm.hid (range_keep HX5.out k10 (by simp))
  have HD5 := Nm.hid (HD5.out.keep0 k10)
  have HE := Nm.hid (range_keep HE.out k10 (by simp))
  have HK := Nm.hid (HK.out.trans k10)
  have HX12 := Nm.hid (range_keep HX12.out k10 (by simp))
  have HD10 := Nm.hid d10
  have HRF : Hid (∀ wy, Nm.Dl wy 0 A n T → Calls Try.prog 14 #[.slice A n c, .int .i64 F] wy fun e w' => e = .returned (.int .i64 (Nm.fnT T F)) ∧ But [] wy w') := fun wy h => by
    have := Nm.rfind_c A n c 0 T F wy h HT5.out.le
    rwa [HT5.out.rf_eq] at this
  clear k10 d10 HRD hcF
  have hcF := HE.out 1 _ rfl
  rw [Nat.zero_add] at hcF
  go_wp2_with (first | (refine wpList_load_mid rfl 28 _ rfl b5 0 rfl (Nm.tv T) _ HX5.out Try.underlying28 rfl (Nm.iTab _) ?_))
  refine (Nm.find_c T HT5.out.ok F _).mono ?_
  rintro e w11 ⟨rfl, k11⟩
  have HX5 := Nm.hid (range_keep HX5.out k11 (by simp))
  have HD5 := Nm.hid (HD5.out.keep0 k11)
  have HE := Nm.hid (range_keep HE.out k11 (by simp))
  have HK := Nm.hid (HK.out.trans k11)
  have HX12 := Nm.hid (range_keep HX12.out k11 (by simp))
  have HD10 := Nm.hid (HD10.out.keep0 k11)
  clear k11 hcF
  generalize Nm.fnT T F = q at HRF ⊢
  obtain ⟨fa, fo, hp, hao⟩ := Nm.Pr_cases q
  rw [hp]
  have HAO := Nm.hid hao
  clear hp hao
  have hcF := HE.out 1 _ rfl
  rw [Nat.zero_add] at hcF
  go_wp2_with fail
  refine (HRF.out _ HD5.out).mono ?_
  rintro e w12 ⟨rfl, k12⟩
  have HX5 := Nm.hid (range_keep HX5.out k12 (by simp))
  have HD5 := Nm.hid (HD5.out.keep0 k12)
  have HE := Nm.hid (range_keep HE.out k12 (by simp))
  have HK := Nm.hid (HK.out.trans k12)
  have HX12 := Nm.hid (range_keep HX12.out k12 (by simp))
  have HD10 := Nm.hid (HD10.out.keep0 k12)
  clear k12 hcF HRF
  go_upto_region 12 with fail
  go_cut [113] (fun s113 wx => s113 = .bool false ∧ wx = w12)
  case first =>
    rcases HAO.out with ⟨h0, rfl, rfl⟩ | ⟨h0, rfl, rfl⟩
    · go_wp2
      go_meet
      exact ⟨rfl, rfl⟩
    · have hd : decide (0 ≤ q) = false := decide_eq_false (by omega)
      go_wp2
      go_meet
      exact ⟨rfl, rfl⟩
  case rest =>
  obtain ⟨rfl, rfl⟩ := hcut
  go_wp2_with (first | (refine wpList_load_mid rfl 28 _ rfl b12 0 rfl (Nm.tv V) _ HX12.out Try.underlying28 rfl (Nm.iTab _) ?_))
  refine (Nm.lsame_c A10 n c10 0 V HV.out _ HD10.out).mono ?_
  rintro e w13 ⟨rfl, k13⟩
  have HX5 := Nm.hid (range_keep HX5.out k13 (by simp))
  have HD5 := Nm.hid (HD5.out.keep0 k13)
  have HE := Nm.hid (range_keep HE.out k13 (by simp))
  have HK := Nm.hid (HK.out.trans k13)
  clear k13 HD10 HX12
  go_wp2_with (first | (refine wpList_load_mid_g 28 _ rfl b5 0 rfl (Nm.tv T) _ HX5.out Try.underlying28 rfl (Nm.iTab _) rfl ?_))
  refine (Nm.lsame_c A n c 0 T HT5.out _ HD5.out).mono ?_
  rintro e w14 ⟨rfl, k14⟩
  have HK := Nm.hid (HK.out.trans k14)
  clear k14
  go_wp2_with fail
  refine (Nm.awake_c _).mono ?_
  rintro e w15 ⟨rfl, k15⟩
  have HK := Nm.hid (HK.out.trans k15)
  clear k15
  go_wp2
  go_ret
  exact ⟨rfl, HK.out.below (Nat.le_refl _) (by simp)⟩

set_option maxRecDepth 100000 in
theorem lifted (os : Os) (started : os.Started) (H : Type) (enc : TypeId × Value → H) :
    ReturnsInHanded {} Try.checked os 3 .any (Rows.namesPlaySpec.pre6 enc Try.prog Try.f3 Rows.namesPlayRow.domain false) (Rows.namesPlaySpec.post enc Try.prog Try.f3 false true false false) := by
  refine returnsInHanded_of_change (C := Try.checked) own started (by kernel_rfl) Try.func3
    (ChangeSpec.witness6 (enc := enc) (C := Try.checked) false ⟨#[], #[.slice none 0 0, .agg #[.int .i64 0, .int .i64 0]], []⟩ 8 (by kernel_rfl) (by kernel_rfl) (by kernel_rfl) (by kernel_rfl)) ?_
  intro W base args ds gs before hval0 hW hcnd _
  have hval : ∀ (j : Nat) t v, Try.f3.params[j]? = some t → args[j]? = some v → Value.okWide Try.prog W .any base t v := hval0
  have hW' := hW
  obtain ⟨p, q, hA0, hV, rfl, hfz, hnd⟩ := hW
  have hA : DataW.TrodAll enc Try.prog W 0 (fun _ => true) true Try.f3.params.toList args.toList ds p := hA0
  rw [Try.params3] at hA hval
  obtain ⟨v0, vs0, d0, ds0, p0, q0, hargs, rfl, rfl, h0, t0⟩ := trodAll_cons hA
  obtain ⟨v1, vs1, d1, ds1, p1, q1, rfl, rfl, rfl, h1, t1⟩ := trodAll_cons t0
  obtain ⟨rfl, rfl, rfl⟩ := trodAll_nil t1
  obtain rfl : args = #[v0, v1] := by cases args; simp_all
  obtain ⟨rfl, rfl⟩ := trodVars_none hV
  have k0 := h0
  have lt0 : ∀ x ∈ p0, x.block < W.heap.size := by obtain ⟨m, hm⟩ := k0; exact DataW.trod_lt m _ _ _ hm
  have k1 := h1
  have lt1 : ∀ x ∈ p1, x.block < W.heap.size := by obtain ⟨m, hm⟩ := k1; exact DataW.trod_lt m _ _ _ hm
  obtain ⟨A0, len0, cap0, rfl⟩ := okWide_slice Try.underlying22 (hval 0 22 v0 rfl rfl)
  have r0 := rowOf_open Try.underlying22 flatDeed (by decide) h0
  obtain ⟨c1, rfl, -⟩ := okWide_struct Try.underlying24 (hval 1 24 v1 rfl rfl)
  have f1 := agg_open flatDeed h1
  clear hA0 hval0
  refine (walk W A0 len0 cap0 r0 c1 f1).mono fun e W' ⟨he, hg⟩ => ?_
  subst he
  exact ⟨_, rfl, _, _, _, [], _, [], hW', (trodAll_cons_mk (shut_bool Try.underlying4 _) trodAll_mk0), (trodAll_cons_mk (Below.trod laidOut (by kernel_rfl) (of_decide_eq_true (by kernel_rfl)) k0 hg lt0) (trodAll_cons_mk (Below.trod laidOut (by kernel_rfl) (of_decide_eq_true (by kernel_rfl)) k1 hg lt1) trodAll_mk0)), rfl, hg.frame _, (fun h => by cases h)⟩

theorem over : Rows.namesPlayRow.holds Try.pinned (OpenSpec.ofChange Rows.namesPlaySpec) :=
  OpenClaim.holds_of_wide 3 Try.f3 rfl rfl rfl rfl rfl rfl rfl ⟨rfl, rfl, rfl, rfl, rfl⟩ rfl rfl rfl rfl rfl (by kernel_rfl) Try.func3 (by kernel_rfl)
    (of_decide_eq_true (by kernel_rfl)) (by unfold Func.isWrapper; first | (rw [if_pos (by decide +kernel)]; kernel_rfl) | (rw [if_neg (by decide +kernel)]; exact ⟨rfl, rfl⟩))
    (fun os started H enc _ => lifted os started H enc)
end Go.Proofs.Ytfjkbfcfceckgaa.namesPlay
namespace Go.Proofs.Ytfjkbfcfceckgaa
/-- The statement, by its short name. -/
theorem namesPlay_holds : Rows.NamesPlaySaid := namesPlay.over
#print axioms namesPlay_holds
end Go.Proofs.Ytfjkbfcfceckgaa
