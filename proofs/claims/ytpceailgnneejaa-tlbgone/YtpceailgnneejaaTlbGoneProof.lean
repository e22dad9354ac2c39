/-
  Whatever the input, the Go function TlbGone answers true, and its arguments read behind the call as they read before. No condition.
-/
import Derived.Test.YtpceailgnneejaaRows
import Derived.Test.YtpceailgnneejaaTlGone
import Derived.WalkKit
import Derived.Deep.LoopGhost
import Derived.Deep.CutBlock
import Derived.Deep.DeepCutAuto
import Derived.ProofKit
import Derived.OpenShut
import Derived.ShutString
import Derived.ChangeOld
import Derived.Below
import Derived.Carry
namespace Go.Proofs.Ytpceailgnneejaa.tlbGone
open Go.ChangeShapes Go.WideShapes Go.ChangeAt Go.RowKit
open Go.ChangeMaps (open_string shut_string)
set_option linter.unusedVariables false

theorem own : ownKnob Try.prog.godebug = none := by kernel_rfl
theorem laidOut : laidOutB Try.prog = true := by kernel_rfl

set_option maxHeartbeats 4000000 in
set_option maxRecDepth 100000 in
theorem walk (w : World) (A0 : Option Addr) (len0 cap0 : Nat) (r0 : RowOf ks_flatDeed w A0 len0 cap0) (a1 : Int) (w1 : (Lit.int .i64 a1).wf = true) :
    Calls Try.prog 4 #[.slice A0 len0 cap0, .int .i64 a1] w fun e w' => e = .returned (.bool true) ∧ Below w.heap.size w w' := by
  obtain ⟨hlc, hcm, hrow⟩ := r0
  have HR : Hid (len0 = 0 ∨ ∃ b off, A0 = some ⟨b, off, none⟩ ∧ b < w.heap.size ∧ ∀ i, i < len0 → ∃ vs, w.rangeAt b (off + i * 5) vs ∧ Fits ks_flatDeed vs) := hrow
  unfold maxLen at hcm
  clear hrow w1
  have hz := ztlb_zero
  obtain ⟨bt, hbt⟩ : ∃ bt, bt = w.heap.size := ⟨_, rfl⟩
  have H0 : Hid (TlbAt (w.alloc (.cells ztlb 28)) bt [] 0) := by show TlbAt _ _ _ _; rw [hbt]; exact tlb_new w
  have HK : Hid (∀ w', But [bt] w w' → Below w.heap.size w w') := by
    show ∀ w', _ → _
    intro w' h
    exact h.below (Nat.le_refl _) (by simp; omega)
  have HBW : Hid (w.heap.size ≤ bt) := by show _ ≤ bt; omega
  go_enter Try.func4, Try.ntmps4
  go_upto_block 0 with fail
  rw [← hbt]
  have K0 : Hid (But [bt] w (w.alloc (.cells ztlb 28))) := (But.refl _ _).alloc _
  clear hbt hz
  generalize w.alloc (.cells ztlb 28) = w0 at H0 K0 ⊢
  go_cut [6] (fun s6 wx => ∃ (L : List En), TlbAt wx bt L 0 ∧ Dis L ∧ But [bt] w wx)
  case first =>
    go_wp2_with fail
    go_loopg [6] 60 (fun g2 i wx => ∃ (m : Nat) (L : List En), m + g2 = 60 ∧ m ≤ len0 ∧ i = .int .i64 m ∧ Hid (TlbAt wx bt L 0) ∧ Hid (Dis L) ∧ Hid (But [bt] w wx))
    case atStart => exact ⟨0, [], by omega, Nat.zero_le _, rfl, H0, List.Pairwise.nil, K0⟩
    case round =>
      obtain ⟨m, L, hmg, hml, rfl, HT, HD, HB⟩ := hrel
      clear H0 K0
      by_cases hgo : m < len0 ∧ m < 60
      · obtain ⟨hlt, h60⟩ := hgo
        have hex : ∃ b off, A0 = some ⟨b, off, none⟩ ∧ b < w.heap.size ∧ ∀ i, i < len0 → ∃ vs, w.rangeAt b (off + i * 5) vs ∧ Fits ks_flatDeed vs := by
          rcases HR.out with h | h
          · omega
          · exact h
        obtain ⟨b, off, hA, hbl, hall⟩ := hex
        obtain ⟨vs, hr, hfit⟩ := hall m hlt
        obtain ⟨K, S, P, F, W, rfl⟩ := deed_of hfit
        have hbb : b ≠ bt := by have := HBW.out; omega
        have hr2 := range_keep hr HB.out (by simpa using hbb)
        have HRE : Hid (wr.rangeAt b (off + m * 5 + 1) [.int .i64 S, .int .i64 P, .int .i64 F, .bool W]) := fun j v hv => by
          have := hr2 (j + 1) v (by simpa using hv)
          rwa [show off + m * 5 + (j + 1) = off + m * 5 + 1 + j by omega] at this
        subst hA
        clear hall hr hfit hr2
        have hmlt : (m : Int) < (len0 : Int) := by omega
        go_wp2_with (first
          | (refine wpList_load_mid rfl 30 _ rfl b (off + m * 5 + 1) rfl [.int .i64 S, .int .i64 P, .int .i64 F, .bool W] _ HRE.out Try.underlying30 rfl Try.sizeREntry ?_))
        refine (entry_c S P F W _).mono ?_
        rintro e w1 ⟨rfl, k1⟩
        have HT1 : Hid (TlbAt w1 bt L 0) := HT.out.keep k1 (by simp)
        have HB1 : Hid (But [bt] w w1) := HB.out.trans (k1.any _)
        clear k1 HT HB HRE
        go_wp2_with fail
        refine (put_c bt L 0 S P F W _ HT1.out).mono ?_
        rintro e w2 ⟨rfl, h2, k2⟩
        obtain ⟨L2, hL2⟩ : ∃ L2, L2 = putL L ⟨S, P, F, W⟩ := ⟨_, rfl⟩
        rw [← hL2] at h2
        have HT2 : Hid (TlbAt w2 bt L2 0) := h2
        have HB2 : Hid (But [bt] w w2) := HB1.out.trans k2
        have HD2 : Hid (Dis L2) := by show Dis L2; rw [hL2]; exact HD.out.put _
        have hl28 : (L2.length : Int) ≤ 8 := by have := h2.most; omega
        clear h2 k2 hL2 HT1 HB1
        go_wp2_with fail
        refine (all_c bt L2 0 _ HT2.out).mono ?_
        rintro e w3 ⟨A3, rfl, e3, k3⟩
        have HT3 : Hid (TlbAt w3 bt L2 0) := HT2.out.keep k3 (by simp)
        have HB3 : Hid (But [bt] w w3) := HB2.out.trans (k3.any _)
        clear e3 k3 HT2 HB2
        go_wp2
        go_roundg (60 - (m + 1))
        case measure => omega
        case rel => exact ⟨m + 1, L2, by omega, by omega, by go_num, HT3, HD2, HB3⟩
      · by_cases hlt : m < len0
        · obtain rfl : m = 60 := by omega
          go_wp2
          go_meet
          case rel => exact ⟨L, HT.out, HD.out, HB.out⟩
        · go_wp2
          go_meet
          case rel => exact ⟨L, HT.out, HD.out, HB.out⟩
  case rest =>
    obtain ⟨L, ht, hd, hb⟩ := hcut
    have HT : Hid (TlbAt wc bt L 0) := ht
    have HD : Hid (Dis L) := hd
    have HB : Hid (But [bt] w wc) := hb
    have hl8 := ht.most
    have hbl := ht.lt
    clear ht hd hb H0 K0
    obtain ⟨n, hn⟩ : ∃ n, n = L.length := ⟨_, rfl⟩
    have HN : Hid (n = L.length) := hn
    rw [← hn] at hl8
    clear hn
    go_wp2_with fail
    refine (all_c bt L 0 _ HT.out).mono ?_
    rintro e w1 ⟨A1, rfl, e1, k1⟩
    rw [← HN.out]
    have HE1 : Hid (Ens w1 (bt + 1) A1 L) := e1.lower hbl
    have HT1 : Hid (TlbAt w1 bt L 0) := HT.out.keep k1 (by simp)
    have HB1 : Hid (But [bt] w w1) := HB.out.trans (k1.any _)
    clear e1 k1 HT HB hbl
    go_wp2_with fail
    refine (dropFrame_c bt L 0 a1 _ HT1.out).mono ?_
    rintro e w2 ⟨rfl, h2, k2⟩
    obtain ⟨R, hR⟩ : ∃ R, R = stay (ofF a1) L := ⟨_, rfl⟩
    have HRR : Hid (stay (ofF a1) L = R) := hR.symm
    rw [← hR] at h2 ⊢
    rw [← HN.out]
    obtain ⟨sl, hsl⟩ : ∃ sl, sl = R.length := ⟨_, rfl⟩
    have HSL : Hid (sl = R.length) := hsl
    have hsn : sl ≤ n := by rw [hsl, HN.out, hR]; exact stay_len _ _
    rw [← hsl]
    clear hsl
    have HT2 : Hid (TlbAt w2 bt R 0) := h2
    have HE2 : Hid (Ens w2 (bt + 1) A1 L) := HE1.out.keep k2 (by simp)
    have HB2 : Hid (But [bt] w w2) := HB1.out.trans k2
    clear h2 k2 hR HT1 HE1 HB1
    go_wp2_with fail
    refine (all_c bt R 0 _ HT2.out).mono ?_
    rintro e w3 ⟨A2, rfl, e3, k3⟩
    rw [← HSL.out]
    have HF3 : Hid (Ens w3 0 A2 R) := e3.lower (Nat.zero_le _)
    have HT3 : Hid (TlbAt w3 bt R 0) := HT2.out.keep k3 (by simp)
    have HE3 : Hid (Ens w3 0 A1 L) := (HE2.out.keep k3 (by simp)).lower (Nat.zero_le _)
    have HB3 : Hid (But [bt] w w3) := HB2.out.trans (k3.any _)
    clear e3 k3 HT2 HE2 HB2
    go_wp2
    go_loopg [8, 10, 11] n (fun g0 nv kv iv wx => ∃ (m kk : Nat) (z : Int), m + g0 = n ∧ iv = .int .i64 m ∧ kv = .int .i64 kk ∧ nv = .int .i64 z ∧ Hid (kk = (stay (ofF a1) (L.take m)).length) ∧ Hid (z = (n : Int) - sl - (m - kk)) ∧ kk ≤ m ∧ Hid (But [] w3 wx))
    case atStart => exact ⟨0, 0, _, by omega, rfl, rfl, rfl, by show 0 = _; simp [stay], by show _ = _; simp, Nat.le_refl _, But.refl _ _⟩
    case round =>
      obtain ⟨m, kk, z, hmg, rfl, rfl, rfl, HKK, HZ, hkm, HX⟩ := hrel
      obtain ⟨wo, rfl⟩ : ∃ wo, wo = wr := ⟨_, rfl⟩
      have hz1 : -100 ≤ z := by have := HZ.out; omega
      have hz2 : z ≤ 100 := by have := HZ.out; omega
      by_cases hlt : m < n
      · have hml : m < L.length := by have := HN.out; omega
        obtain ⟨b1, o1, hA1, -, -, hr1⟩ := (HE3.out.keep HX.out (by simp)).at_ hml
        obtain ⟨e0, he0⟩ : ∃ e, e = L.getD m en0 := ⟨_, rfl⟩
        have q1 := hr1 m hml
        rw [← he0] at q1
        have HE : Hid (L.getD m en0 = e0) := he0.symm
        obtain ⟨es, ep, ef, ew⟩ := e0
        obtain ⟨c0, c1, c2, c3⟩ := four_cells q1
        have HRO : Hid (∀ j, j < L.length → wo.rangeAt b1 (o1 + j * 4) (L.getD j en0).vs) := hr1
        subst hA1
        clear he0 q1 hr1
        go_wp2
        go_loopg [12] m (fun g1 jv wy => ∃ j : Nat, j + g1 = m ∧ jv = .int .i64 j ∧ Hid (But [] wo wy))
        case atStart => exact ⟨0, by omega, rfl, But.refl _ _⟩
        case round =>
          obtain ⟨j, hjm, rfl, HY⟩ := hrel
          by_cases hj : j < m
          · have hjl : j < L.length := by omega
            have q2 := range_keep (HRO.out j hjl) HY.out (by simp)
            obtain ⟨f0, hf0⟩ : ∃ e, e = L.getD j en0 := ⟨_, rfl⟩
            rw [← hf0] at q2
            have hdis := HD.out.get hj hml
            rw [HE.out, ← hf0] at hdis
            obtain ⟨fs, fp, ff, fw⟩ := f0
            obtain ⟨d0, d1, d2, d3⟩ := four_cells q2
            have k0 := cell_keep c0 HY.out (by simp)
            have k1 := cell_keep c1 HY.out (by simp)
            have HDI : Hid (¬ (es = fs ∧ ep = fp)) := hdis
            have hmn : (m : Int) < (n : Int) := by omega
            have hjn : (j : Int) < (n : Int) := by omega
            clear q2 hf0 hdis d2 d3
            by_cases hss : es = fs
            · have hpp : ¬ ep = fp := fun h => HDI.out ⟨hss, h⟩
              have hpd : decide (ep = fp) = false := by simp [hpp]
              subst hss
              go_wp2
              go_quiet (fail)
              go_wp2
              go_roundg (m - (j + 1))
              case measure => omega
              case rel => exact ⟨j + 1, by omega, by go_num, HY.out.drewN _⟩
            · have hsd : decide (es = fs) = false := by simp [hss]
              go_wp2
              go_quiet (fail)
              go_wp2
              go_roundg (m - (j + 1))
              case measure => omega
              case rel => exact ⟨j + 1, by omega, by go_num, HY.out.drewN _⟩
          · obtain rfl : j = m := by omega
            have k2 := cell_keep c2 HY.out (by simp)
            have hjn : (j : Int) < (n : Int) := by omega
            by_cases hfe : ef = a1
            · replace hfe := hfe.symm
              subst hfe
              have HKK2 : Hid (kk = (stay (ofF a1) (L.take (j + 1))).length) := by show kk = _; rw [stay_loses _ L j hml _ HE.out (by simp [ofF])]; exact HKK.out
              go_wp2
              go_roundg (n - (j + 1))
              case measure => omega
              case rel => exact ⟨j + 1, kk, z - 1, by omega, by go_num, rfl, by go_num, HKK2, by show _ = _; have := HZ.out; omega, by omega, HX.out.trans HY.out⟩
            · have hgf : ofF a1 ⟨es, ep, ef, ew⟩ = false := by simp [ofF, hfe]
              have HKK2 : Hid (kk + 1 = (stay (ofF a1) (L.take (j + 1))).length) := by show kk + 1 = _; rw [stay_keeps _ L j hml _ HE.out hgf, List.length_append, ← HKK.out]; rfl
              obtain ⟨hk1, hk2⟩ := stay_at (ofF a1) L j hml _ HE.out hgf
              rw [HRR.out, ← HKK.out] at hk1 hk2
              have hks : kk < sl := by rw [HSL.out]; exact hk1
              have hksi : (kk : Int) < (sl : Int) := by omega
              obtain ⟨b2, o2, hA2, -, -, hr2⟩ := ((HF3.out.keep HX.out (by simp)).keep HY.out (by simp)).at_ hk1
              have q3 := hr2 kk hk1
              rw [hk2] at q3
              obtain ⟨d0, d1, d2, d3⟩ := four_cells q3
              have k0 := cell_keep c0 HY.out (by simp)
              have k1 := cell_keep c1 HY.out (by simp)
              have k3 := cell_keep c3 HY.out (by simp)
              have heq := eqEntry es ep ef ew
              subst hA2
              clear hr2 q3 hk1 hk2 hgf
              go_wp2
              go_quiet (fail)
              go_wp2
              go_roundg (n - (j + 1))
              case measure => omega
              case rel => exact ⟨j + 1, kk + 1, z, by omega, by go_num, by go_num, rfl, HKK2, by show _ = _; have := HZ.out; omega, by omega, (HX.out.trans HY.out).drewN _⟩
      · obtain rfl : m = n := by omega
        have ekk : kk = sl := by have := HKK.out; rw [HN.out, List.take_length, HRR.out, ← HSL.out] at this; exact this
        have ez : z = 0 := by have := HZ.out; omega
        subst ekk
        subst ez
        have HB4 : Hid (But [bt] w wo) := HB3.out.trans (HX.out.any _)
        go_wp2_with fail
        refine (dropFrame_c bt R 0 a1 _ (HT3.out.keep HX.out (by simp))).mono ?_
        rintro e w5 ⟨rfl, h5, k5⟩
        rw [show ((R.length : Int) - ((stay (ofF a1) R).length : Int)) = 0 by rw [← HRR.out, stay_stay]; omega]
        have HB5 : Hid (But [bt] w w5) := HB4.out.trans k5
        clear h5 k5
        go_wp2_with fail
        refine (awake_c _).mono ?_
        rintro e w8 ⟨rfl, k8⟩
        have hE8 : Hid (But [bt] w w8) := HB5.out.trans (k8.any _)
        clear k8
        go_wp2
        go_ret
        exact ⟨rfl, HK.out _ hE8.out⟩

set_option maxRecDepth 100000 in
theorem lifted (os : Os) (started : os.Started) (H : Type) (enc : TypeId × Value → H) :
    ReturnsInHanded {} Try.checked os 4 .any (Rows.tlbGoneSpec.pre6 enc Try.prog Try.f4 Rows.tlbGoneRow.domain false) (Rows.tlbGoneSpec.post enc Try.prog Try.f4 false true false false) := by
  refine returnsInHanded_of_change (C := Try.checked) own started (by kernel_rfl) Try.func4
    (ChangeSpec.witness6 (enc := enc) (C := Try.checked) false ⟨#[], #[.slice none 0 0, .int .i64 0], []⟩ 8 (by kernel_rfl) (by kernel_rfl) (by kernel_rfl) (by kernel_rfl)) ?_
  intro W base args ds gs before hval0 hW hcnd _
  have hval : ∀ (j : Nat) t v, Try.f4.params[j]? = some t → args[j]? = some v → Value.okWide Try.prog W .any base t v := hval0
  have hW' := hW
  obtain ⟨p, q, hA0, hV, rfl, hfz, hnd⟩ := hW
  have hA : DataW.TrodAll enc Try.prog W 0 (fun _ => true) true Try.f4.params.toList args.toList ds p := hA0
  rw [Try.params4] at hA hval
  obtain ⟨v0, vs0, d0, ds0, p0, q0, hargs, rfl, rfl, h0, t0⟩ := trodAll_cons hA
  obtain ⟨v1, vs1, d1, ds1, p1, q1, rfl, rfl, rfl, h1, t1⟩ := trodAll_cons t0
  obtain ⟨rfl, rfl, rfl⟩ := trodAll_nil t1
  obtain rfl : args = #[v0, v1] := by cases args; simp_all
  obtain ⟨rfl, rfl⟩ := trodVars_none hV
  have k0 := h0
  have lt0 : ∀ x ∈ p0, x.block < W.heap.size := by obtain ⟨m, hm⟩ := k0; exact DataW.trod_lt m _ _ _ hm
  have k1 := h1
  have lt1 : ∀ x ∈ p1, x.block < W.heap.size := by obtain ⟨m, hm⟩ := k1; exact DataW.trod_lt m _ _ _ hm
  obtain ⟨A0, len0, cap0, rfl⟩ := okWide_slice Try.underlying22 (hval 0 22 v0 rfl rfl)
  have r0 := rowOf_open Try.underlying22 flatDeed (by decide) h0
  obtain ⟨a1, rfl, rfl, rfl, w1⟩ := open_int Try.underlying3 (hval 1 3 v1 rfl rfl) h1
  clear hA0 hval0
  refine (walk W A0 len0 cap0 r0 a1 w1).mono fun e W' ⟨he, hg⟩ => ?_
  subst he
  exact ⟨_, rfl, _, _, _, [], _, [], hW', (trodAll_cons_mk (shut_bool Try.underlying4 _) trodAll_mk0), (trodAll_cons_mk (Below.trod laidOut (by kernel_rfl) (of_decide_eq_true (by kernel_rfl)) k0 hg lt0) (trodAll_cons_mk (Below.trod laidOut (by kernel_rfl) (of_decide_eq_true (by kernel_rfl)) k1 hg lt1) trodAll_mk0)), rfl, hg.frame _, (fun h => by cases h)⟩

theorem over : Rows.tlbGoneRow.holds Try.pinned (OpenSpec.ofChange Rows.tlbGoneSpec) :=
  OpenClaim.holds_of_wide 4 Try.f4 rfl rfl rfl rfl rfl rfl rfl ⟨rfl, rfl, rfl, rfl, rfl⟩ rfl rfl rfl rfl rfl (by kernel_rfl) Try.func4 (by kernel_rfl)
    (of_decide_eq_true (by kernel_rfl)) (by unfold Func.isWrapper; first | (rw [if_pos (by decide +kernel)]; kernel_rfl) | (rw [if_neg (by decide +kernel)]; exact ⟨rfl, rfl⟩))
    (fun os started H enc _ => lifted os started H enc)
end Go.Proofs.Ytpceailgnneejaa.tlbGone
namespace Go.Proofs.Ytpceailgnneejaa
/-- The statement, by its short name. -/
theorem tlbGone_holds : Rows.TlbGoneSaid := tlbGone.over
#print axioms tlbGone_holds
end Go.Proofs.Ytpceailgnneejaa
