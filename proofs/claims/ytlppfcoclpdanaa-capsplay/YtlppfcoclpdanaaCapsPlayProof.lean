/-
  Whatever the input, the Go function CapsPlay answers true, and its arguments read behind the call as they read before. No condition.
-/
import Derived.Test.YtlppfcoclpdanaaRows
import Derived.Test.YtlppfcoclpdanaaCsFlat
import Derived.Test.YtlppfcoclpdanaaCsNew
import Derived.Test.YtlppfcoclpdanaaCsRefN
import Derived.Test.YtlppfcoclpdanaaCsDoes
import Derived.Test.YtlppfcoclpdanaaCsSame
import Derived.Test.YtlppfcoclpdanaaCsAwake
import Derived.WalkKit
import Derived.Deep.LoopGhost
import Derived.Deep.CutBlock
import Derived.Deep.CutRange
import Derived.ProofKit
import Derived.OpenShut
import Derived.ShutString
import Derived.ChangeOld
import Derived.Below
import Derived.Carry
namespace Go.Proofs.Ytlppfcoclpdanaa.capsPlay
open Go.ChangeShapes Go.WideShapes Go.ChangeAt Go.RowKit
open Go.ChangeMaps (open_string shut_string)
set_option linter.unusedVariables false

theorem own : ownKnob Try.prog.godebug = none := by kernel_rfl
theorem laidOut : laidOutB Try.prog = true := by kernel_rfl

set_option maxHeartbeats 4000000 in
set_option maxRecDepth 100000 in
theorem walk (w : World) (a0 : Int) (w0 : (Lit.int .i64 a0).wf = true) (a1 : Int) (w1 : (Lit.int .i64 a1).wf = true) (A2 : Option Addr) (len2 cap2 : Nat) (r2 : RowOf ks_flatDeed w A2 len2 cap2) :
    Calls Try.prog 3 #[.int .i64 a0, .int .i64 a1, .slice A2 len2 cap2] w fun e w' => e = .returned (.bool true) ∧ Below w.heap.size w w' := by
  obtain ⟨hlc, hcm, hrow⟩ := r2
  have HR : Hid (len2 = 0 ∨ ∃ b off, A2 = some ⟨b, off, none⟩ ∧ b < w.heap.size ∧ ∀ i, i < len2 → ∃ vs, w.rangeAt b (off + i * 5) vs ∧ Fits ks_flatDeed vs) := hrow
  unfold maxLen at hcm
  clear hrow
  go_enter Try.func3, Try.ntmps3
  go_wp2_with fail
  refine (Sn.of_c a0 a1 w).mono ?_
  rintro e w1 ⟨A1, n1, c1, rfl, hs1, k1⟩
  have HS1 := Sn.hid hs1
  have HK1 := Sn.hid k1
  clear hs1 k1
  go_wp2_with fail
  refine (Cs.New_c A1 n1 c1 _ _ w1 HS1.out).mono ?_
  rintro e w2 ⟨bt, rfl, hbt, ht2, k2⟩
  have HBT : Hid (w.heap.size ≤ bt) := Nat.le_trans HK1.out.size hbt
  have HT2 : Hid (Cs.TrA w2 bt [bt] (Cs.T0 (Sn.one a0 a1)) 1) := ht2
  have HK2 := Sn.hid (HK1.out.trans k2)
  obtain ⟨Bc, hBc⟩ : ∃ Bc, Bc = w2.heap.size := ⟨_, rfl⟩
  have hb := new_range w2 [.int .i64 0, .int .u64 1] 26
  change (w2.alloc (.cells #[.int .i64 0, .int .u64 1] 26)).rangeAt _ _ _ at hb
  rw [← hBc] at hb
  have HC0 := Sn.hid (range_cells hb 0 _ rfl)
  have HC1 := Sn.hid (range_cells hb 1 _ rfl)
  have HK3 : Hid (But [] w2 (w2.alloc (.cells #[.int .i64 0, .int .u64 1] 26))) := (But.refl [] w2).alloc _
  clear hbt ht2 k2 hb
  go_upto_region 2 with fail
  rw [← hBc]
  have HT3 := Sn.hid (HT2.out.keep0 HK3.out)
  have HK3' := Sn.hid (HK2.out.trans HK3.out)
  clear hBc
  generalize w2.alloc (.cells #[.int .i64 0, .int .u64 1] 26) = w3 at *
  clear HT2 HK2 HK3 HS1 HK1
  go_wp2_with fail
  refine (Sn.rof_c a0 a1 w3).mono ?_
  rintro e w4 ⟨rfl, k4⟩
  have HK4 := Sn.hid k4
  clear k4
  go_wp2_with fail
  refine (Cs.rNew_c _ w4).mono ?_
  rintro e w5 ⟨bx, bl, rfl, hbx, hbl, hrf, k5⟩
  have HL0 : Hid (Cs.Lw w bt bx bl [] (Cs.T0 (Sn.one a0 a1)) 1 0 w5) :=
    ⟨Cs.Bo.new HT3.out (HK4.out.trans k5) (Nat.le_trans HK4.out.size hbx) (Nat.le_trans HK4.out.size hbl) hrf (Cs.new_wf (Sn.one_lim _ _)), Nat.le_refl _, (HK3'.out.trans HK4.out).trans k5, HBT.out, by have := HK3'.out.size; have := HK4.out.size; omega, by have := HK3'.out.size; have := HK4.out.size; omega⟩
  have hc0 := cell_keep HC0.out (HK4.out.trans k5) (by simp)
  have hc1 := cell_keep HC1.out (HK4.out.trans k5) (by simp)
  clear hbx hbl hrf k5 HT3 HK4 HK3' HBT HC0 HC1
  go_wp2
  clear hc0 hc1
  go_loopg [10] 30 (fun g0 iv wx => ∃ (i : Nat) (T : Cs.Tr) (m : Nat), i + g0 = 30 ∧ i ≤ len2 ∧ iv = .int .i64 i ∧ Hid (Cs.Lw w bt bx bl [] T m i wx))
  case atStart => exact ⟨0, _, _, by omega, Nat.zero_le _, rfl, HL0.out⟩
  case round =>
    obtain ⟨i, T, m, hig, hil, rfl, HS⟩ := hrel
    clear HL0
    by_cases hlt : i < len2
    · by_cases h100 : i < 30
      · obtain ⟨bA, off, rfl, hbl, hall⟩ : ∃ bA off, A2 = some ⟨bA, off, none⟩ ∧ bA < w.heap.size ∧ ∀ i, i < len2 → ∃ vs, w.rangeAt bA (off + i * 5) vs ∧ Fits ks_flatDeed vs := by
          rcases HR.out with h | h
          · omega
          · exact h
        obtain ⟨vs, hr, hfit⟩ := hall i hlt
        obtain ⟨K, at_, F, To, G, rfl⟩ := deed_of hfit
        have HRE := Sn.hid (Cs.range_below hr HS.out.but)
        clear hall hr hfit
        have hilt : (i : Int) < (len2 : Int) := by omega
        go_wp2_with (first
          | (refine wpList_load_mid rfl 40 _ rfl bA (off + i * 5) rfl [.int .i64 K, .int .i64 at_, .int .i64 F, .int .i64 To, .int .u64 G] _ HRE.out Try.underlying40 rfl infoDeed ?_)
          | fail)
        refine (Cs.does_c bt bx bl m T K at_ F To G wr HS.out.bo (by have := HS.out.le; omega)).mono ?_
        rintro e w6 ⟨rfl, T', m', hb6, hs6, k6⟩
        have HS6 := Sn.hid (HS.out.step hb6 hs6.1 k6)
        clear hb6 hs6 k6
        go_wp2_with fail
        refine (Cs.tsame_c bt bx bl m' T' w6 HS6.out.bo).mono ?_
        rintro e w7 ⟨rfl, k7⟩
        have HS7 := Sn.hid (HS6.out.keep k7)
        clear k7
        go_wp2
        go_roundg (30 - (i + 1))
        case measure => omega
        case rel => exact ⟨i + 1, T', m', by omega, by omega, by go_num, HS7.out⟩
      · obtain rfl : i = 30 := by omega
        go_wp2_with fail
        refine (Cs.awake_c _).mono ?_
        rintro e w8 ⟨rfl, k8⟩
        have hE8 := Sn.hid (HS.out.but.trans k8)
        clear k8
        go_wp2
        go_ret
        exact ⟨rfl, hE8.out.below (Nat.le_refl _) (by simp)⟩
    · obtain rfl : i = len2 := by omega
      go_wp2_with fail
      refine (Cs.awake_c _).mono ?_
      rintro e w8 ⟨rfl, k8⟩
      have hE8 := Sn.hid (HS.out.but.trans k8)
      clear k8
      go_wp2
      go_ret
      exact ⟨rfl, hE8.out.below (Nat.le_refl _) (by simp)⟩

set_option maxRecDepth 100000 in
theorem lifted (os : Os) (started : os.Started) (H : Type) (enc : TypeId × Value → H) :
    ReturnsInHanded {} Try.checked os 3 .any (Rows.capsPlaySpec.pre6 enc Try.prog Try.f3 Rows.capsPlayRow.domain false) (Rows.capsPlaySpec.post enc Try.prog Try.f3 false true false false) := by
  refine returnsInHanded_of_change (C := Try.checked) own started (by kernel_rfl) Try.func3
    (ChangeSpec.witness6 (enc := enc) (C := Try.checked) false ⟨#[], #[.int .i64 0, .int .i64 0, .slice none 0 0], []⟩ 8 (by kernel_rfl) (by kernel_rfl) (by kernel_rfl) (by kernel_rfl)) ?_
  intro W base args ds gs before hval0 hW hcnd _
  have hval : ∀ (j : Nat) t v, Try.f3.params[j]? = some t → args[j]? = some v → Value.okWide Try.prog W .any base t v := hval0
  have hW' := hW
  obtain ⟨p, q, hA0, hV, rfl, hfz, hnd⟩ := hW
  have hA : DataW.TrodAll enc Try.prog W 0 (fun _ => true) true Try.f3.params.toList args.toList ds p := hA0
  rw [Try.params3] at hA hval
  obtain ⟨v0, vs0, d0, ds0, p0, q0, hargs, rfl, rfl, h0, t0⟩ := trodAll_cons hA
  obtain ⟨v1, vs1, d1, ds1, p1, q1, rfl, rfl, rfl, h1, t1⟩ := trodAll_cons t0
  obtain ⟨v2, vs2, d2, ds2, p2, q2, rfl, rfl, rfl, h2, t2⟩ := trodAll_cons t1
  obtain ⟨rfl, rfl, rfl⟩ := trodAll_nil t2
  obtain rfl : args = #[v0, v1, v2] := by cases args; simp_all
  obtain ⟨rfl, rfl⟩ := trodVars_none hV
  have k0 := h0
  have lt0 : ∀ x ∈ p0, x.block < W.heap.size := by obtain ⟨m, hm⟩ := k0; exact DataW.trod_lt m _ _ _ hm
  have k1 := h1
  have lt1 : ∀ x ∈ p1, x.block < W.heap.size := by obtain ⟨m, hm⟩ := k1; exact DataW.trod_lt m _ _ _ hm
  have k2 := h2
  have lt2 : ∀ x ∈ p2, x.block < W.heap.size := by obtain ⟨m, hm⟩ := k2; exact DataW.trod_lt m _ _ _ hm
  obtain ⟨a0, rfl, rfl, rfl, w0⟩ := open_int Try.underlying3 (hval 0 3 v0 rfl rfl) h0
  obtain ⟨a1, rfl, rfl, rfl, w1⟩ := open_int Try.underlying3 (hval 1 3 v1 rfl rfl) h1
  obtain ⟨A2, len2, cap2, rfl⟩ := okWide_slice Try.underlying22 (hval 2 22 v2 rfl rfl)
  have r2 := rowOf_open Try.underlying22 flatDeed (by decide) h2
  clear hA0 hval0
  refine (walk W a0 w0 a1 w1 A2 len2 cap2 r2).mono fun e W' ⟨he, hg⟩ => ?_
  subst he
  exact ⟨_, rfl, _, _, _, [], _, [], hW', (trodAll_cons_mk (shut_bool Try.underlying4 _) trodAll_mk0), (trodAll_cons_mk (Below.trod laidOut (by kernel_rfl) (of_decide_eq_true (by kernel_rfl)) k0 hg lt0) (trodAll_cons_mk (Below.trod laidOut (by kernel_rfl) (of_decide_eq_true (by kernel_rfl)) k1 hg lt1) (trodAll_cons_mk (Below.trod laidOut (by kernel_rfl) (of_decide_eq_true (by kernel_rfl)) k2 hg lt2) trodAll_mk0))), rfl, hg.frame _, (fun h => by cases h)⟩

theorem over : Rows.capsPlayRow.holds Try.pinned (OpenSpec.ofChange Rows.capsPlaySpec) :=
  OpenClaim.holds_of_wide 3 Try.f3 rfl rfl rfl rfl rfl rfl rfl ⟨rfl, rfl, rfl, rfl, rfl⟩ rfl rfl rfl rfl rfl (by kernel_rfl) Try.func3 (by kernel_rfl)
    (of_decide_eq_true (by kernel_rfl)) (by unfold Func.isWrapper; first | (rw [if_pos (by decide +kernel)]; kernel_rfl) | (rw [if_neg (by decide +kernel)]; exact ⟨rfl, rfl⟩))
    (fun os started H enc _ => lifted os started H enc)
end Go.Proofs.Ytlppfcoclpdanaa.capsPlay
namespace Go.Proofs.Ytlppfcoclpdanaa
/-- The statement, by its short name. -/
theorem capsPlay_holds : Rows.CapsPlaySaid := capsPlay.over
#print axioms capsPlay_holds
end Go.Proofs.Ytlppfcoclpdanaa
