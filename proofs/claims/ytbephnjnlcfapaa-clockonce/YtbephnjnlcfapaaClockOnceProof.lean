/-
  Whatever the input, the Go function ClockOnce answers true, and its arguments read behind the call as they read before. No condition.
-/
import Derived.Test.YtbephnjnlcfapaaRows
import Derived.Test.YtbephnjnlcfapaaClFlat
import Derived.WalkKit
import Derived.Deep.LoopGhost
import Derived.ProofKit
import Derived.OpenShut
import Derived.ShutString
import Derived.ChangeOld
import Derived.Below
import Derived.Carry
namespace Go.Proofs.Ytbephnjnlcfapaa.clockOnce
open Go.ChangeShapes Go.WideShapes Go.ChangeAt Go.RowKit
open Go.ChangeMaps (open_string shut_string)
set_option linter.unusedVariables false

theorem own : ownKnob Try.prog.godebug = none := by kernel_rfl
theorem laidOut : laidOutB Try.prog = true := by kernel_rfl

set_option maxHeartbeats 4000000 in
set_option maxRecDepth 100000 in
theorem walk (w : World) (a0 : Int) (w0 : (Lit.int .u64 a0).wf = true) (A1 : Option Addr) (len1 cap1 : Nat) (r1 : RowOf ks_flatU64 w A1 len1 cap1) :
    Calls Try.prog 4 #[.int .u64 a0, .slice A1 len1 cap1] w fun e w' => e = .returned (.bool true) ∧ Below w.heap.size w w' := by
  obtain ⟨hlc, hcm, hrow⟩ := r1
  have HR : Hid (len1 = 0 ∨ ∃ b off, A1 = some ⟨b, off, none⟩ ∧ b < w.heap.size ∧ ∀ i, i < len1 → ∃ vs, w.rangeAt b (off + i * 1) vs ∧ Fits ks_flatU64 vs) := hrow
  unfold maxLen at hcm
  clear hrow
  obtain ⟨g, hg⟩ : ∃ g, g = w.heap.size := ⟨_, rfl⟩
  have HA : Hid (Cl.Alm (w.alloc (.cells #[.pointer none] 45)) g (g + 1) false 0) := by
    show Cl.Alm _ _ _ _ _
    rw [hg]
    exact Cl.alm_new w _ (by omega) 0
  have HB : Hid (Below g w (w.alloc (.cells #[.pointer none] 45))) := by
    show Below _ _ _
    rw [hg]
    exact ((But.refl [] w).alloc _).below (Nat.le_refl _) (by simp)
  have HL : Hid (g + 1 ≤ (w.alloc (.cells #[.pointer none] 45)).heap.size) := by
    show _ ≤ _
    simp; omega
  rw [← hg] at HR ⊢
  go_enter Try.func4, Try.ntmps4
  go_wp2_with fail
  rw [← hg]
  generalize w.alloc (.cells #[.pointer none] 45) = w0 at HA HB HL ⊢
  clear hg
  refine (Cl.set_c g (g + 1) false 0 a0 _ HA.out HL.out).mono ?_
  rintro e w1 ⟨rfl, h1, k1, -⟩
  have HA1 : Hid (Cl.Alm w1 g (g + 1) true a0) := h1
  have HB1 : Hid (Below g w w1) := below_but HB.out k1 (by simp) (by have := HL.out; omega)
  clear h1 k1 HA HB HL
  go_wp2
  go_loopg [6, 7] 100 (fun g0 nv iv wx => ∃ (m : Nat) (st : Bool) (N : Int), m + g0 = 100 ∧ m ≤ len1 ∧ iv = .int .i64 m ∧ nv = .int .i64 N ∧ Hid (N = if st then 0 else 1) ∧ Hid (Cl.Alm wx g (g + 1) st a0) ∧ Hid (Below g w wx))
  case atStart => exact ⟨0, true, 0, by omega, Nat.zero_le _, rfl, rfl, rfl, HA1, HB1⟩
  case round =>
    obtain ⟨m, st, N, hmg, hml, rfl, rfl, HN, HA, HB⟩ := hrel
    clear HA1 HB1
    by_cases hlt : m < len1
    · by_cases h100 : m < 100
      · obtain ⟨b, off, rfl, hbl, hall⟩ : ∃ b off, A1 = some ⟨b, off, none⟩ ∧ b < g ∧ ∀ i, i < len1 → ∃ vs, w.rangeAt b (off + i * 1) vs ∧ Fits ks_flatU64 vs := by
          rcases HR.out with h | h
          · omega
          · exact h
        obtain ⟨vs, hr, hfit⟩ := hall m hlt
        obtain ⟨v, rfl⟩ := u64_of hfit
        have hc0 : w.cell? ⟨b, off + m, none⟩ = some (.int .u64 v) := by
          have := hr 0 _ rfl
          simpa using this
        have hc := below_cell HB.out hbl hc0
        have HC0 : Hid (w.cell? ⟨b, off + m, none⟩ = some (.int .u64 v)) := hc0
        clear hall hr hfit hc0
        have hmlt : (m : Int) < (len1 : Int) := by omega
        go_wp2_with fail
        refine (Cl.due_c g (g + 1) st a0 v _ HA.out).mono ?_
        rintro e w2 ⟨rfl, h2, l2, hl2, k2⟩
        have hgl : g < wr.heap.size := HA.out.lt
        have HB2 : Hid (Below g w w2) := below_but HB.out k2 (fun i hi => by have := (hl2 i hi).1; omega) (by omega)
        have HA2 : Hid (Cl.Alm w2 g (g + 1) (st && !decide (a0 ≤ v)) a0) := h2
        have hc2 := below_cell HB2.out hbl HC0.out
        clear h2 l2 hl2 k2 HA HB hc hgl HC0
        by_cases hav : a0 ≤ v
        · rw [decide_eq_true hav, Bool.not_true, Bool.and_false] at HA2
          rw [decide_eq_true hav, Bool.and_true]
          cases st
          · go_wp2
            go_roundg (100 - (m + 1))
            case measure => omega
            case rel => exact ⟨m + 1, false, N, by omega, by omega, by go_num, rfl, HN, HA2, HB2⟩
          · have hnv : decide (v < a0) = false := decide_eq_false (by omega)
            obtain rfl : N = 0 := HN.out
            go_wp2
            go_roundg (100 - (m + 1))
            case measure => omega
            case rel => exact ⟨m + 1, false, 1, by omega, by omega, by go_num, by go_num, rfl, HA2, HB2⟩
        · rw [decide_eq_false hav, Bool.not_false, Bool.and_true] at HA2
          rw [decide_eq_false hav, Bool.and_false]
          go_wp2
          go_roundg (100 - (m + 1))
          case measure => omega
          case rel => exact ⟨m + 1, st, N, by omega, by omega, by go_num, rfl, HN, HA2, HB2⟩
      · obtain rfl : m = 100 := by omega
        cases st <;> obtain rfl := HN.out
        all_goals
          go_wp2_with fail
          refine (Cl.off_c g (g + 1) _ a0 _ HA.out).mono ?_
          rintro e w2 ⟨rfl, h2, l2, hl2, k2⟩
          have hgl : g < wr.heap.size := HA.out.lt
          have HB2 : Hid (Below g w w2) := below_but HB.out k2 (fun i hi => by have := (hl2 i hi).1; omega) (by omega)
          have HA2 : Hid (Cl.Alm w2 g (g + 1) false a0) := h2
          clear h2 l2 hl2 k2 HA HB hgl
          go_wp2_with fail
          refine (Cl.off_c g (g + 1) _ a0 _ HA2.out).mono ?_
          rintro e w3 ⟨rfl, h3, l3, hl3, k3⟩
          have hgl : g < w2.heap.size := HA2.out.lt
          have HB3 : Hid (Below g w w3) := below_but HB2.out k3 (fun i hi => by have := (hl3 i hi).1; omega) (by omega)
          have HG3 : Hid (g ≤ w3.heap.size) := by have := k3.size; show g ≤ _; omega
          clear h3 l3 hl3 k3 HA2 HB2 hgl
          go_wp2_with fail
          refine (Cl.awake_c _).mono ?_
          rintro e w4 ⟨rfl, k4⟩
          have HB4 : Hid (Below g w w4) := below_but HB3.out k4 (by simp) HG3.out
          clear k4 HB3 HG3
          go_wp2
          go_ret
          exact ⟨rfl, HB4.out⟩
    · obtain rfl : m = len1 := by omega
      cases st <;> obtain rfl := HN.out
      all_goals
        go_wp2_with fail
        refine (Cl.off_c g (g + 1) _ a0 _ HA.out).mono ?_
        rintro e w2 ⟨rfl, h2, l2, hl2, k2⟩
        have hgl : g < wr.heap.size := HA.out.lt
        have HB2 : Hid (Below g w w2) := below_but HB.out k2 (fun i hi => by have := (hl2 i hi).1; omega) (by omega)
        have HA2 : Hid (Cl.Alm w2 g (g + 1) false a0) := h2
        clear h2 l2 hl2 k2 HA HB hgl
        go_wp2_with fail
        refine (Cl.off_c g (g + 1) _ a0 _ HA2.out).mono ?_
        rintro e w3 ⟨rfl, h3, l3, hl3, k3⟩
        have hgl : g < w2.heap.size := HA2.out.lt
        have HB3 : Hid (Below g w w3) := below_but HB2.out k3 (fun i hi => by have := (hl3 i hi).1; omega) (by omega)
        have HG3 : Hid (g ≤ w3.heap.size) := by have := k3.size; show g ≤ _; omega
        clear h3 l3 hl3 k3 HA2 HB2 hgl
        go_wp2_with fail
        refine (Cl.awake_c _).mono ?_
        rintro e w4 ⟨rfl, k4⟩
        have HB4 : Hid (Below g w w4) := below_but HB3.out k4 (by simp) HG3.out
        clear k4 HB3 HG3
        go_wp2
        go_ret
        exact ⟨rfl, HB4.out⟩

set_option maxRecDepth 100000 in
theorem lifted (os : Os) (started : os.Started) (H : Type) (enc : TypeId × Value → H) :
    ReturnsInHanded {} Try.checked os 4 .any (Rows.clockOnceSpec.pre6 enc Try.prog Try.f4 Rows.clockOnceRow.domain false) (Rows.clockOnceSpec.post enc Try.prog Try.f4 false true false false) := by
  refine returnsInHanded_of_change (C := Try.checked) own started (by kernel_rfl) Try.func4
    (ChangeSpec.witness6 (enc := enc) (C := Try.checked) false ⟨#[], #[.int .u64 0, .slice none 0 0], []⟩ 8 (by kernel_rfl) (by kernel_rfl) (by kernel_rfl) (by kernel_rfl)) ?_
  intro W base args ds gs before hval0 hW hcnd _
  have hval : ∀ (j : Nat) t v, Try.f4.params[j]? = some t → args[j]? = some v → Value.okWide Try.prog W .any base t v := hval0
  have hW' := hW
  obtain ⟨p, q, hA0, hV, rfl, hfz, hnd⟩ := hW
  have hA : DataW.TrodAll enc Try.prog W 0 (fun _ => true) true Try.f4.params.toList args.toList ds p := hA0
  rw [Try.params4] at hA hval
  obtain ⟨v0, vs0, d0, ds0, p0, q0, hargs, rfl, rfl, h0, t0⟩ := trodAll_cons hA
  obtain ⟨v1, vs1, d1, ds1, p1, q1, rfl, rfl, rfl, h1, t1⟩ := trodAll_cons t0
  obtain ⟨rfl, rfl, rfl⟩ := trodAll_nil t1
  obtain rfl : args = #[v0, v1] := by cases args; simp_all
  obtain ⟨rfl, rfl⟩ := trodVars_none hV
  have k0 := h0
  have lt0 : ∀ x ∈ p0, x.block < W.heap.size := by obtain ⟨m, hm⟩ := k0; exact DataW.trod_lt m _ _ _ hm
  have k1 := h1
  have lt1 : ∀ x ∈ p1, x.block < W.heap.size := by obtain ⟨m, hm⟩ := k1; exact DataW.trod_lt m _ _ _ hm
  obtain ⟨a0, rfl, rfl, rfl, w0⟩ := open_int Try.underlying27 (hval 0 27 v0 rfl rfl) h0
  obtain ⟨A1, len1, cap1, rfl⟩ := okWide_slice Try.underlying61 (hval 1 61 v1 rfl rfl)
  have r1 := rowOf_open Try.underlying61 flatU64 (by decide) h1
  clear hA0 hval0
  refine (walk W a0 w0 A1 len1 cap1 r1).mono fun e W' ⟨he, hg⟩ => ?_
  subst he
  exact ⟨_, rfl, _, _, _, [], _, [], hW', (trodAll_cons_mk (shut_bool Try.underlying4 _) trodAll_mk0), (trodAll_cons_mk (Below.trod laidOut (by kernel_rfl) (of_decide_eq_true (by kernel_rfl)) k0 hg lt0) (trodAll_cons_mk (Below.trod laidOut (by kernel_rfl) (of_decide_eq_true (by kernel_rfl)) k1 hg lt1) trodAll_mk0)), rfl, hg.frame _, (fun h => by cases h)⟩

theorem over : Rows.clockOnceRow.holds Try.pinned (OpenSpec.ofChange Rows.clockOnceSpec) :=
  OpenClaim.holds_of_wide 4 Try.f4 rfl rfl rfl rfl rfl rfl rfl ⟨rfl, rfl, rfl, rfl, rfl⟩ rfl rfl rfl rfl rfl (by kernel_rfl) Try.func4 (by kernel_rfl)
    (of_decide_eq_true (by kernel_rfl)) (by unfold Func.isWrapper; first | (rw [if_pos (by decide +kernel)]; kernel_rfl) | (rw [if_neg (by decide +kernel)]; exact ⟨rfl, rfl⟩))
    (fun os started H enc _ => lifted os started H enc)
end Go.Proofs.Ytbephnjnlcfapaa.clockOnce
namespace Go.Proofs.Ytbephnjnlcfapaa
/-- The statement, by its short name. -/
theorem clockOnce_holds : Rows.ClockOnceSaid := clockOnce.over
#print axioms clockOnce_holds
end Go.Proofs.Ytbephnjnlcfapaa
