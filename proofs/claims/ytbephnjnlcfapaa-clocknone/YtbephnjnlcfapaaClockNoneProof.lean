/-
  Whatever the input, the Go function ClockNone answers true, and its arguments read behind the call as they read before. No condition.
-/
import Derived.Test.YtbephnjnlcfapaaRows
import Derived.Test.YtbephnjnlcfapaaClFlat
import Derived.WalkKit
import Derived.Deep.RegionHeld3
import Derived.ProofKit
import Derived.OpenShut
import Derived.ShutString
import Derived.ChangeOld
import Derived.Below
import Derived.Carry
namespace Go.Proofs.Ytbephnjnlcfapaa.clockNone
open Go.ChangeShapes Go.WideShapes Go.ChangeAt Go.RowKit
open Go.ChangeMaps (open_string shut_string)
set_option linter.unusedVariables false

theorem own : ownKnob Try.prog.godebug = none := by kernel_rfl
theorem laidOut : laidOutB Try.prog = true := by kernel_rfl

set_option maxHeartbeats 4000000 in
set_option maxRecDepth 100000 in
theorem walk (w : World) (c0 : Array Value) (f0 : Fits ks_flatDeed c0.toList) :
    Calls Try.prog 5 #[.agg c0] w fun e w' => e = .returned (.bool true) ∧ Below w.heap.size w w' := by
  obtain ⟨cl⟩ := c0
  obtain ⟨K, E, N, T, rfl⟩ := deed_of f0
  clear f0
  obtain ⟨g, hg⟩ : ∃ g, g = w.heap.size := ⟨_, rfl⟩
  have HR : Hid ((w.alloc (.cells #[.int .i64 K, .int .i64 E, .int .i64 N, .int .u64 T] 51)).rangeAt g 0 [.int .i64 K, .int .i64 E, .int .i64 N, .int .u64 T]) := by
    show World.rangeAt _ _ _ _
    rw [hg]
    exact new_range w [.int .i64 K, .int .i64 E, .int .i64 N, .int .u64 T] _
  have HB : Hid (But [] w (w.alloc (.cells #[.int .i64 K, .int .i64 E, .int .i64 N, .int .u64 T] 51))) := (But.refl [] w).alloc _
  go_enter Try.func5, Try.ntmps5
  go_wp2_with fail
  refine (Cl.set_nil T _).mono ?_
  rintro e w1 ⟨rfl, hw⟩
  rw [hw] at HR HB
  rw [← hg]
  clear hw hg
  have S0 : w1.drew.cell? ⟨g, 1, none⟩ = some (.int .i64 E) ∧ w1.drew.cell? ⟨g, 2, none⟩ = some (.int .i64 N) ∧ w1.drew.cell? ⟨g, 3, none⟩ = some (.int .u64 T) ∧ SameS w w1.drew := by
    have h := (World.rangeAt_drew _ _ _ _).2 HR.out
    exact ⟨by simpa using h 1 _ rfl, by simpa using h 2 _ rfl, by simpa using h 3 _ rfl, HB.out.drew⟩
  clear HR HB
  go_wp2
  go_region_held3 (fun w' => w'.cell? ⟨g, 1, none⟩ = some (.int .i64 E) ∧ w'.cell? ⟨g, 2, none⟩ = some (.int .i64 N) ∧ w'.cell? ⟨g, 3, none⟩ = some (.int .u64 T) ∧ SameS w w')
    (first | exact S0 | assumption | exact three_keep (by assumption) (by assumption))
    (first
      | (go_at_call 6; refine (Cl.go_nil T _).mono ?_; rintro e w5 ⟨rfl, rfl⟩)
      | (go_at_call 15; refine (Cl.now_nil _).mono ?_; rintro e w5 ⟨rfl, rfl⟩)
      | (go_at_call 7; refine (Cl.spend_nil E N _).mono ?_; rintro e w5 ⟨rfl, rfl⟩)
      | (go_at_call 16; refine (Cl.spent_nil E _).mono ?_; rintro e w5 ⟨rfl, rfl⟩)
      | (go_at_call 9; refine (Cl.clear_nil E _).mono ?_; rintro e w5 ⟨rfl, rfl⟩)
      | (go_at_call 17; refine (Cl.all_nil _).mono ?_; rintro e w5 ⟨rfl, rfl⟩)
      | (go_at_call 13; refine (Cl.due_nil T _).mono ?_; rintro e w5 ⟨rfl, rfl⟩)
      | (go_at_call 12; refine (Cl.off_nil _).mono ?_; rintro e w5 ⟨rfl, rfl⟩)
      | (go_at_call 18; refine (Cl.awake_c _).mono ?_; rintro e w5 ⟨rfl, k5⟩))
  go_split_ands
  have hE : Hid (But [] w w5) := ‹SameS w w5›
  go_wp2
  go_ret
  exact ⟨rfl, hE.out.below (Nat.le_refl _) (by simp)⟩

set_option maxRecDepth 100000 in
theorem lifted (os : Os) (started : os.Started) (H : Type) (enc : TypeId × Value → H) :
    ReturnsInHanded {} Try.checked os 5 .any (Rows.clockNoneSpec.pre6 enc Try.prog Try.f5 Rows.clockNoneRow.domain false) (Rows.clockNoneSpec.post enc Try.prog Try.f5 false true false false) := by
  refine returnsInHanded_of_change (C := Try.checked) own started (by kernel_rfl) Try.func5
    (ChangeSpec.witness6 (enc := enc) (C := Try.checked) false ⟨#[], #[.agg #[.int .i64 0, .int .i64 0, .int .i64 0, .int .u64 0]], []⟩ 8 (by kernel_rfl) (by kernel_rfl) (by kernel_rfl) (by kernel_rfl)) ?_
  intro W base args ds gs before hval0 hW hcnd _
  have hval : ∀ (j : Nat) t v, Try.f5.params[j]? = some t → args[j]? = some v → Value.okWide Try.prog W .any base t v := hval0
  have hW' := hW
  obtain ⟨p, q, hA0, hV, rfl, hfz, hnd⟩ := hW
  have hA : DataW.TrodAll enc Try.prog W 0 (fun _ => true) true Try.f5.params.toList args.toList ds p := hA0
  rw [Try.params5] at hA hval
  obtain ⟨v0, vs0, d0, ds0, p0, q0, hargs, rfl, rfl, h0, t0⟩ := trodAll_cons hA
  obtain ⟨rfl, rfl, rfl⟩ := trodAll_nil t0
  obtain rfl : args = #[v0] := by cases args; simp_all
  obtain ⟨rfl, rfl⟩ := trodVars_none hV
  have k0 := h0
  have lt0 : ∀ x ∈ p0, x.block < W.heap.size := by obtain ⟨m, hm⟩ := k0; exact DataW.trod_lt m _ _ _ hm
  obtain ⟨c0, rfl, -⟩ := okWide_struct Try.underlying51 (hval 0 51 v0 rfl rfl)
  have f0 := agg_open flatDeed h0
  clear hA0 hval0
  refine (walk W c0 f0).mono fun e W' ⟨he, hg⟩ => ?_
  subst he
  exact ⟨_, rfl, _, _, _, [], _, [], hW', (trodAll_cons_mk (shut_bool Try.underlying4 _) trodAll_mk0), (trodAll_cons_mk (Below.trod laidOut (by kernel_rfl) (of_decide_eq_true (by kernel_rfl)) k0 hg lt0) trodAll_mk0), rfl, hg.frame _, (fun h => by cases h)⟩

theorem over : Rows.clockNoneRow.holds Try.pinned (OpenSpec.ofChange Rows.clockNoneSpec) :=
  OpenClaim.holds_of_wide 5 Try.f5 rfl rfl rfl rfl rfl rfl rfl ⟨rfl, rfl, rfl, rfl, rfl⟩ rfl rfl rfl rfl rfl (by kernel_rfl) Try.func5 (by kernel_rfl)
    (of_decide_eq_true (by kernel_rfl)) (by unfold Func.isWrapper; first | (rw [if_pos (by decide +kernel)]; kernel_rfl) | (rw [if_neg (by decide +kernel)]; exact ⟨rfl, rfl⟩))
    (fun os started H enc _ => lifted os started H enc)
end Go.Proofs.Ytbephnjnlcfapaa.clockNone
namespace Go.Proofs.Ytbephnjnlcfapaa
/-- The statement, by its short name. -/
theorem clockNone_holds : Rows.ClockNoneSaid := clockNone.over
#print axioms clockNone_holds
end Go.Proofs.Ytbephnjnlcfapaa
