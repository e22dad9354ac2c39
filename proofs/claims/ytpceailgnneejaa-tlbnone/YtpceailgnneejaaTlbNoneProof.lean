/-
  Whatever the input, the Go function TlbNone answers true, and its arguments read behind the call as they read before. No condition.
-/
import Derived.Test.YtpceailgnneejaaRows
import Derived.Test.YtpceailgnneejaaTlFlat
import Derived.WalkKit
import Derived.Deep.RegionHeld3
import Derived.ProofKit
import Derived.OpenShut
import Derived.ShutString
import Derived.ChangeOld
import Derived.Below
import Derived.Carry
namespace Go.Proofs.Ytpceailgnneejaa.tlbNone
open Go.ChangeShapes Go.WideShapes Go.ChangeAt Go.RowKit
open Go.ChangeMaps (open_string shut_string)
set_option linter.unusedVariables false

theorem own : ownKnob Try.prog.godebug = none := by kernel_rfl
theorem laidOut : laidOutB Try.prog = true := by kernel_rfl

set_option maxHeartbeats 4000000 in
set_option maxRecDepth 100000 in
theorem walk (w : World) (c0 : Array Value) (f0 : Fits ks_flatEntry c0.toList) :
    Calls Try.prog 5 #[.agg c0] w fun e w' => e = .returned (.bool true) ∧ Below w.heap.size w w' := by
  obtain ⟨cl⟩ := c0
  obtain ⟨S, P, F, W, rfl⟩ := entry_of f0
  clear f0
  obtain ⟨g, hg⟩ : ∃ g, g = w.heap.size := ⟨_, rfl⟩
  go_enter Try.func5, Try.ntmps5
  go_wp2_with fail
  refine (entry_c S P F W _).mono ?_
  rintro e w1 ⟨rfl, k1⟩
  have HR1 : Hid (w1.rangeAt g 0 [.int .i64 S, .int .i64 P, .int .i64 F, .bool W]) := by
    show World.rangeAt _ _ _ _
    rw [hg]
    exact range_keep (new_range w [.int .i64 S, .int .i64 P, .int .i64 F, .bool W] _) k1 (by simp)
  have K1 : Hid (But [] w w1) := ((But.refl [] w).alloc _).trans k1
  rw [← hg]
  clear k1 hg
  go_wp2_with fail
  refine (put_nil S P F W _).mono ?_
  rintro e w2 ⟨rfl, k2⟩
  have HR2 : Hid (w2.rangeAt g 0 [.int .i64 S, .int .i64 P, .int .i64 F, .bool W]) := range_keep HR1.out k2 (by simp)
  have K2 : Hid (But [] w w2) := K1.out.trans k2
  obtain ⟨c0, c1, c2, c3⟩ := four_cells HR2.out
  clear k2 HR1 K1
  go_wp2_with fail
  refine (get_nil S P _).mono ?_
  rintro e w3 ⟨rfl, k3⟩
  have HR3 : Hid (w3.rangeAt g 0 [.int .i64 S, .int .i64 P, .int .i64 F, .bool W]) := range_keep HR2.out k3 (by simp)
  have K3 : Hid (But [] w w3) := K2.out.trans k3
  clear k3 HR2 K2 c0 c1 c2 c3
  obtain ⟨x, hx⟩ : ∃ x, x = w3.heap.size := ⟨_, rfl⟩
  have S0 : (w3.alloc (.cells #[.int .i64 0, .int .i64 0, .int .i64 0, .bool false] 25)).drew.cell? ⟨g, 0, none⟩ = some (.int .i64 S) ∧ (w3.alloc (.cells #[.int .i64 0, .int .i64 0, .int .i64 0, .bool false] 25)).drew.cell? ⟨g, 1, none⟩ = some (.int .i64 P) ∧ (w3.alloc (.cells #[.int .i64 0, .int .i64 0, .int .i64 0, .bool false] 25)).drew.cell? ⟨g, 2, none⟩ = some (.int .i64 F) ∧ (w3.alloc (.cells #[.int .i64 0, .int .i64 0, .int .i64 0, .bool false] 25)).drew.cell? ⟨x, 0, none⟩ = some (.int .i64 0) ∧ (w3.alloc (.cells #[.int .i64 0, .int .i64 0, .int .i64 0, .bool false] 25)).drew.cell? ⟨x, 1, none⟩ = some (.int .i64 0) ∧ (w3.alloc (.cells #[.int .i64 0, .int .i64 0, .int .i64 0, .bool false] 25)).drew.cell? ⟨x, 2, none⟩ = some (.int .i64 0) ∧ (w3.alloc (.cells #[.int .i64 0, .int .i64 0, .int .i64 0, .bool false] 25)).drew.cell? ⟨x, 3, none⟩ = some (.bool false) ∧ SameS w (w3.alloc (.cells #[.int .i64 0, .int .i64 0, .int .i64 0, .bool false] 25)).drew := by
    obtain ⟨p0, p1, p2, p3⟩ := four_cells (range_keep HR3.out (((But.refl [] w3).alloc (.cells #[.int .i64 0, .int .i64 0, .int .i64 0, .bool false] 25)).drew) (by simp))

    rw [hx]
    exact ⟨p0, p1, p2, by simp, by simp, by simp, by simp, (K3.out.alloc _).drew⟩
  have heq := eqEntry 0 0 0 false
  go_wp2
  rw [← hx]
  generalize w3.alloc (.cells #[.int .i64 0, .int .i64 0, .int .i64 0, .bool false] 25) = w4 at S0 ⊢
  clear hx HR3 K3
  go_region_held3 (fun w' => w'.cell? ⟨g, 0, none⟩ = some (.int .i64 S) ∧ w'.cell? ⟨g, 1, none⟩ = some (.int .i64 P) ∧ w'.cell? ⟨g, 2, none⟩ = some (.int .i64 F) ∧ w'.cell? ⟨x, 0, none⟩ = some (.int .i64 0) ∧ w'.cell? ⟨x, 1, none⟩ = some (.int .i64 0) ∧ w'.cell? ⟨x, 2, none⟩ = some (.int .i64 0) ∧ w'.cell? ⟨x, 3, none⟩ = some (.bool false) ∧ SameS w w')
    (first | exact S0 | assumption | exact seven_keep (by assumption) (by assumption))
    (first
      | (go_at_call 9; refine (dropFrame_nil F _).mono ?_; rintro e w5 ⟨rfl, k5⟩)
      | (go_at_call 11; refine (dropSpace_nil S _).mono ?_; rintro e w5 ⟨rfl, k5⟩)
      | (go_at_call 12; refine (dropPage_nil S P _).mono ?_; rintro e w5 ⟨rfl, k5⟩)
      | (go_at_call 18; refine (all_nil _).mono ?_; rintro e w5 ⟨rfl, rfl⟩)
      | (go_at_call 16; refine (misses_nil _).mono ?_; rintro e w5 ⟨rfl, rfl⟩)
      | (go_at_call 17; refine (awake_c _).mono ?_; rintro e w5 ⟨rfl, k5⟩))
  go_split_ands
  have hE : Hid (But [] w w5) := ‹SameS w w5›
  go_wp2
  go_ret
  exact ⟨rfl, hE.out.below (Nat.le_refl _) (by simp)⟩

set_option maxRecDepth 100000 in
theorem lifted (os : Os) (started : os.Started) (H : Type) (enc : TypeId × Value → H) :
    ReturnsInHanded {} Try.checked os 5 .any (Rows.tlbNoneSpec.pre6 enc Try.prog Try.f5 Rows.tlbNoneRow.domain false) (Rows.tlbNoneSpec.post enc Try.prog Try.f5 false true false false) := by
  refine returnsInHanded_of_change (C := Try.checked) own started (by kernel_rfl) Try.func5
    (ChangeSpec.witness6 (enc := enc) (C := Try.checked) false ⟨#[], #[.agg #[.int .i64 0, .int .i64 0, .int .i64 0, .bool false]], []⟩ 8 (by kernel_rfl) (by kernel_rfl) (by kernel_rfl) (by kernel_rfl)) ?_
  intro W base args ds gs before hval0 hW hcnd _
  have hval : ∀ (j : Nat) t v, Try.f5.params[j]? = some t → args[j]? = some v → Value.okWide Try.prog W .any base t v := hval0
  have hW' := hW
  obtain ⟨p, q, hA0, hV, rfl, hfz, hnd⟩ := hW
  have hA : DataW.TrodAll enc Try.prog W 0 (fun _ => true) true Try.f5.params.toList args.toList ds p := hA0
  rw [Try.params5] at hA hval
  obtain ⟨v0, vs0, d0, ds0, p0, q0, hargs, rfl, rfl, h0, t0⟩ := trodAll_cons hA
  obtain ⟨rfl, rfl, rfl⟩ := trodAll_nil t0
  obtain rfl : args = #[v0] := by cases args; simp_all
  obtain ⟨rfl, rfl⟩ := trodVars_none hV
  have k0 := h0
  have lt0 : ∀ x ∈ p0, x.block < W.heap.size := by obtain ⟨m, hm⟩ := k0; exact DataW.trod_lt m _ _ _ hm
  obtain ⟨c0, rfl, -⟩ := okWide_struct Try.underlying30 (hval 0 30 v0 rfl rfl)
  have f0 := agg_open flatEntry h0
  clear hA0 hval0
  refine (walk W c0 f0).mono fun e W' ⟨he, hg⟩ => ?_
  subst he
  exact ⟨_, rfl, _, _, _, [], _, [], hW', (trodAll_cons_mk (shut_bool Try.underlying4 _) trodAll_mk0), (trodAll_cons_mk (Below.trod laidOut (by kernel_rfl) (of_decide_eq_true (by kernel_rfl)) k0 hg lt0) trodAll_mk0), rfl, hg.frame _, (fun h => by cases h)⟩

theorem over : Rows.tlbNoneRow.holds Try.pinned (OpenSpec.ofChange Rows.tlbNoneSpec) :=
  OpenClaim.holds_of_wide 5 Try.f5 rfl rfl rfl rfl rfl rfl rfl ⟨rfl, rfl, rfl, rfl, rfl⟩ rfl rfl rfl rfl rfl (by kernel_rfl) Try.func5 (by kernel_rfl)
    (of_decide_eq_true (by kernel_rfl)) (by unfold Func.isWrapper; first | (rw [if_pos (by decide +kernel)]; kernel_rfl) | (rw [if_neg (by decide +kernel)]; exact ⟨rfl, rfl⟩))
    (fun os started H enc _ => lifted os started H enc)
end Go.Proofs.Ytpceailgnneejaa.tlbNone
namespace Go.Proofs.Ytpceailgnneejaa
/-- The statement, by its short name. -/
theorem tlbNone_holds : Rows.TlbNoneSaid := tlbNone.over
#print axioms tlbNone_holds
end Go.Proofs.Ytpceailgnneejaa
