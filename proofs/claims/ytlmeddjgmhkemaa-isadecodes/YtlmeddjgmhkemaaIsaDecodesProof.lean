/-
  Whatever the input, the Go function IsaDecodes answers true, and its arguments read behind the call as they read before. No condition.
-/
import Derived.Test.YtlmeddjgmhkemaaRows
import Derived.Test.YtlmeddjgmhkemaaIsaRefs
import Derived.WalkKit
import Derived.Deep.RegionWith
import Derived.ProofKit
import Derived.OpenShut
import Derived.Below
import Derived.ShutString
namespace Go.Proofs.Ytlmeddjgmhkemaa.isaDecodes
open Go.ChangeShapes Go.WideShapes Go.ChangeAt Go.RowKit
open Go.ChangeMaps (open_string shut_string)
set_option linter.unusedVariables false      -- a walk need not use every 'w<i>' (that an integer argument fits its kind)

theorem own : ownKnob Try.prog.godebug = none := by kernel_rfl

/-! ### STEP 1: THE WALK: the Go text returns true. 'Below w.heap.size w w'': the world has at most new blocks (Derived/RowKit3.lean). Part the cases AHEAD of 'go_enter' where a test parts the walk; take each callee by a contract of your own. -/
set_option maxHeartbeats 4000000 in
set_option maxRecDepth 100000 in
theorem walk (a0 : Int) (w0 : (Lit.int .u32 a0).wf = true) (w : World) :
    Calls Try.prog 4 #[.int .u32 a0] w fun e w' => e = .returned (.bool true) ∧ Below w.heap.size w w' := by
  obtain ⟨h0, h1⟩ := u32_bounds w0
  have hz := ztab_zero
  go_enter Try.func4, Try.ntmps4
  go_wp2_with fail
  refine (decode_c _ 0 _ _ (tab_new w) h0 h1).mono ?_
  rintro e w1 ⟨rfl, t1, q1⟩
  go_wp2_with fail
  refine (rdecode_c _ _ h0 h1).mono ?_
  rintro e w2 ⟨rfl, b2⟩
  go_wp2_with fail
  have hs : w1.heap.size < w2.heap.size := by have := b2.size; simp at this; omega
  have hold : w2.heap[w1.heap.size]? = some (.cells #[.int .i64 (doR a0), .int .i64 (daR a0), .int .i64 (dbR a0), .int .i64 (diR a0)] 44) := (b2.block w1.heap.size (by simp)).trans (heap_alloc_new w1 _)
  have c0 : w2.cell? ⟨w1.heap.size, 0, none⟩ = some (.int .i64 (doR a0)) := by simp [World.cell?, hold]
  have c1 : w2.cell? ⟨w1.heap.size, 1, none⟩ = some (.int .i64 (daR a0)) := by simp [World.cell?, hold]
  have c2 : w2.cell? ⟨w1.heap.size, 2, none⟩ = some (.int .i64 (dbR a0)) := by simp [World.cell?, hold]
  have c3 : w2.cell? ⟨w1.heap.size, 3, none⟩ = some (.int .i64 (diR a0)) := by simp [World.cell?, hold]
  clear hold
  have hk : ∀ w, (binOp .neq 4 (.bool (vldD a0)) (.bool (vldD a0))).run Try.prog w = .ok (.bool false) w := fun w => by cases vldD a0 <;> kernel_rfl
  go_region_with ((go_at_call 8; refine (instr_c _ _ _ _ _).mono ?_; rintro e w3 ⟨rfl, b3⟩; obtain ⟨hc, hf⟩ := oldCells b3))
  all_goals
    have t3 := ((((t1.alloc _).below b2).alloc _).drew).below b3
    have bb2 : Below w.heap.size w w2 := (((((Below.refl _ _).alloc (Nat.le_refl _) _).trans (q1.toBelow (Nat.le_refl _))).alloc (by have := q1.size; simp at this; omega) _).trans (b2.mono (by have := q1.size; simp at this ⊢; omega)))
    have bb3 : Below w.heap.size w w3 := ((bb2.alloc bb2.size _).drew).trans (b3.mono (by have := bb2.size; simp; omega))
    have c0' : w3.cell? ⟨w1.heap.size, 0, none⟩ = some (.int .i64 (doR a0)) := (hc _ _ (by simp; omega)).trans ((World.cell?_alloc_past _ _ _ hs).trans c0)
    have c1' : w3.cell? ⟨w1.heap.size, 1, none⟩ = some (.int .i64 (daR a0)) := (hc _ _ (by simp; omega)).trans ((World.cell?_alloc_past _ _ _ hs).trans c1)
    have c2' : w3.cell? ⟨w1.heap.size, 2, none⟩ = some (.int .i64 (dbR a0)) := (hc _ _ (by simp; omega)).trans ((World.cell?_alloc_past _ _ _ hs).trans c2)
    have c3' : w3.cell? ⟨w1.heap.size, 3, none⟩ = some (.int .i64 (diR a0)) := (hc _ _ (by simp; omega)).trans ((World.cell?_alloc_past _ _ _ hs).trans c3)
    clear hc hf c0 c1 c2 c3 q1 t1 b2 bb2 b3 hk
    go_wp2_with fail
    refine (encode_c _ 0 _ _ _ _ _ t3).mono ?_
    rintro e w4 ⟨rfl, t4, q4⟩
    rw [vldD_bounds]
    have b4 : Below w.heap.size w w4 := bb3.trans (q4.toBelow (Nat.le_refl _))
    cases hv : vldD a0
    · go_wp2_with fail
      refine (awake_c _).mono ?_
      rintro e w5 ⟨rfl, b5⟩
      go_wp2
      go_ret
      exact ⟨rfl, b4.trans (b5.mono b4.size)⟩
    · rw [encR_dec a0 h0 h1 hv]
      go_wp2_with fail
      refine (awake_c _).mono ?_
      rintro e w5 ⟨rfl, b5⟩
      go_wp2
      go_ret
      exact ⟨rfl, b4.trans (b5.mono b4.size)⟩

/-! ### THE ROW's STEP: WRITTEN OUT: LEAVE IT -/
set_option maxRecDepth 100000 in
theorem lifted (os : Os) (started : os.Started) (H : Type) (enc : TypeId × Value → H) :
    ReturnsInHanded {} Try.checked os 4 .any (Rows.isaDecodesSpec.pre6 enc Try.prog Try.f4 Rows.isaDecodesRow.domain false) (Rows.isaDecodesSpec.post enc Try.prog Try.f4 false true false false) := by
  refine returnsInHanded_of_change (C := Try.checked) own started (by kernel_rfl) Try.func4
    (ChangeSpec.witness6 (enc := enc) (C := Try.checked) false ⟨#[], #[.int .u32 0], []⟩ 8 (by kernel_rfl) (by kernel_rfl) (by kernel_rfl) (by kernel_rfl)) ?_
  intro W base args ds gs before hval0 hW hcnd _
  have hval : ∀ (j : Nat) t v, Try.f4.params[j]? = some t → args[j]? = some v → Value.okWide Try.prog W .any base t v := hval0
  have hW' := hW
  obtain ⟨p, q, hA0, hV, rfl, hfz, hnd⟩ := hW
  have hA : DataW.TrodAll enc Try.prog W 0 (fun _ => true) true Try.f4.params.toList args.toList ds p := hA0
  rw [Try.params4] at hA hval
  obtain ⟨v0, vs0, d0, ds0, p0, q0, hargs, rfl, rfl, h0, r0⟩ := trodAll_cons hA
  obtain ⟨rfl, rfl, rfl⟩ := trodAll_nil r0
  obtain rfl : args = #[v0] := by cases args; simp_all
  obtain ⟨rfl, rfl⟩ := trodVars_none hV
  obtain ⟨a0, rfl, rfl, rfl, w0⟩ := open_int Try.underlying28 (hval 0 28 v0 rfl rfl) h0
  clear hA0 hval0
  simp only [List.append_nil] at hW'
  refine (walk a0 w0 W).mono fun e W' ⟨he, hg⟩ => ?_
  subst he
  exact ⟨_, rfl, _, _, _, [], [], [], hW', (trodAll_cons_mk (shut_bool Try.underlying4 _) trodAll_mk0), (trodAll_cons_mk (shut_int Try.underlying28 w0) trodAll_mk0), rfl, hg.frame _, fun h => by cases h⟩

theorem over : Rows.isaDecodesRow.holds Try.pinned (OpenSpec.ofChange Rows.isaDecodesSpec) :=
  OpenClaim.holds_of_wide 4 Try.f4 rfl rfl rfl rfl rfl rfl rfl ⟨rfl, rfl, rfl, rfl, rfl⟩ rfl rfl rfl rfl rfl (by kernel_rfl) Try.func4 (by kernel_rfl)
    (of_decide_eq_true (by kernel_rfl)) (by unfold Func.isWrapper; first | (rw [if_pos (by decide +kernel)]; kernel_rfl) | (rw [if_neg (by decide +kernel)]; exact ⟨rfl, rfl⟩))
    (fun os started H enc _ => lifted os started H enc)

/-- ████ THE STATEMENT ████ -/
theorem proved : Rows.IsaDecodesSaid :=
  over
end Go.Proofs.Ytlmeddjgmhkemaa.isaDecodes
namespace Go.Proofs.Ytlmeddjgmhkemaa
/-- The statement, by its short name. -/
theorem isaDecodes_holds : Rows.IsaDecodesSaid := isaDecodes.proved
#print axioms isaDecodes_holds
end Go.Proofs.Ytlmeddjgmhkemaa
