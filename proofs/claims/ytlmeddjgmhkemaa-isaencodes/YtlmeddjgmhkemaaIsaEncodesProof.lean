/-
  Whatever the input, the Go function IsaEncodes answers true, and its arguments read behind the call as they read before. No condition.
-/
import Derived.Test.YtlmeddjgmhkemaaRows
import Derived.Test.YtlmeddjgmhkemaaIsaHeld
import Derived.WalkKit
import Derived.Deep.RegionHeld3
import Derived.ProofKit
import Derived.OpenShut
import Derived.Below
import Derived.Lib.SmallJoins
namespace Go.Proofs.Ytlmeddjgmhkemaa.isaEncodes
open Go.ChangeShapes Go.WideShapes Go.ChangeAt Go.RowKit Go.Joins
set_option linter.unusedVariables false

theorem own : ownKnob Try.prog.godebug = none := by kernel_rfl
theorem cellsOf : Try.prog.cellsOf 23 = 4 := by kernel_rfl

set_option maxHeartbeats 4000000 in
set_option maxRecDepth 100000 in
theorem walk (a0x0 a0x1 a0x2 a0x3 : Int) (w0x0 : (Lit.int .i64 a0x0).wf = true) (w0x1 : (Lit.int .i64 a0x1).wf = true) (w0x2 : (Lit.int .i64 a0x2).wf = true) (w0x3 : (Lit.int .i64 a0x3).wf = true) (w : World) :
    Calls Try.prog 3 #[.agg #[.int .i64 a0x0, .int .i64 a0x1, .int .i64 a0x2, .int .i64 a0x3]] w fun e w' => e = .returned (.bool true) ∧ Below w.heap.size w w' := by
  have hz := ztab_zero
  have tn := tab_new (w.alloc (.cells #[.int .i64 a0x0, .int .i64 a0x1, .int .i64 a0x2, .int .i64 a0x3] 23))
  rw [show (w.alloc (.cells #[.int .i64 a0x0, .int .i64 a0x1, .int .i64 a0x2, .int .i64 a0x3] 23)).heap.size = w.heap.size + 1 by simp] at tn
  have hnew := heap_alloc_new w (.cells #[.int .i64 a0x0, .int .i64 a0x1, .int .i64 a0x2, .int .i64 a0x3] 23)
  have s0 : (w.alloc (.cells #[.int .i64 a0x0, .int .i64 a0x1, .int .i64 a0x2, .int .i64 a0x3] 23)).cell? ⟨w.heap.size, 0, none⟩ = some (.int .i64 a0x0) ∧ (w.alloc (.cells #[.int .i64 a0x0, .int .i64 a0x1, .int .i64 a0x2, .int .i64 a0x3] 23)).cell? ⟨w.heap.size, 1, none⟩ = some (.int .i64 a0x1) ∧ (w.alloc (.cells #[.int .i64 a0x0, .int .i64 a0x1, .int .i64 a0x2, .int .i64 a0x3] 23)).cell? ⟨w.heap.size, 2, none⟩ = some (.int .i64 a0x2) ∧ (w.alloc (.cells #[.int .i64 a0x0, .int .i64 a0x1, .int .i64 a0x2, .int .i64 a0x3] 23)).cell? ⟨w.heap.size, 3, none⟩ = some (.int .i64 a0x3) := by
    refine ⟨?_, ?_, ?_, ?_⟩ <;> (unfold World.cell?; rw [hnew]; rfl)
  have s1 : ((w.alloc (.cells #[.int .i64 a0x0, .int .i64 a0x1, .int .i64 a0x2, .int .i64 a0x3] 23)).alloc (.cells ztab 41)).cell? ⟨w.heap.size, 0, none⟩ = some (.int .i64 a0x0) ∧ ((w.alloc (.cells #[.int .i64 a0x0, .int .i64 a0x1, .int .i64 a0x2, .int .i64 a0x3] 23)).alloc (.cells ztab 41)).cell? ⟨w.heap.size, 1, none⟩ = some (.int .i64 a0x1) ∧ ((w.alloc (.cells #[.int .i64 a0x0, .int .i64 a0x1, .int .i64 a0x2, .int .i64 a0x3] 23)).alloc (.cells ztab 41)).cell? ⟨w.heap.size, 2, none⟩ = some (.int .i64 a0x2) ∧ ((w.alloc (.cells #[.int .i64 a0x0, .int .i64 a0x1, .int .i64 a0x2, .int .i64 a0x3] 23)).alloc (.cells ztab 41)).cell? ⟨w.heap.size, 3, none⟩ = some (.int .i64 a0x3) ∧ EncS w w.heap.size (w.heap.size + 1) ((w.alloc (.cells #[.int .i64 a0x0, .int .i64 a0x1, .int .i64 a0x2, .int .i64 a0x3] 23)).alloc (.cells ztab 41)) := by
    obtain ⟨c0, c1, c2, c3⟩ := s0
    refine ⟨(World.cell?_alloc_past _ _ _ (by simp)).trans c0, (World.cell?_alloc_past _ _ _ (by simp)).trans c1, (World.cell?_alloc_past _ _ _ (by simp)).trans c2, (World.cell?_alloc_past _ _ _ (by simp)).trans c3, tn, ((Below.refl _ _).alloc (Nat.le_refl _) _).alloc (by simp) _, by simp; omega, by omega, by omega⟩
  have HS : Hid _ := s1
  clear s0 s1 hnew tn
  go_enter Try.func3, Try.ntmps3
  go_wp2_with fail
  refine (instr_c _ _ _ _ _).mono ?_
  rintro e w1 ⟨rfl, b1⟩
  have S1 := encS_below HS.out b1
  clear b1 HS
  have H1 : Hid _ := S1
  clear S1
  go_wp2_with fail
  refine (encode_c _ 0 _ _ _ _ _ H1.out.2.2.2.2.1).mono ?_
  rintro e w2 ⟨rfl, t2, q2⟩
  have S2 := encS_keep H1.out t2 q2
  clear H1 t2 q2
  have H2 : Hid _ := S2
  obtain ⟨c0, c1, c2, c3, -⟩ := S2
  go_wp2_with fail
  refine (rencode_c _ _ _ _ _).mono ?_
  rintro e w3 ⟨rfl, b3⟩
  have S3 := encS_below H2.out b3
  clear b3 H2 c0 c1 c2 c3
  have hk : ∀ w, (binOp .eql 4 (.bool (vldB a0x0 a0x1 a0x2 a0x3)) (.bool (vldB a0x0 a0x1 a0x2 a0x3))).run Try.prog w = .ok (.bool true) w := fun w => by cases vldB a0x0 a0x1 a0x2 a0x3 <;> kernel_rfl
  go_wp2_with fail
  go_region_held3 (fun w' => w'.cell? ⟨w.heap.size, 0, none⟩ = some (.int .i64 a0x0) ∧ w'.cell? ⟨w.heap.size, 1, none⟩ = some (.int .i64 a0x1) ∧ w'.cell? ⟨w.heap.size, 2, none⟩ = some (.int .i64 a0x2) ∧ w'.cell? ⟨w.heap.size, 3, none⟩ = some (.int .i64 a0x3) ∧ EncS w w.heap.size (w.heap.size + 1) w')
    (first | exact encS_drew S3 | exact S3 | exact encS_below (by assumption) (by assumption) | exact encS_keep (by assumption) (by assumption) (by assumption))
    (first
      | (go_at_call 8; refine (instr_c _ _ _ _ _).mono ?_; rintro e w4 ⟨rfl, b4⟩)
      | (go_at_call 10; refine (valid_c _ 0 _ _ _ _ _ ?_).mono ?_; (go_split_ands; exact (‹EncS w w.heap.size (w.heap.size + 1) _›).1); rintro e w4 ⟨rfl, t4, q4⟩)
      | (go_at_call 11; refine (rvalid_c _ _ _ _ _).mono ?_; rintro e w4 ⟨rfl, b4⟩)
      | (go_at_call 12; refine (awake_c _).mono ?_; rintro e w4 ⟨rfl, b4⟩))
  all_goals
    go_split_ands
    have hE := (‹EncS w w.heap.size (w.heap.size + 1) w4›).2.1
    go_wp2
    go_ret
    exact ⟨rfl, hE⟩

set_option maxRecDepth 100000 in
theorem lifted (os : Os) (started : os.Started) (H : Type) (enc : TypeId × Value → H) :
    ReturnsInHanded {} Try.checked os 3 .any (Rows.isaEncodesSpec.pre6 enc Try.prog Try.f3 Rows.isaEncodesRow.domain false) (Rows.isaEncodesSpec.post enc Try.prog Try.f3 false true false false) := by
  refine returnsInHanded_of_change (C := Try.checked) own started (by kernel_rfl) Try.func3
    (ChangeSpec.witness6 (enc := enc) (C := Try.checked) false ⟨#[], #[.agg #[.int .i64 0, .int .i64 0, .int .i64 0, .int .i64 0]], []⟩ 8 (by kernel_rfl) (by kernel_rfl) (by kernel_rfl) (by kernel_rfl)) ?_
  intro W base args ds gs before hval0 hW hcnd _
  have hval : ∀ (j : Nat) t v, Try.f3.params[j]? = some t → args[j]? = some v → Value.okWide Try.prog W .any base t v := hval0
  have hW' := hW
  obtain ⟨p, q, hA0, hV, rfl, hfz, hnd⟩ := hW
  have hA : DataW.TrodAll enc Try.prog W 0 (fun _ => true) true Try.f3.params.toList args.toList ds p := hA0
  rw [Try.params3] at hA hval
  obtain ⟨v0, vs0, d0, ds0, p0, q0, hargs, rfl, rfl, h0, r0⟩ := trodAll_cons hA
  obtain ⟨rfl, rfl, rfl⟩ := trodAll_nil r0
  obtain rfl : args = #[v0] := by cases args; simp_all
  obtain ⟨rfl, rfl⟩ := trodVars_none hV
  obtain ⟨c0x0, c0x1, c0x2, c0x3, y0x0, y0x1, y0x2, y0x3, m0, rfl, rfl, rfl, hy0x0, hy0x1, hy0x2, hy0x3⟩ := open_agg4 Try.underlying23 (by kernel_rfl) cellsOf (hval 0 23 v0 rfl rfl) h0
  obtain ⟨a0x0, e0x0, rfl, w0x0⟩ := DataW.trod_int Try.underlying3 hy0x0
  obtain ⟨a0x1, e0x1, rfl, w0x1⟩ := DataW.trod_int Try.underlying3 hy0x1
  obtain ⟨a0x2, e0x2, rfl, w0x2⟩ := DataW.trod_int Try.underlying3 hy0x2
  obtain ⟨a0x3, e0x3, rfl, w0x3⟩ := DataW.trod_int Try.underlying3 hy0x3
  simp at e0x0 e0x1 e0x2 e0x3
  subst e0x0 e0x1 e0x2 e0x3
  clear hA0 hval0
  simp only [List.append_nil] at hW'
  have reads0 : ∀ (W' : World) (sp : Nat → Bool), DataW.Trod enc Try.prog W' 0 sp true 23 (.agg #[.int .i64 a0x0, .int .i64 a0x1, .int .i64 a0x2, .int .i64 a0x3]) (.agg [.lit (.int .i64 a0x0), .lit (.int .i64 a0x1), .lit (.int .i64 a0x2), .lit (.int .i64 a0x3)]) [] := fun W' sp =>
    shut_agg4 (y0 := (.lit (.int .i64 a0x0), [])) (y1 := (.lit (.int .i64 a0x1), [])) (y2 := (.lit (.int .i64 a0x2), [])) (y3 := (.lit (.int .i64 a0x3), [])) Try.underlying23 (by kernel_rfl) cellsOf ⟨1, by simp [DataW.trod, Try.underlying3, w0x0]⟩ ⟨1, by simp [DataW.trod, Try.underlying3, w0x1]⟩ ⟨1, by simp [DataW.trod, Try.underlying3, w0x2]⟩ ⟨1, by simp [DataW.trod, Try.underlying3, w0x3]⟩
  refine (walk a0x0 a0x1 a0x2 a0x3 w0x0 w0x1 w0x2 w0x3 W).mono fun e W' ⟨he, hg⟩ => ?_
  subst he
  exact ⟨_, rfl, _, _, _, [], [], [], hW', (trodAll_cons_mk (shut_bool Try.underlying4 _) trodAll_mk0), (trodAll_cons_mk (reads0 _ _) trodAll_mk0), rfl, hg.frame _, (fun h => by cases h)⟩

theorem over : Rows.isaEncodesRow.holds Try.pinned (OpenSpec.ofChange Rows.isaEncodesSpec) :=
  OpenClaim.holds_of_wide 3 Try.f3 rfl rfl rfl rfl rfl rfl rfl ⟨rfl, rfl, rfl, rfl, rfl⟩ rfl rfl rfl rfl rfl (by kernel_rfl) Try.func3 (by kernel_rfl)
    (of_decide_eq_true (by kernel_rfl)) (by unfold Func.isWrapper; first | (rw [if_pos (by decide +kernel)]; kernel_rfl) | (rw [if_neg (by decide +kernel)]; exact ⟨rfl, rfl⟩))
    (fun os started H enc _ => lifted os started H enc)
end Go.Proofs.Ytlmeddjgmhkemaa.isaEncodes
namespace Go.Proofs.Ytlmeddjgmhkemaa
/-- The statement, by its short name. -/
theorem isaEncodes_holds : Rows.IsaEncodesSaid := isaEncodes.over
#print axioms isaEncodes_holds
end Go.Proofs.Ytlmeddjgmhkemaa
