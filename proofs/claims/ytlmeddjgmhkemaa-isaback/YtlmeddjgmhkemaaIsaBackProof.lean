/-
  Whatever the input, the Go function IsaBack answers true, and its arguments read behind the call as they read before. No condition.
-/
import Derived.Test.YtlmeddjgmhkemaaRows
import Derived.Test.YtlmeddjgmhkemaaIsaHeld
import Derived.WalkKit
import Derived.Deep.RegionHeld3
import Derived.ProofKit
import Derived.OpenShut
import Derived.Below
import Derived.Lib.SmallJoins
namespace Go.Proofs.Ytlmeddjgmhkemaa.isaBack
open Go.ChangeShapes Go.WideShapes Go.ChangeAt Go.RowKit Go.Joins
set_option linter.unusedVariables false

theorem own : ownKnob Try.prog.godebug = none := by kernel_rfl
theorem cellsOf : Try.prog.cellsOf 23 = 4 := by kernel_rfl

set_option maxHeartbeats 4000000 in
set_option maxRecDepth 100000 in
theorem walk (a0x0 a0x1 a0x2 a0x3 : Int) (a1x0 a1x1 a1x2 a1x3 : Int) (w0x0 : (Lit.int .i64 a0x0).wf = true) (w0x1 : (Lit.int .i64 a0x1).wf = true) (w0x2 : (Lit.int .i64 a0x2).wf = true) (w0x3 : (Lit.int .i64 a0x3).wf = true) (w1x0 : (Lit.int .i64 a1x0).wf = true) (w1x1 : (Lit.int .i64 a1x1).wf = true) (w1x2 : (Lit.int .i64 a1x2).wf = true) (w1x3 : (Lit.int .i64 a1x3).wf = true) (w : World) :
    Calls Try.prog 5 #[.agg #[.int .i64 a0x0, .int .i64 a0x1, .int .i64 a0x2, .int .i64 a0x3], .agg #[.int .i64 a1x0, .int .i64 a1x1, .int .i64 a1x2, .int .i64 a1x3]] w fun e w' => e = .returned (.bool true) ∧ Below w.heap.size w w' := by
  have hz := ztab_zero
  have tn := tab_new ((w.alloc (.cells #[.int .i64 a0x0, .int .i64 a0x1, .int .i64 a0x2, .int .i64 a0x3] 23)).alloc (.cells #[.int .i64 a1x0, .int .i64 a1x1, .int .i64 a1x2, .int .i64 a1x3] 23))
  rw [show ((w.alloc (.cells #[.int .i64 a0x0, .int .i64 a0x1, .int .i64 a0x2, .int .i64 a0x3] 23)).alloc (.cells #[.int .i64 a1x0, .int .i64 a1x1, .int .i64 a1x2, .int .i64 a1x3] 23)).heap.size = w.heap.size + 2 by simp] at tn
  have hn0 : (((w.alloc (.cells #[.int .i64 a0x0, .int .i64 a0x1, .int .i64 a0x2, .int .i64 a0x3] 23)).alloc (.cells #[.int .i64 a1x0, .int .i64 a1x1, .int .i64 a1x2, .int .i64 a1x3] 23)).alloc (.cells ztab 41)).heap[w.heap.size]? = some (.cells #[.int .i64 a0x0, .int .i64 a0x1, .int .i64 a0x2, .int .i64 a0x3] 23) := (Below.heap_alloc _ _ _ (by simp; omega)).trans ((Below.heap_alloc _ _ _ (by simp)).trans (heap_alloc_new w _))
  have hn1 : (((w.alloc (.cells #[.int .i64 a0x0, .int .i64 a0x1, .int .i64 a0x2, .int .i64 a0x3] 23)).alloc (.cells #[.int .i64 a1x0, .int .i64 a1x1, .int .i64 a1x2, .int .i64 a1x3] 23)).alloc (.cells ztab 41)).heap[w.heap.size + 1]? = some (.cells #[.int .i64 a1x0, .int .i64 a1x1, .int .i64 a1x2, .int .i64 a1x3] 23) := (Below.heap_alloc _ _ _ (by simp)).trans (by have := heap_alloc_new (w.alloc (.cells #[.int .i64 a0x0, .int .i64 a0x1, .int .i64 a0x2, .int .i64 a0x3] 23)) (.cells #[.int .i64 a1x0, .int .i64 a1x1, .int .i64 a1x2, .int .i64 a1x3] 23); rwa [show (w.alloc (.cells #[.int .i64 a0x0, .int .i64 a0x1, .int .i64 a0x2, .int .i64 a0x3] 23)).heap.size = w.heap.size + 1 by simp] at this)
  have hB : Below w.heap.size w (((w.alloc (.cells #[.int .i64 a0x0, .int .i64 a0x1, .int .i64 a0x2, .int .i64 a0x3] 23)).alloc (.cells #[.int .i64 a1x0, .int .i64 a1x1, .int .i64 a1x2, .int .i64 a1x3] 23)).alloc (.cells ztab 41)) := (((Below.refl _ _).alloc (Nat.le_refl _) _).alloc (by simp) _).alloc (by simp; omega) _
  have HS : (TwoS w (w.heap.size) (w.heap.size + 1) (w.heap.size + 2) a0x0 a0x1 a0x2 a0x3 a1x0 a1x1 a1x2 a1x3 (((w.alloc (.cells #[.int .i64 a0x0, .int .i64 a0x1, .int .i64 a0x2, .int .i64 a0x3] 23)).alloc (.cells #[.int .i64 a1x0, .int .i64 a1x1, .int .i64 a1x2, .int .i64 a1x3] 23)).alloc (.cells ztab 41))) := by
    refine ⟨⟨?_, ?_, ?_, ?_, tn, hB, by simp; omega, by omega, by omega⟩, ?_, ?_, ?_, ?_, tn, hB, by simp, by omega, by omega⟩
    · unfold World.cell?; rw [hn0]; rfl
    · unfold World.cell?; rw [hn0]; rfl
    · unfold World.cell?; rw [hn0]; rfl
    · unfold World.cell?; rw [hn0]; rfl
    · unfold World.cell?; rw [hn1]; rfl
    · unfold World.cell?; rw [hn1]; rfl
    · unfold World.cell?; rw [hn1]; rfl
    · unfold World.cell?; rw [hn1]; rfl
  clear hn0 hn1 tn hB
  have h2 := eql_instr
  have h3 := eql_ref
  go_enter Try.func5, Try.ntmps5
  go_wp2_with fail
  refine (instr_c _ _ _ _ _).mono ?_
  rintro e w1 ⟨rfl, b1⟩
  have H1 := HS.below b1
  clear b1 HS
  go_wp2_with fail
  refine (encode_c _ 0 _ _ _ _ _ H1.tab).mono ?_
  rintro e w2 ⟨rfl, t2, q2⟩
  have H2 := H1.keep t2 q2
  clear H1 t2 q2
  obtain ⟨d0, d1, d2, d3, -⟩ := H2.2
  go_wp2_with fail
  refine (instr_c _ _ _ _ _).mono ?_
  rintro e w3 ⟨rfl, b3⟩
  have H3 := H2.below b3
  clear b3 H2 d0 d1 d2 d3
  go_wp2_with fail
  refine (encode_c _ 0 _ _ _ _ _ H3.tab).mono ?_
  rintro e w4 ⟨rfl, t4, q4⟩
  have H4 := H3.keep t4 q4
  clear H3 t4 q4
  cases hi : vldB a0x0 a0x1 a0x2 a0x3
  · go_wp2_with fail
    refine (awake_c _).mono ?_
    rintro e w5 ⟨rfl, b5⟩
    have hE := (H4.below b5).old
    go_wp2
    go_ret
    exact ⟨rfl, hE⟩
  cases hk : vldB a1x0 a1x1 a1x2 a1x3
  · go_wp2_with fail
    refine (awake_c _).mono ?_
    rintro e w5 ⟨rfl, b5⟩
    have hE := (H4.below b5).old
    go_wp2
    go_ret
    exact ⟨rfl, hE⟩
  have r0 : encR a0x0 a0x1 a0x2 a0x3 = encI a0x0 a0x1 a0x2 a0x3 := by simp [encR, hi]
  have r1 : encR a1x0 a1x1 a1x2 a1x3 = encI a1x0 a1x1 a1x2 a1x3 := by simp [encR, hk]
  rw [r0, r1]
  clear r0 r1
  obtain ⟨bd0, bd1⟩ := enc_bd hi
  have HD : Hid _ := dec_enc hi
  have HE : Hid (vldB (dopI (encI a0x0 a0x1 a0x2 a0x3)) (daI (encI a0x0 a0x1 a0x2 a0x3)) (dbI (encI a0x0 a0x1 a0x2 a0x3)) (diI (encI a0x0 a0x1 a0x2 a0x3)) = true) := by
    show _ = _
    rw [HD.out.1, HD.out.2.1, HD.out.2.2.1, HD.out.2.2.2]
    exact hi
  have HQ : Hid ((encI a0x0 a0x1 a0x2 a0x3 == encI a1x0 a1x1 a1x2 a1x3) = sameB a0x0 a0x1 a0x2 a0x3 a1x0 a1x1 a1x2 a1x3) := enc_same hi hk
  clear hi hk
  go_wp2_with fail
  refine (decode_yes _ 0 _ _ H4.tab bd0 bd1 HE.out).mono ?_
  rintro e w5 ⟨rfl, t5, q5⟩
  rw [HD.out.1, HD.out.2.1, HD.out.2.2.1, HD.out.2.2.2]
  have H5 := H4.keep t5 q5
  clear H4 t5 q5 HE HD
  have hs := sameB_self a0x0 a0x1 a0x2 a0x3
  have hs5 : w5.heap.size ≠ w.heap.size ∧ w5.heap.size ≠ w.heap.size + 1 := by have := H5.1.2.2.2.2.2.2.1; have := H5.2.2.2.2.2.2.2.1; omega
  have bs : ∀ w, (binOp .eql 4 (.bool (sameB a0x0 a0x1 a0x2 a0x3 a1x0 a1x1 a1x2 a1x3)) (.bool (sameB a0x0 a0x1 a0x2 a0x3 a1x0 a1x1 a1x2 a1x3))).run Try.prog w = .ok (.bool true) w := fun w => by cases sameB a0x0 a0x1 a0x2 a0x3 a1x0 a1x1 a1x2 a1x3 <;> kernel_rfl
  have hq := HQ.out
  have S5 := H5.three a0x0 a0x1 a0x2 a0x3 44
  go_wp2_with fail
  go_region_held3 (fun w' => w'.cell? ⟨w5.heap.size, 0, none⟩ = some (.int .i64 a0x0) ∧ w'.cell? ⟨w5.heap.size, 1, none⟩ = some (.int .i64 a0x1) ∧ w'.cell? ⟨w5.heap.size, 2, none⟩ = some (.int .i64 a0x2) ∧ w'.cell? ⟨w5.heap.size, 3, none⟩ = some (.int .i64 a0x3) ∧
      w'.cell? ⟨w.heap.size, 0, none⟩ = some (.int .i64 a0x0) ∧ w'.cell? ⟨w.heap.size, 1, none⟩ = some (.int .i64 a0x1) ∧ w'.cell? ⟨w.heap.size, 2, none⟩ = some (.int .i64 a0x2) ∧ w'.cell? ⟨w.heap.size, 3, none⟩ = some (.int .i64 a0x3) ∧
      w'.cell? ⟨w.heap.size + 1, 0, none⟩ = some (.int .i64 a1x0) ∧ w'.cell? ⟨w.heap.size + 1, 1, none⟩ = some (.int .i64 a1x1) ∧ w'.cell? ⟨w.heap.size + 1, 2, none⟩ = some (.int .i64 a1x2) ∧ w'.cell? ⟨w.heap.size + 1, 3, none⟩ = some (.int .i64 a1x3) ∧ OldS w w5.heap.size w')
    (first | exact three_drew S5 | exact S5 | exact three_below (by assumption) (by assumption))
    (first
      | (go_at_call 8; refine (instr_c _ _ _ _ _).mono ?_; rintro e w6 ⟨rfl, b6⟩)
      | (go_at_call 12; refine (awake_c _).mono ?_; rintro e w6 ⟨rfl, b6⟩))
  all_goals
    go_split_ands
    have hE := (‹OldS w w5.heap.size w6›).1
    go_wp2
    go_ret
    exact ⟨rfl, hE⟩

set_option maxRecDepth 100000 in
theorem lifted (os : Os) (started : os.Started) (H : Type) (enc : TypeId × Value → H) :
    ReturnsInHanded {} Try.checked os 5 .any (Rows.isaBackSpec.pre6 enc Try.prog Try.f5 Rows.isaBackRow.domain false) (Rows.isaBackSpec.post enc Try.prog Try.f5 false true false false) := by
  refine returnsInHanded_of_change (C := Try.checked) own started (by kernel_rfl) Try.func5
    (ChangeSpec.witness6 (enc := enc) (C := Try.checked) false ⟨#[], #[.agg #[.int .i64 0, .int .i64 0, .int .i64 0, .int .i64 0], .agg #[.int .i64 0, .int .i64 0, .int .i64 0, .int .i64 0]], []⟩ 8 (by kernel_rfl) (by kernel_rfl) (by kernel_rfl) (by kernel_rfl)) ?_
  intro W base args ds gs before hval0 hW hcnd _
  have hval : ∀ (j : Nat) t v, Try.f5.params[j]? = some t → args[j]? = some v → Value.okWide Try.prog W .any base t v := hval0
  have hW' := hW
  obtain ⟨p, q, hA0, hV, rfl, hfz, hnd⟩ := hW
  have hA : DataW.TrodAll enc Try.prog W 0 (fun _ => true) true Try.f5.params.toList args.toList ds p := hA0
  rw [Try.params5] at hA hval
  obtain ⟨v0, vs0, d0, ds0, p0, q0, hargs, rfl, rfl, h0, r0⟩ := trodAll_cons hA
  obtain ⟨v1, vs1, d1, ds1, p1, q1, rfl, rfl, rfl, h1, r1⟩ := trodAll_cons r0
  obtain ⟨rfl, rfl, rfl⟩ := trodAll_nil r1
  obtain rfl : args = #[v0, v1] := by cases args; simp_all
  obtain ⟨rfl, rfl⟩ := trodVars_none hV
  obtain ⟨c0x0, c0x1, c0x2, c0x3, y0x0, y0x1, y0x2, y0x3, m0, rfl, rfl, rfl, hy0x0, hy0x1, hy0x2, hy0x3⟩ := open_agg4 Try.underlying23 (by kernel_rfl) cellsOf (hval 0 23 v0 rfl rfl) h0
  obtain ⟨a0x0, e0x0, rfl, w0x0⟩ := DataW.trod_int Try.underlying3 hy0x0
  obtain ⟨a0x1, e0x1, rfl, w0x1⟩ := DataW.trod_int Try.underlying3 hy0x1
  obtain ⟨a0x2, e0x2, rfl, w0x2⟩ := DataW.trod_int Try.underlying3 hy0x2
  obtain ⟨a0x3, e0x3, rfl, w0x3⟩ := DataW.trod_int Try.underlying3 hy0x3
  simp at e0x0 e0x1 e0x2 e0x3
  subst e0x0 e0x1 e0x2 e0x3
  obtain ⟨c1x0, c1x1, c1x2, c1x3, y1x0, y1x1, y1x2, y1x3, m1, rfl, rfl, rfl, hy1x0, hy1x1, hy1x2, hy1x3⟩ := open_agg4 Try.underlying23 (by kernel_rfl) cellsOf (hval 1 23 v1 rfl rfl) h1
  obtain ⟨a1x0, e1x0, rfl, w1x0⟩ := DataW.trod_int Try.underlying3 hy1x0
  obtain ⟨a1x1, e1x1, rfl, w1x1⟩ := DataW.trod_int Try.underlying3 hy1x1
  obtain ⟨a1x2, e1x2, rfl, w1x2⟩ := DataW.trod_int Try.underlying3 hy1x2
  obtain ⟨a1x3, e1x3, rfl, w1x3⟩ := DataW.trod_int Try.underlying3 hy1x3
  simp at e1x0 e1x1 e1x2 e1x3
  subst e1x0 e1x1 e1x2 e1x3
  clear hA0 hval0
  simp only [List.append_nil] at hW'
  have reads0 : ∀ (W' : World) (sp : Nat → Bool), DataW.Trod enc Try.prog W' 0 sp true 23 (.agg #[.int .i64 a0x0, .int .i64 a0x1, .int .i64 a0x2, .int .i64 a0x3]) (.agg [.lit (.int .i64 a0x0), .lit (.int .i64 a0x1), .lit (.int .i64 a0x2), .lit (.int .i64 a0x3)]) [] := fun W' sp =>
    shut_agg4 (y0 := (.lit (.int .i64 a0x0), [])) (y1 := (.lit (.int .i64 a0x1), [])) (y2 := (.lit (.int .i64 a0x2), [])) (y3 := (.lit (.int .i64 a0x3), [])) Try.underlying23 (by kernel_rfl) cellsOf ⟨1, by simp [DataW.trod, Try.underlying3, w0x0]⟩ ⟨1, by simp [DataW.trod, Try.underlying3, w0x1]⟩ ⟨1, by simp [DataW.trod, Try.underlying3, w0x2]⟩ ⟨1, by simp [DataW.trod, Try.underlying3, w0x3]⟩
  have reads1 : ∀ (W' : World) (sp : Nat → Bool), DataW.Trod enc Try.prog W' 0 sp true 23 (.agg #[.int .i64 a1x0, .int .i64 a1x1, .int .i64 a1x2, .int .i64 a1x3]) (.agg [.lit (.int .i64 a1x0), .lit (.int .i64 a1x1), .lit (.int .i64 a1x2), .lit (.int .i64 a1x3)]) [] := fun W' sp =>
    shut_agg4 (y0 := (.lit (.int .i64 a1x0), [])) (y1 := (.lit (.int .i64 a1x1), [])) (y2 := (.lit (.int .i64 a1x2), [])) (y3 := (.lit (.int .i64 a1x3), [])) Try.underlying23 (by kernel_rfl) cellsOf ⟨1, by simp [DataW.trod, Try.underlying3, w1x0]⟩ ⟨1, by simp [DataW.trod, Try.underlying3, w1x1]⟩ ⟨1, by simp [DataW.trod, Try.underlying3, w1x2]⟩ ⟨1, by simp [DataW.trod, Try.underlying3, w1x3]⟩
  refine (walk a0x0 a0x1 a0x2 a0x3 a1x0 a1x1 a1x2 a1x3 w0x0 w0x1 w0x2 w0x3 w1x0 w1x1 w1x2 w1x3 W).mono fun e W' ⟨he, hg⟩ => ?_
  subst he
  exact ⟨_, rfl, _, _, _, [], [], [], hW', (trodAll_cons_mk (shut_bool Try.underlying4 _) trodAll_mk0), (trodAll_cons_mk (reads0 _ _) (trodAll_cons_mk (reads1 _ _) trodAll_mk0)), rfl, hg.frame _, (fun h => by cases h)⟩

theorem over : Rows.isaBackRow.holds Try.pinned (OpenSpec.ofChange Rows.isaBackSpec) :=
  OpenClaim.holds_of_wide 5 Try.f5 rfl rfl rfl rfl rfl rfl rfl ⟨rfl, rfl, rfl, rfl, rfl⟩ rfl rfl rfl rfl rfl (by kernel_rfl) Try.func5 (by kernel_rfl)
    (of_decide_eq_true (by kernel_rfl)) (by unfold Func.isWrapper; first | (rw [if_pos (by decide +kernel)]; kernel_rfl) | (rw [if_neg (by decide +kernel)]; exact ⟨rfl, rfl⟩))
    (fun os started H enc _ => lifted os started H enc)
end Go.Proofs.Ytlmeddjgmhkemaa.isaBack
namespace Go.Proofs.Ytlmeddjgmhkemaa
/-- The statement, by its short name. -/
theorem isaBack_holds : Rows.IsaBackSaid := isaBack.over
#print axioms isaBack_holds
end Go.Proofs.Ytlmeddjgmhkemaa
