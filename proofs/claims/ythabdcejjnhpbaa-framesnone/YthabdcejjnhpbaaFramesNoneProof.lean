/-
  Whatever the input, the Go function FramesNone answers true, and its arguments read behind the call as they read before. No condition.
-/
import Derived.Test.YthabdcejjnhpbaaRows
import Derived.Test.YthabdcejjnhpbaaFrHeld
import Derived.WalkKit
import Derived.ProofKit
import Derived.OpenShut
import Derived.ShutString
import Derived.ChangeOld
import Derived.Below
import Derived.Carry
namespace Go.Proofs.Ythabdcejjnhpbaa.framesNone
open Go.ChangeShapes Go.WideShapes Go.ChangeAt Go.RowKit
open Go.ChangeMaps (open_string shut_string)
set_option linter.unusedVariables false

theorem own : ownKnob Try.prog.godebug = none := by kernel_rfl
theorem laidOut : laidOutB Try.prog = true := by kernel_rfl

set_option maxHeartbeats 4000000 in
set_option maxRecDepth 100000 in
theorem walk (w : World) (a0 : Int) (w0 : (Lit.int .i64 a0).wf = true) (c1 : Array Value) (f1 : Fits ks_flatDeed c1.toList) :
    Calls Try.prog 5 #[.int .i64 a0, .agg c1] w fun e w' => e = .returned (.bool true) ∧ Below w.heap.size w w' := by
  obtain ⟨cl⟩ := c1
  obtain ⟨K, F, A, V, rfl⟩ := deed_of f1
  clear f1 w0
  have hbox := box_new w K F A V 30
  have HX : Hid (Box w w.heap.size K F A V (w.alloc (.cells #[.int .i64 K, .int .i64 F, .int .i64 A, .int .u32 V] 30))) := hbox
  have HB : Hid (But [] w (w.alloc (.cells #[.int .i64 K, .int .i64 F, .int .i64 A, .int .u32 V] 30))) := (But.refl [] w).alloc _
  obtain ⟨g, hg⟩ : ∃ g, g = w.heap.size := ⟨_, rfl⟩
  clear hbox
  go_enter Try.func5, Try.ntmps5
  go_wp2_with fail
  refine (get_nil F A _).mono ?_
  rintro e w1 ⟨rfl, hw⟩
  rw [hw] at HB HX
  clear hw
  rw [← hg] at HX ⊢
  have hX := HX.out
  obtain ⟨hx0, hx1, hx2, hx3⟩ := hX
  clear hg
  go_wp2_with fail
  refine (page_nil F _).mono ?_
  rintro e w2 ⟨rfl, k2⟩
  have HB2 : Hid (But [] w w2) := HB.out.trans k2
  have HX2 : Hid (Box w g K F A V w2) := HX.out.keep k2 (by simp)
  clear hx0 hx1 hx2 hx3 k2 HB HX
  have HA : Hid (∀ z : Array Value, z.size = 16 → (w2.alloc (.cells z 40)).there w2.heap.size 0 16) := fun z hz => there_new _ _ _ _ hz
  go_wp2_with (first
    | (refine wpList_store_mid rfl 40 _ _ rfl w2.heap.size 0 (pgv [] 0).toArray rfl rfl (pgv_there (HA.out _ rfl)) (pgv_info' _ _) (pgv_all _ _) ?_))
  have hR := World.rangeAt_setCells_same _ w2.heap.size 0 (pgv [] 0) (by rw [pgv_len]; exact HA.out #[.int .u32 0, .int .u32 0, .int .u32 0, .int .u32 0, .int .u32 0, .int .u32 0, .int .u32 0, .int .u32 0, .int .u32 0, .int .u32 0, .int .u32 0, .int .u32 0, .int .u32 0, .int .u32 0, .int .u32 0, .int .u32 0] rfl)
  have hK : But [] w2 ((w2.alloc (.cells #[.int .u32 0, .int .u32 0, .int .u32 0, .int .u32 0, .int .u32 0, .int .u32 0, .int .u32 0, .int .u32 0, .int .u32 0, .int .u32 0, .int .u32 0, .int .u32 0, .int .u32 0, .int .u32 0, .int .u32 0, .int .u32 0] 40)).setCells w2.heap.size 0 (pgv [] 0)) := ((But.refl [] w2).alloc _).setCells (.inr (Nat.le_refl _)) _ _
  generalize ((w2.alloc (.cells #[.int .u32 0, .int .u32 0, .int .u32 0, .int .u32 0, .int .u32 0, .int .u32 0, .int .u32 0, .int .u32 0, .int .u32 0, .int .u32 0, .int .u32 0, .int .u32 0, .int .u32 0, .int .u32 0, .int .u32 0, .int .u32 0] 40)).setCells w2.heap.size 0 (pgv [] 0)) = w3 at hR hK ⊢
  have hX2 := HX2.out.keep hK (by simp)
  have S0 : w3.drew.cell? ⟨g, 1, none⟩ = some (.int .i64 F) ∧ w3.drew.cell? ⟨g, 2, none⟩ = some (.int .i64 A) ∧ w3.drew.cell? ⟨g, 3, none⟩ = some (.int .u32 V) ∧ w3.drew.rangeAt w2.heap.size 0 (pgv [] 0) ∧ But [] w w3.drew := ⟨hX2.f, hX2.a, hX2.w, (World.rangeAt_drew _ _ _ _).2 hR, (HB2.out.trans hK).drew⟩
  obtain ⟨bq, hbq⟩ : ∃ bq, bq = w2.heap.size := ⟨_, rfl⟩
  rw [← hbq] at S0 ⊢
  have hu40 := Try.underlying40
  have hi40 := pgv_info [] 0
  have heq := eqNought
  clear hX2 hR hK hbq HA HX2 HB2
  go_wp2
  go_region_held3 (fun w' => w'.cell? ⟨g, 1, none⟩ = some (.int .i64 F) ∧ w'.cell? ⟨g, 2, none⟩ = some (.int .i64 A) ∧ w'.cell? ⟨g, 3, none⟩ = some (.int .u32 V) ∧ w'.rangeAt bq 0 (pgv [] 0) ∧ But [] w w')
    (first | exact S0 | assumption | exact none_keep (by assumption) (by assumption))
    (first
      | (go_at_call 15; refine (put_nil F A V _).mono ?_; rintro e w4 ⟨rfl, rfl⟩)
      | (go_at_call 17; refine (pageOf_c 1 _).mono ?_; rintro e w4 ⟨rfl, k4⟩)
      | (go_at_call 16; refine (lay_nil F (pageL 1) _).mono ?_; rintro e w5 ⟨rfl, k5⟩)
      | (go_at_call 18; refine (copy_nil F A _).mono ?_; rintro e w6 ⟨rfl, rfl⟩)
      | (go_at_call 19; refine (len_nil _).mono ?_; rintro e w6 ⟨rfl, rfl⟩)
      | (go_at_call 11; refine (twin_nil _).mono ?_; rintro e w6 ⟨rfl, rfl⟩)
      | (go_at_call 12; refine (others_nil _).mono ?_; rintro e w6 ⟨rfl, rfl⟩))
  go_split_ands
  have hE : Hid (But [] w w5) := ‹But [] w w5›
  by_cases hn : 1 ≤ a0 ∧ a0 ≤ 256
  · obtain ⟨n, rfl⟩ : ∃ n : Nat, a0 = n := ⟨a0.toNat, by omega⟩
    obtain ⟨hn1, hn2⟩ := hn
    go_wp2_with fail
    refine (new_c n _ (by omega) (by omega)).mono ?_
    rintro e w7 ⟨bm, bp, rfl, -, -, -, k7⟩
    have hE7 : Hid (But [] w w7) := hE.out.trans k7
    clear k7
    go_wp2_with fail
    refine (awake_c _).mono ?_
    rintro e w8 ⟨rfl, k8⟩
    have hE8 : Hid (But [] w w8) := hE7.out.trans k8
    clear k8
    go_wp2
    go_ret
    have e : (!decide ((n : Int) < 1) && !decide (256 < (n : Int))) = true := by simp; omega
    exact ⟨congrArg (fun b => Ending.returned (Value.bool b)) e, hE8.out.below (Nat.le_refl _) (by simp)⟩
  · by_cases hn1 : a0 < 1
    · go_wp2_with fail
      refine (new_no a0 _ (by omega)).mono ?_
      rintro e w7 ⟨rfl, rfl⟩
      go_wp2_with fail
      refine (awake_c _).mono ?_
      rintro e w8 ⟨rfl, k8⟩
      have hE8 : Hid (But [] w w8) := hE.out.trans k8
      clear k8
      go_wp2
      go_ret
      exact ⟨rfl, hE8.out.below (Nat.le_refl _) (by simp)⟩
    · have hn2 : 256 < a0 := by omega
      go_wp2_with fail
      refine (new_no a0 _ (by omega)).mono ?_
      rintro e w7 ⟨rfl, rfl⟩
      go_wp2_with fail
      refine (awake_c _).mono ?_
      rintro e w8 ⟨rfl, k8⟩
      have hE8 : Hid (But [] w w8) := hE.out.trans k8
      clear k8
      go_wp2
      go_ret
      exact ⟨rfl, hE8.out.below (Nat.le_refl _) (by simp)⟩

set_option maxRecDepth 100000 in
theorem lifted (os : Os) (started : os.Started) (H : Type) (enc : TypeId × Value → H) :
    ReturnsInHanded {} Try.checked os 5 .any (Rows.framesNoneSpec.pre6 enc Try.prog Try.f5 Rows.framesNoneRow.domain false) (Rows.framesNoneSpec.post enc Try.prog Try.f5 false true false false) := by
  refine returnsInHanded_of_change (C := Try.checked) own started (by kernel_rfl) Try.func5
    (ChangeSpec.witness6 (enc := enc) (C := Try.checked) false ⟨#[], #[.int .i64 0, .agg #[.int .i64 0, .int .i64 0, .int .i64 0, .int .u32 0]], []⟩ 8 (by kernel_rfl) (by kernel_rfl) (by kernel_rfl) (by kernel_rfl)) ?_
  intro W base args ds gs before hval0 hW hcnd _
  have hval : ∀ (j : Nat) t v, Try.f5.params[j]? = some t → args[j]? = some v → Value.okWide Try.prog W .any base t v := hval0
  have hW' := hW
  obtain ⟨p, q, hA0, hV, rfl, hfz, hnd⟩ := hW
  have hA : DataW.TrodAll enc Try.prog W 0 (fun _ => true) true Try.f5.params.toList args.toList ds p := hA0
  rw [Try.params5] at hA hval
  obtain ⟨v0, vs0, d0, ds0, p0, q0, hargs, rfl, rfl, h0, t0⟩ := trodAll_cons hA
  obtain ⟨v1, vs1, d1, ds1, p1, q1, rfl, rfl, rfl, h1, t1⟩ := trodAll_cons t0
  obtain ⟨rfl, rfl, rfl⟩ := trodAll_nil t1
  obtain rfl : args = #[v0, v1] := by cases args; simp_all
  obtain ⟨rfl, rfl⟩ := trodVars_none hV
  have k0 := h0
  have lt0 : ∀ x ∈ p0, x.block < W.heap.size := by obtain ⟨m, hm⟩ := k0; exact DataW.trod_lt m _ _ _ hm
  have k1 := h1
  have lt1 : ∀ x ∈ p1, x.block < W.heap.size := by obtain ⟨m, hm⟩ := k1; exact DataW.trod_lt m _ _ _ hm
  obtain ⟨a0, rfl, rfl, rfl, w0⟩ := open_int Try.underlying3 (hval 0 3 v0 rfl rfl) h0
  obtain ⟨c1, rfl, -⟩ := okWide_struct Try.underlying30 (hval 1 30 v1 rfl rfl)
  have f1 := agg_open flatDeed h1
  clear hA0 hval0
  refine (walk W a0 w0 c1 f1).mono fun e W' ⟨he, hg⟩ => ?_
  subst he
  exact ⟨_, rfl, _, _, _, [], _, [], hW', (trodAll_cons_mk (shut_bool Try.underlying4 _) trodAll_mk0), (trodAll_cons_mk (Below.trod laidOut (by kernel_rfl) (of_decide_eq_true (by kernel_rfl)) k0 hg lt0) (trodAll_cons_mk (Below.trod laidOut (by kernel_rfl) (of_decide_eq_true (by kernel_rfl)) k1 hg lt1) trodAll_mk0)), rfl, hg.frame _, (fun h => by cases h)⟩

theorem over : Rows.framesNoneRow.holds Try.pinned (OpenSpec.ofChange Rows.framesNoneSpec) :=
  OpenClaim.holds_of_wide 5 Try.f5 rfl rfl rfl rfl rfl rfl rfl ⟨rfl, rfl, rfl, rfl, rfl⟩ rfl rfl rfl rfl rfl (by kernel_rfl) Try.func5 (by kernel_rfl)
    (of_decide_eq_true (by kernel_rfl)) (by unfold Func.isWrapper; first | (rw [if_pos (by decide +kernel)]; kernel_rfl) | (rw [if_neg (by decide +kernel)]; exact ⟨rfl, rfl⟩))
    (fun os started H enc _ => lifted os started H enc)
end Go.Proofs.Ythabdcejjnhpbaa.framesNone
namespace Go.Proofs.Ythabdcejjnhpbaa
/-- The statement, by its short name. -/
theorem framesNone_holds : Rows.FramesNoneSaid := framesNone.over
#print axioms framesNone_holds
end Go.Proofs.Ythabdcejjnhpbaa
