/-
  Whatever the input, the Go function WordBytes answers true, and its arguments read behind the call as they read before. No condition.
-/
import Derived.Test.YtgdplghphnjliaaRows
import Derived.Test.YtgdplghphnjliaaWordWith
import Derived.WalkKit
import Derived.ProofKit
import Derived.OpenShut
import Derived.Below
import Derived.ShutString
namespace Go.Proofs.Ytgdplghphnjliaa.wordBytes
open Go.ChangeShapes Go.WideShapes Go.ChangeAt Go.RowKit
open Go.ChangeMaps (open_string shut_string)
set_option linter.unusedVariables false      -- a walk need not use every 'w<i>' (that an integer argument fits its kind)

theorem own : ownKnob Try.prog.godebug = none := by kernel_rfl

/-! ### STEP 1: THE WALK: the Go text returns true. 'Below w.heap.size w w'': the world has at most new blocks (Derived/RowKit3.lean). Part the cases AHEAD of 'go_enter' where a test parts the walk; take each callee by a contract of your own. -/
theorem walk (a0 : Int) (a1 : Int) (a2 : Int) (a3 : Int) (w0 : (Lit.int .u32 a0).wf = true) (w1 : (Lit.int .i64 a1).wf = true) (w2 : (Lit.int .i64 a2).wf = true) (w3 : (Lit.int .u8 a3).wf = true) (w : World) :
    Calls Try.prog 6 #[.int .u32 a0, .int .i64 a1, .int .i64 a2, .int .u8 a3] w fun e w' => e = .returned (.bool true) ∧ Below w.heap.size w w' := by
  obtain ⟨h0, h1⟩ := u32_bounds w0
  obtain ⟨hb0, hb1⟩ := u8_bounds w3
  obtain ⟨hx0, hx1⟩ := wth_bd a0 a1 a3 h0 h1 hb0 hb1
  have HB : Hid (byt (wth a0 a1 a3) a1 = a3) := byt_wth a0 a1 a3 h0 h1 hb0 hb1
  have hr1 : (wrap64 (a1.tmod 4 + 4)).tmod 4 = a1 % 4 := rem4 a1
  have hr2 : (wrap64 (a2.tmod 4 + 4)).tmod 4 = a2 % 4 := rem4 a2
  clear w0 w1 w2 w3
  by_cases hk : a1 % 4 = a2 % 4
  · have hkb : (a1 % 4 == a2 % 4) = true := by simpa using hk
    rw [hk] at hr1
    clear hk hkb
    go_enter Try.func6, Try.ntmps6
    go_wp2_with fail
    refine (withByte_c _ _ _ _ h0 h1 hb0 hb1).mono ?_
    rintro e w1 ⟨rfl, b1⟩
    go_wp2_with fail
    refine (byte_c _ _ _ h0 h1).mono ?_
    rintro e w2 ⟨rfl, b2⟩
    go_wp2_with fail
    refine (rbyte_c _ _ _ h0 h1).mono ?_
    rintro e w3 ⟨rfl, rfl⟩
    go_wp2_with fail
    refine (with_c _ _ _ _ h0 h1 hb0 hb1).mono ?_
    rintro e w3 ⟨rfl, b3⟩
    go_wp2_with fail
    refine (byte_c _ _ _ hx0 hx1).mono ?_
    rintro e w4 ⟨rfl, b4⟩
    rw [HB.out]
    have hz1 := b1.size
    have hz2 := b2.size
    have hz3 := b3.size
    have hz4 := b4.size
    go_wp2_with fail
    refine (awake_c _).mono ?_
    rintro e w5 ⟨rfl, b5⟩
    go_wp2
    go_ret
    exact ⟨rfl, (((b1.trans (b2.mono (by omega))).trans (b3.mono (by omega))).trans (b4.mono (by omega))).trans (b5.mono (by omega))⟩
  · have HN : Hid (byt (wth a0 a1 a3) a2 = byt a0 a2) := byt_wth_ne a0 a1 a2 a3 h0 h1 hb0 hb1 hk
    have hkb : (a1 % 4 == a2 % 4) = false := by simpa using hk
    clear hk
    go_enter Try.func6, Try.ntmps6
    go_wp2_with fail
    refine (withByte_c _ _ _ _ h0 h1 hb0 hb1).mono ?_
    rintro e w1 ⟨rfl, b1⟩
    go_wp2_with fail
    refine (byte_c _ _ _ h0 h1).mono ?_
    rintro e w2 ⟨rfl, b2⟩
    go_wp2_with fail
    refine (rbyte_c _ _ _ h0 h1).mono ?_
    rintro e w3 ⟨rfl, rfl⟩
    go_wp2_with fail
    refine (with_c _ _ _ _ h0 h1 hb0 hb1).mono ?_
    rintro e w3 ⟨rfl, b3⟩
    go_wp2_with fail
    refine (byte_c _ _ _ hx0 hx1).mono ?_
    rintro e w4 ⟨rfl, b4⟩
    rw [HB.out]
    have hz1 := b1.size
    have hz2 := b2.size
    have hz3 := b3.size
    have hz4 := b4.size
    go_wp2_with fail
    refine (byte_c _ _ _ hx0 hx1).mono ?_
    rintro e w5 ⟨rfl, b5⟩
    rw [HN.out]
    go_wp2_with fail
    refine (byte_c _ _ _ h0 h1).mono ?_
    rintro e w6 ⟨rfl, b6⟩
    have hz5 := b5.size
    have hz6 := b6.size
    go_wp2_with fail
    refine (awake_c _).mono ?_
    rintro e w7 ⟨rfl, b7⟩
    go_wp2
    go_ret
    exact ⟨rfl, (((((b1.trans (b2.mono (by omega))).trans (b3.mono (by omega))).trans (b4.mono (by omega))).trans (b5.mono (by omega))).trans (b6.mono (by omega))).trans (b7.mono (by omega))⟩

/-! ### THE ROW's STEP: WRITTEN OUT: LEAVE IT -/
set_option maxRecDepth 100000 in
theorem lifted (os : Os) (started : os.Started) (H : Type) (enc : TypeId × Value → H) :
    ReturnsInHanded {} Try.checked os 6 .any (Rows.wordBytesSpec.pre6 enc Try.prog Try.f6 Rows.wordBytesRow.domain false) (Rows.wordBytesSpec.post enc Try.prog Try.f6 false true false false) := by
  refine returnsInHanded_of_change (C := Try.checked) own started (by kernel_rfl) Try.func6
    (ChangeSpec.witness6 (enc := enc) (C := Try.checked) false ⟨#[], #[.int .u32 0, .int .i64 0, .int .i64 0, .int .u8 0], []⟩ 8 (by kernel_rfl) (by kernel_rfl) (by kernel_rfl) (by kernel_rfl)) ?_
  intro W base args ds gs before hval0 hW hcnd _
  have hval : ∀ (j : Nat) t v, Try.f6.params[j]? = some t → args[j]? = some v → Value.okWide Try.prog W .any base t v := hval0
  have hW' := hW
  obtain ⟨p, q, hA0, hV, rfl, hfz, hnd⟩ := hW
  have hA : DataW.TrodAll enc Try.prog W 0 (fun _ => true) true Try.f6.params.toList args.toList ds p := hA0
  rw [Try.params6] at hA hval
  obtain ⟨v0, vs0, d0, ds0, p0, q0, hargs, rfl, rfl, h0, r0⟩ := trodAll_cons hA
  obtain ⟨v1, vs1, d1, ds1, p1, q1, rfl, rfl, rfl, h1, r1⟩ := trodAll_cons r0
  obtain ⟨v2, vs2, d2, ds2, p2, q2, rfl, rfl, rfl, h2, r2⟩ := trodAll_cons r1
  obtain ⟨v3, vs3, d3, ds3, p3, q3, rfl, rfl, rfl, h3, r3⟩ := trodAll_cons r2
  obtain ⟨rfl, rfl, rfl⟩ := trodAll_nil r3
  obtain rfl : args = #[v0, v1, v2, v3] := by cases args; simp_all
  obtain ⟨rfl, rfl⟩ := trodVars_none hV
  obtain ⟨a0, rfl, rfl, rfl, w0⟩ := open_int Try.underlying31 (hval 0 31 v0 rfl rfl) h0
  obtain ⟨a1, rfl, rfl, rfl, w1⟩ := open_int Try.underlying3 (hval 1 3 v1 rfl rfl) h1
  obtain ⟨a2, rfl, rfl, rfl, w2⟩ := open_int Try.underlying3 (hval 2 3 v2 rfl rfl) h2
  obtain ⟨a3, rfl, rfl, rfl, w3⟩ := open_int Try.underlying5 (hval 3 5 v3 rfl rfl) h3
  clear hA0 hval0
  simp only [List.append_nil] at hW'
  refine (walk a0 a1 a2 a3 w0 w1 w2 w3 W).mono fun e W' ⟨he, hg⟩ => ?_
  subst he
  exact ⟨_, rfl, _, _, _, [], [], [], hW', (trodAll_cons_mk (shut_bool Try.underlying4 _) trodAll_mk0), (trodAll_cons_mk (shut_int Try.underlying31 w0) (trodAll_cons_mk (shut_int Try.underlying3 w1) (trodAll_cons_mk (shut_int Try.underlying3 w2) (trodAll_cons_mk (shut_int Try.underlying5 w3) trodAll_mk0)))), rfl, hg.frame _, fun h => by cases h⟩

theorem over : Rows.wordBytesRow.holds Try.pinned (OpenSpec.ofChange Rows.wordBytesSpec) :=
  OpenClaim.holds_of_wide 6 Try.f6 rfl rfl rfl rfl rfl rfl rfl ⟨rfl, rfl, rfl, rfl, rfl⟩ rfl rfl rfl rfl rfl (by kernel_rfl) Try.func6 (by kernel_rfl)
    (of_decide_eq_true (by kernel_rfl)) (by unfold Func.isWrapper; first | (rw [if_pos (by decide +kernel)]; kernel_rfl) | (rw [if_neg (by decide +kernel)]; exact ⟨rfl, rfl⟩))
    (fun os started H enc _ => lifted os started H enc)

/-- ████ THE STATEMENT ████ -/
theorem proved : Rows.WordBytesSaid :=
  over
end Go.Proofs.Ytgdplghphnjliaa.wordBytes
namespace Go.Proofs.Ytgdplghphnjliaa
/-- The statement, by its short name. -/
theorem wordBytes_holds : Rows.WordBytesSaid := wordBytes.proved
#print axioms wordBytes_holds
end Go.Proofs.Ytgdplghphnjliaa
