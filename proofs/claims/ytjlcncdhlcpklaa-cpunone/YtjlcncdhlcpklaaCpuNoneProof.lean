/-
  Whatever the input, the Go function CpuNone answers true, and its arguments read behind the call as they read before. No condition.
-/
import Derived.Test.YtjlcncdhlcpklaaRows
import Derived.Test.YtjlcncdhlcpklaaCpAwake
import Derived.WalkKit
import Derived.Deep.LoopGhost
import Derived.ProofKit
import Derived.OpenShut
import Derived.ShutString
import Derived.ChangeOld
import Derived.Below
import Derived.Carry
namespace Go.Proofs.Ytjlcncdhlcpklaa.cpuNone
open Go.ChangeShapes Go.WideShapes Go.ChangeAt Go.RowKit
open Go.ChangeMaps (open_string shut_string)
set_option linter.unusedVariables false

theorem own : ownKnob Try.prog.godebug = none := by kernel_rfl
theorem laidOut : laidOutB Try.prog = true := by kernel_rfl

set_option maxHeartbeats 4000000 in
set_option maxRecDepth 100000 in
theorem walk (w : World) (c0 : Array Value) (f0 : Cp.StartOk w c0) :
    Calls Try.prog 6 #[.agg c0] w fun e w' => e = .returned (.bool true) ∧ Below w.heap.size w w' := by
  obtain ⟨A0, l0, c0', A1, l1, c1', s, c, ys, es, rfl, hcl, hcu, -, -, -, -, -, -, -⟩ := f0
  have HLN : Hid (c.length = 17) := hcl
  have hR := new_range w (Cp.stl A0 l0 c0' A1 l1 c1' s c) 29
  have hB := (But.refl [] w).alloc (.cells (Cp.stl A0 l0 c0' A1 l1 c1' s c).toArray 29)
  obtain ⟨g, hg⟩ : ∃ g, g = w.heap.size := ⟨_, rfl⟩
  clear hcl hcu
  go_enter Try.func6, Try.ntmps6
  go_upto_region 2 with fail
  rw [← hg] at hR ⊢
  generalize w.alloc (.cells (Cp.stl A0 l0 c0' A1 l1 c1' s c).toArray 29) = w0 at hR hB ⊢
  have hs2 : w0.cell? ⟨g, 2, none⟩ = some (.int .i64 s) := hR 2 _ rfl
  have HRC : Hid (w0.rangeAt g 3 (Cp.cvl c)) := fun j v hv => by
    have := hR (3 + j) v (by rw [show Cp.stl A0 l0 c0' A1 l1 c1' s c = [.slice A0 l0 c0', .slice A1 l1 c1', .int .i64 s] ++ Cp.cvl c from rfl, List.getElem?_append_right (by simp)]; simpa using hv)
    rwa [Nat.zero_add] at this
  have HB : Hid (But [] w w0) := hB
  clear hR hB hg
  go_wp2_with (first
    | (refine wpList_load_mid rfl 27 _ rfl g 3 rfl (Cp.cvl c) _ HRC.out Try.underlying27 rfl (Cp.cvl_info c HLN.out) ?_))
  refine (Cp.step_nil s c _ HLN.out).mono ?_
  rintro e w2 ⟨rfl, k2⟩
  have HK2 : Hid (But [] w w2) := HB.out.trans k2
  have HRC2 : Hid (w2.rangeAt g 3 (Cp.cvl c)) := range_keep HRC.out k2 (by simp)
  clear k2
  simp only [Cp.Tr.vs]
  obtain ⟨hT5, hT6⟩ := Cp.two_new w2 #[.int .u32 0, .int .u32 0, .int .u32 0, .int .u32 0, .int .u32 0, .int .u32 0, .int .u32 0, .int .u32 0, .int .u32 0, .int .u32 0, .int .u32 0, .int .u32 0, .int .u32 0, .int .u32 0, .int .u32 0, .int .u32 0, .int .u32 0] #[.int .i64 0, .int .i64 0, .bool false, .int .i64 0] 27 37 17 4 rfl rfl
  have hK3 : But [] w2 ((w2.alloc (.cells #[.int .u32 0, .int .u32 0, .int .u32 0, .int .u32 0, .int .u32 0, .int .u32 0, .int .u32 0, .int .u32 0, .int .u32 0, .int .u32 0, .int .u32 0, .int .u32 0, .int .u32 0, .int .u32 0, .int .u32 0, .int .u32 0, .int .u32 0] 27)).alloc (.cells #[.int .i64 0, .int .i64 0, .bool false, .int .i64 0] 37)) := ((But.refl [] w2).alloc _).alloc _
  have HT5 : Hid (((w2.alloc (.cells #[.int .u32 0, .int .u32 0, .int .u32 0, .int .u32 0, .int .u32 0, .int .u32 0, .int .u32 0, .int .u32 0, .int .u32 0, .int .u32 0, .int .u32 0, .int .u32 0, .int .u32 0, .int .u32 0, .int .u32 0, .int .u32 0, .int .u32 0] 27)).alloc (.cells #[.int .i64 0, .int .i64 0, .bool false, .int .i64 0] 37)).there w2.heap.size 0 (Cp.cvl c).toArray.size) := by show World.there _ _ _ _; rw [show (Cp.cvl c).toArray.size = 17 by rw [List.size_toArray, Cp.cvl_len, HLN.out]]; exact hT5
  have HT6 : Hid (∀ cs : List Value, (((w2.alloc (.cells #[.int .u32 0, .int .u32 0, .int .u32 0, .int .u32 0, .int .u32 0, .int .u32 0, .int .u32 0, .int .u32 0, .int .u32 0, .int .u32 0, .int .u32 0, .int .u32 0, .int .u32 0, .int .u32 0, .int .u32 0, .int .u32 0, .int .u32 0] 27)).alloc (.cells #[.int .i64 0, .int .i64 0, .bool false, .int .i64 0] 37)).setCells w2.heap.size 0 cs).there (w2.heap.size + 1) 0 4) := fun cs => World.there_setCells hT6 _ _ _
  have HI : Hid ((Try.prog.info? 27).map (·.size) = some (Cp.cvl c).toArray.size) := by show _ = _; rw [List.size_toArray]; exact Cp.cvl_info c HLN.out
  obtain ⟨v1, v2⟩ := Cp.two_laid ((w2.alloc (.cells #[.int .u32 0, .int .u32 0, .int .u32 0, .int .u32 0, .int .u32 0, .int .u32 0, .int .u32 0, .int .u32 0, .int .u32 0, .int .u32 0, .int .u32 0, .int .u32 0, .int .u32 0, .int .u32 0, .int .u32 0, .int .u32 0, .int .u32 0] 27)).alloc (.cells #[.int .i64 0, .int .i64 0, .bool false, .int .i64 0] 37)) w2.heap.size (w2.heap.size + 1) (Cp.cvl c) [.int .i64 3, .int .i64 0, .bool false, .int .i64 0] (by rw [Cp.cvl_len, HLN.out]; exact hT5) hT6 (by omega)
  have hK4 : But [w2.heap.size, w2.heap.size + 1] w2 ((((w2.alloc (.cells #[.int .u32 0, .int .u32 0, .int .u32 0, .int .u32 0, .int .u32 0, .int .u32 0, .int .u32 0, .int .u32 0, .int .u32 0, .int .u32 0, .int .u32 0, .int .u32 0, .int .u32 0, .int .u32 0, .int .u32 0, .int .u32 0, .int .u32 0] 27)).alloc (.cells #[.int .i64 0, .int .i64 0, .bool false, .int .i64 0] 37)).setCells w2.heap.size 0 (Cp.cvl c)).setCells (w2.heap.size + 1) 0 [.int .i64 3, .int .i64 0, .bool false, .int .i64 0]) := ((hK3.any _).setCells (by simp) _ _).setCells (by simp) _ _
  clear hT5 hT6 hK3
  have heq := Cp.eqTrap ⟨3, 0, false, 0⟩
  have heqc := Cp.eqCtx c HLN.out
  simp only at heq
  go_upto_region 3 with (first
    | (refine wpList_store_mid rfl 27 _ _ rfl w2.heap.size 0 (Cp.cvl c).toArray rfl rfl ?ht HI.out (all_oneCell_toArray (Cp.cvl_one c)) ?_; case ht => exact HT5.out)
    | (refine wpList_store_mid rfl 37 _ _ rfl (w2.heap.size + 1) 0 #[.int .i64 3, .int .i64 0, .bool false, .int .i64 0] rfl rfl ?ht Cp.Try.sizeTrap (Cp.Tr.vs_all ⟨3, 0, false, 0⟩) ?_; case ht => exact HT6.out _))
  obtain ⟨b5, hb5⟩ : ∃ b5, b5 = w2.heap.size := ⟨_, rfl⟩
  have hgl : g < b5 := by rw [hb5]; exact lt_of_cell (HRC2.out 0 _ (Cp.cvl_get c 0 (by rw [HLN.out]; omega)))
  generalize (((w2.alloc (.cells #[.int .u32 0, .int .u32 0, .int .u32 0, .int .u32 0, .int .u32 0, .int .u32 0, .int .u32 0, .int .u32 0, .int .u32 0, .int .u32 0, .int .u32 0, .int .u32 0, .int .u32 0, .int .u32 0, .int .u32 0, .int .u32 0, .int .u32 0] 27)).alloc (.cells #[.int .i64 0, .int .i64 0, .bool false, .int .i64 0] 37)).setCells w2.heap.size 0 (Cp.cvl c)).setCells (w2.heap.size + 1) 0 [.int .i64 3, .int .i64 0, .bool false, .int .i64 0] = w4 at v1 v2 hK4 ⊢
  rw [← hb5] at v1 v2 hK4 ⊢
  have HV1 : Hid (w4.rangeAt b5 0 (Cp.cvl c)) := v1
  have HV0 : Hid (w4.rangeAt g 3 (Cp.cvl c)) := range_keep HRC2.out hK4 (by simp; omega)
  have e3 : w4.cell? ⟨b5 + 1, 0, none⟩ = some (.int .i64 3) := v2 0 _ rfl
  have e4 : w4.cell? ⟨b5 + 1, 1, none⟩ = some (.int .i64 0) := v2 1 _ rfl
  have e5 : w4.cell? ⟨b5 + 1, 2, none⟩ = some (.bool false) := v2 2 _ rfl
  have e6 : w4.cell? ⟨b5 + 1, 3, none⟩ = some (.int .i64 0) := v2 3 _ rfl
  have HK4 : Hid (But [] w w4) := Cp.but_fresh HK2.out hK4 (by have := HK2.out.size; simp; omega)
  clear v1 v2 hK4 hb5 HT5 HT6 HI hs2
  go_wp2_with (first
    | (refine wpList_load_mid rfl 27 _ rfl b5 0 rfl (Cp.cvl c) _ HV1.out Try.underlying27 rfl (Cp.cvl_info c HLN.out) ?_)
    | (refine wpList_load_mid rfl 27 _ rfl g 3 rfl (Cp.cvl c) _ HV0.out Try.underlying27 rfl (Cp.cvl_info c HLN.out) ?_)
    | (go_at_call 11; refine (Cp.awake_c _).mono ?_; rintro e w5 ⟨rfl, k5⟩))
  go_ret
  exact ⟨rfl, (HK4.out.trans k5).below (Nat.le_refl _) (by simp)⟩

set_option maxRecDepth 100000 in
theorem lifted (os : Os) (started : os.Started) (H : Type) (enc : TypeId × Value → H) :
    ReturnsInHanded {} Try.checked os 6 .any (Rows.cpuNoneSpec.pre6 enc Try.prog Try.f6 Rows.cpuNoneRow.domain false) (Rows.cpuNoneSpec.post enc Try.prog Try.f6 false true false false) := by
  refine returnsInHanded_of_change (C := Try.checked) own started (by kernel_rfl) Try.func6
    (ChangeSpec.witness6 (enc := enc) (C := Try.checked) false ⟨#[], #[.agg #[.slice none 0 0, .slice none 0 0, .int .i64 0, .int .u32 0, .int .u32 0, .int .u32 0, .int .u32 0, .int .u32 0, .int .u32 0, .int .u32 0, .int .u32 0, .int .u32 0, .int .u32 0, .int .u32 0, .int .u32 0, .int .u32 0, .int .u32 0, .int .u32 0, .int .u32 0, .int .u32 0]], []⟩ 8 (by kernel_rfl) (by kernel_rfl) (by kernel_rfl) (by kernel_rfl)) ?_
  intro W base args ds gs before hval0 hW hcnd _
  have hval : ∀ (j : Nat) t v, Try.f6.params[j]? = some t → args[j]? = some v → Value.okWide Try.prog W .any base t v := hval0
  have hW' := hW
  obtain ⟨p, q, hA0, hV, rfl, hfz, hnd⟩ := hW
  have hA : DataW.TrodAll enc Try.prog W 0 (fun _ => true) true Try.f6.params.toList args.toList ds p := hA0
  rw [Try.params6] at hA hval
  obtain ⟨v0, vs0, d0, ds0, p0, q0, hargs, rfl, rfl, h0, t0⟩ := trodAll_cons hA
  obtain ⟨rfl, rfl, rfl⟩ := trodAll_nil t0
  obtain rfl : args = #[v0] := by cases args; simp_all
  obtain ⟨rfl, rfl⟩ := trodVars_none hV
  have k0 := h0
  have lt0 : ∀ x ∈ p0, x.block < W.heap.size := by obtain ⟨m, hm⟩ := k0; exact DataW.trod_lt m _ _ _ hm
  obtain ⟨c0, rfl, -⟩ := okWide_struct Try.underlying29 (hval 0 29 v0 rfl rfl)
  have f0 := Cp.start_open h0
  clear hA0 hval0
  refine (walk W c0 f0).mono fun e W' ⟨he, hg⟩ => ?_
  subst he
  exact ⟨_, rfl, _, _, _, [], _, [], hW', (trodAll_cons_mk (shut_bool Try.underlying4 _) trodAll_mk0), (trodAll_cons_mk (Below.trod laidOut (by kernel_rfl) (of_decide_eq_true (by kernel_rfl)) k0 hg lt0) trodAll_mk0), rfl, hg.frame _, (fun h => by cases h)⟩

theorem over : Rows.cpuNoneRow.holds Try.pinned (OpenSpec.ofChange Rows.cpuNoneSpec) :=
  OpenClaim.holds_of_wide 6 Try.f6 rfl rfl rfl rfl rfl rfl rfl ⟨rfl, rfl, rfl, rfl, rfl⟩ rfl rfl rfl rfl rfl (by kernel_rfl) Try.func6 (by kernel_rfl)
    (of_decide_eq_true (by kernel_rfl)) (by unfold Func.isWrapper; first | (rw [if_pos (by decide +kernel)]; kernel_rfl) | (rw [if_neg (by decide +kernel)]; exact ⟨rfl, rfl⟩))
    (fun os started H enc _ => lifted os started H enc)
end Go.Proofs.Ytjlcncdhlcpklaa.cpuNone
namespace Go.Proofs.Ytjlcncdhlcpklaa
/-- The statement, by its short name. -/
theorem cpuNone_holds : Rows.CpuNoneSaid := cpuNone.over
#print axioms cpuNone_holds
end Go.Proofs.Ytjlcncdhlcpklaa
