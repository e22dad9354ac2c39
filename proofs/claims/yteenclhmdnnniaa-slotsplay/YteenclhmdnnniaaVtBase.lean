/-
  Layer 16 (slots): a vector in memory; contracts of may, Len, All (with slices.Clone), Wait (with slices.Index), over the translated program.
-/
import Derived.Test.YteenclhmdnnniaaVtMath
import Derived.Test.YteenclhmdnnniaaChecked
import Derived.Deep.LoopGhost
import Derived.Deep.QuietTactic
import Derived.BigQuiet
import Derived.Lib.SliceRun
import Derived.Deep.CutBlock
import Derived.Deep.CutRange
import Derived.Deep.RegionHeld3
namespace Go.Proofs.Yteenclhmdnnniaa.Vt
open Go.ChangeShapes Go.WideShapes Go.ChangeAt Go.RowKit
open Wh
set_option linter.unusedVariables false
set_option maxRecDepth 20000

abbrev vT : TypeId := 25
theorem zVec (w : World) : Sem.run Try.prog (zeroValue vT) w = .ok (.agg (vc []).toArray) w := by kernel_rfl
theorem szVec : (Try.prog.info? vT).map (·.size) = some 33 := by kernel_rfl
theorem iVec (l : List Int) : (Try.prog.info? vT).map (·.size) = some (vc l).length := by rw [vc_len]; exact szVec
theorem iVec' (l : List Int) : (Try.prog.info? vT).map (·.size) = some (vc l).toArray.size := by rw [vc_size]; exact szVec
theorem infoInt : (Try.prog.info? 3).map (fun i => (i.zero, i.size, i.bytes)) = some (some (.int .i64 0), 1, 8) := by kernel_rfl
/-- Block b is a vector. -/
def VtAt (w : World) (b : Nat) (l : List Int) : Prop := VB w b 33 fun j => .int .i64 (vf l j)
section
variable {w : World} {b : Nat} {l : List Int}
theorem VtAt.lt (h : VtAt w b l) : b < w.heap.size := VB.lt h (by omega)
theorem VtAt.keep {k : List Nat} {w' : World} (h : VtAt w b l) (hk : But k w w') (hn : b ∉ k) : VtAt w' b l := VB.keep h hk hn
theorem VtAt.keep0 {w' : World} (h : VtAt w b l) (hk : But [] w w') : VtAt w' b l := VB.keep h hk (by simp)
theorem VtAt.all (h : VtAt w b l) : w.rangeAt b 0 (vc l) := VB.range h _ (by rw [vc_len]; omega) fun i hi => by
  rw [vc_len] at hi
  rw [vc_get l i hi, Nat.zero_add]
theorem VtAt.n (h : VtAt w b l) : w.cell? ⟨b, 32, none⟩ = some (.int .i64 (l.length : Nat)) := by
  have := (h 32 (by omega)).1
  rwa [show (fun j => Value.int .i64 (vf l j)) 32 = .int .i64 (l.length : Nat) from congrArg (Value.int .i64) (vf_n l)] at this
theorem VtAt.at_ (h : VtAt w b l) {j : Nat} (hj : j < 32) : w.cell? ⟨b, j, none⟩ = some (.int .i64 (l.getD j 0)) := by
  have := (h j (by omega)).1
  rwa [show (fun j => Value.int .i64 (vf l j)) j = .int .i64 (l.getD j 0) from congrArg (Value.int .i64) (vf_lo l hj)] at this
theorem VtAt.there (h : VtAt w b l) : w.there b 0 33 := VB.there h (by omega)
end
theorem vt_new (w : World) (l : List Int) : VtAt (w.alloc (.cells (vc l).toArray vT)) w.heap.size l :=
  VB.new w _ vT 33 (vc_size l) _ fun j hj => by rw [List.getElem?_toArray]; exact vc_get l j hj
theorem vt_sets {w : World} {b : Nat} (h : w.there b 0 33) (l : List Int) : VtAt (w.setCells b 0 (vc l)) b l := fun j hj => by
  have hR := World.rangeAt_setCells_same w b 0 (vc l) (by rw [vc_len]; exact h)
  have hT := World.there_setCells h b 0 (vc l)
  refine ⟨?_, ?_⟩
  · have := hR j _ (vc_get l j hj); rwa [Nat.zero_add] at this
  · have := (hT j hj).2; rwa [Nat.zero_add] at this

theorem may_c (x : Int) (w : World) : Calls Try.prog 19 #[.int .i64 x] w fun e w' => e = .returned (.bool (mb x)) ∧ w = w' := by
  by_cases h0 : 0 ≤ x
  · by_cases h1 : x < 16
    · have e : mb x = true := mb_iff.2 ⟨h0, h1⟩
      rw [e]
      clear e
      go_enter Try.func19, Try.ntmps19
      go_wp2
      go_ret
      exact ⟨rfl, rfl⟩
    · have e : mb x = false := Bool.eq_false_iff.2 fun hh => h1 (mb_iff.1 hh).2
      rw [e]
      clear e
      go_enter Try.func19, Try.ntmps19
      go_wp2
      go_ret
      exact ⟨rfl, rfl⟩
  · have e : mb x = false := Bool.eq_false_iff.2 fun hh => h0 (mb_iff.1 hh).1
    rw [e]
    clear e
    go_enter Try.func19, Try.ntmps19
    go_wp2
    go_ret
    exact ⟨rfl, rfl⟩
theorem len_c (l : List Int) (w : World) : Calls Try.prog 8 #[vv l] w fun e w' => e = .returned (.int .i64 (l.length : Nat)) ∧ But [] w w' := by
  obtain ⟨b, hb⟩ : ∃ b, b = w.heap.size := ⟨_, rfl⟩
  obtain ⟨w0, hw0⟩ : ∃ w0, w0 = w.alloc (.cells (vc l).toArray vT) := ⟨_, rfl⟩
  have HB0 : Hid (But [] w w0) := by show But _ _ _; rw [hw0]; exact (But.refl [] w).alloc _
  have hv := vt_new w l
  rw [← hw0, ← hb] at hv
  have hc := hv.n
  obtain ⟨n, hn⟩ : ∃ n, l.length = n := ⟨_, rfl⟩
  rw [hn] at hc ⊢
  clear hv hn
  unfold vv
  go_enter Try.func8, Try.ntmps8
  go_upto_region 1 with fail
  rw [← hw0, ← hb]
  clear hw0 hb
  go_wp2
  go_ret
  exact ⟨rfl, HB0.out⟩
theorem que_lower {w : World} {base base' size n : Nat} {v : Value} {xs : List Value} (h : Que w base size v n xs) (hb : base' ≤ base) : Que w base' size v n xs := by
  refine ⟨h.1, ?_⟩
  rcases h.2 with h0 | ⟨g, off, cap, rfl, hb', hg, hr⟩
  · exact .inl h0
  · exact .inr ⟨g, off, cap, rfl, by omega, hg, hr⟩
/-- What lies in a row of the call's own, behind whatever append has made of it. -/
theorem que_all {w : World} {b n : Nat} {l : List Int} (h : VtAt w b l) (hn : l.length = n) (hm : n ≤ 32) :
    ∃ v' w', (Builtin.append_ #[22, 22] 22 #[.slice (some ⟨w.heap.size, 0, none⟩) 0 0, .slice (some ⟨b, 0, none⟩) n 32]).run Try.prog (w.alloc (.cells #[] 3)) = .ok v' w' ∧ Que w' w.heap.size 1 v' n (zi l) ∧ But [] w w' := by
  obtain ⟨i0, hi, hz0, hz1, hz2⟩ := info_parts infoInt
  have hq : Que (w.alloc (.cells #[] 3)) w.heap.size 1 (.slice (some ⟨w.heap.size, 0, none⟩) 0 0) 0 [] :=
    ⟨rfl, .inr ⟨w.heap.size, 0, 0, rfl, Nat.le_refl _, by simp, Nat.le_refl _, Nat.zero_le _, fun j hj => absurd hj (by omega), fun j u hu => by simp at hu⟩⟩
  have hs : Src Try.prog 1 22 (.slice (some ⟨b, 0, none⟩) n 32) n (zi l) (w.alloc (.cells #[] 3)) :=
    Src.ofSlice _ Try.underlying22 ⟨b, 0, none⟩ n 32 (zi l) (by rw [zi_len, hn, Nat.mul_one]) (fun j u hu => by
      have hj : j < l.length := by have := (List.getElem?_eq_some_iff.1 hu).1; rwa [zi_len] at this
      rw [zi_get _ _ hj] at hu
      rw [Addr.add_mid, Nat.zero_add, ← hu]
      exact (h.keep0 ((But.refl [] w).alloc _)).at_ (by omega)) (zi_one l)
  obtain ⟨v', w', hr, hq2, hk, ho⟩ := run_append_que (P := Try.prog) _ w.heap.size 22 22 3 i0 _ 1 8 Try.underlying22 hi hz0 hz1 hz2 rfl (by decide) _ 0 [] hq (.slice (some ⟨b, 0, none⟩) n 32) n (zi l) hs (by unfold maxLen; omega) (by omega) (by simp)
  refine ⟨v', w', hr, by simpa using hq2, but_own ((But.refl [] w).alloc _) hk (fun i hi => ?_)⟩
  simp [Value.ownBlock] at hi
  omega
theorem clone_c (b n : Nat) (l : List Int) (w : World) (h : VtAt w b l) (hn : l.length = n) (hm : n ≤ 32) :
    Calls Try.prog 23 #[.slice (some ⟨b, 0, none⟩) n 32] w fun e w' => ∃ v, e = .returned v ∧ Que w' w.heap.size 1 v n (zi l) ∧ But [] w w' := by
  have HQ := hid (que_all h hn hm)
  clear h hn
  have hsn := fun (a : Option Addr) (l c : Nat) (w : World) => Lib.run_eql_slice_nil (P := Try.prog) w 22 3 a l c 0 0 Try.underlying22
  obtain ⟨v', w', hr, hq, hk⟩ := HQ.out
  have HR := hid hr
  have HQ2 := hid hq
  have HK := hid hk
  clear HQ hr hq hk
  go_enter Try.func23, Try.ntmps23
  go_wp2_with (first
    | (refine wpList_append_known _ rfl _ _ 22 rfl _ _ rfl rfl HR.out ?_))
  go_wp2
  go_ret
  exact ⟨_, rfl, HQ2.out, HK.out⟩
theorem run_cut (w : World) (b n : Nat) (hn : n ≤ 32) : (Instr.sliceAt 23 (.pointer (some ⟨b, 0, none⟩)) none (some (.int .i64 (n : Nat))) none).run Try.prog w = .ok (.slice (some ⟨b, 0, none⟩) n 32) w := by
  have ha : Try.prog.arrayLen 23 = 32 := by kernel_rfl
  have he : Try.prog.elem 23 = 3 := by kernel_rfl
  obtain ⟨i0, hi, hz0, hz1, hz2⟩ := info_parts infoInt
  rw [run_sliceAt_array_h w _ _ (by rw [ha, he]; exact Try.underlying23) .i64 n (by omega) (by rw [ha]; omega), ha, he]
  simp [sizeOf, typeInfo, hi, slicedAt, Addr.add_lit]
theorem all_c (l : List Int) (hl : l.length ≤ 32) (w : World) : Calls Try.prog 17 #[vv l] w fun e w' => ∃ v, e = .returned v ∧ Que w' w.heap.size 1 v l.length (zi l) ∧ But [] w w' := by
  obtain ⟨b, hb⟩ : ∃ b, b = w.heap.size := ⟨_, rfl⟩
  obtain ⟨w0, hw0⟩ : ∃ w0, w0 = w.alloc (.cells (vc l).toArray vT) := ⟨_, rfl⟩
  have HB0 : Hid (But [] w w0) := by show But _ _ _; rw [hw0]; exact (But.refl [] w).alloc _
  have hv := vt_new w l
  rw [← hw0, ← hb] at hv
  have hc := hv.n
  obtain ⟨n, hn⟩ : ∃ n, l.length = n := ⟨_, rfl⟩
  have HC := hid (clone_c b n l w0 hv hn (by omega))
  clear hv
  rw [hn] at hl hc ⊢
  clear hn
  unfold vv
  go_enter Try.func17, Try.ntmps17
  go_upto_region 1 with fail
  rw [← hw0, ← hb]
  clear hw0 hb
  have hcut := fun w => run_cut w b n hl
  go_wp2_with fail
  refine HC.out.mono ?_
  rintro e w1 ⟨v, rfl, hq, k1⟩
  have HQ := hid hq
  have K1 := hid k1
  clear HC hq k1
  go_wp2
  go_ret
  exact ⟨_, rfl, que_lower HQ.out HB0.out.size, HB0.out.trans K1.out⟩
end Go.Proofs.Yteenclhmdnnniaa.Vt
