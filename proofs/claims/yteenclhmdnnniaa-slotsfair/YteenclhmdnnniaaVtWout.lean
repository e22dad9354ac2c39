/-
  Layer 16 (slots): contracts of Without and Share, over the translated program. (Written by tools/gen_vtw.py out of VtWout.head.)
-/
import Derived.Test.YteenclhmdnnniaaVtDel
import Derived.Test.YteenclhmdnnniaaVtNext
namespace Go.Proofs.Yteenclhmdnnniaa.Vt
open Go.ChangeShapes Go.WideShapes Go.ChangeAt Go.RowKit
open Wh
set_option linter.unusedVariables false
set_option maxRecDepth 20000

theorem Try.mf : ∀ (fn : Fn) (first cap : Array Value) (w : World), (Instr.makeFunc fn first cap).run Try.prog w = .ok (.func fn first cap) w := fun _ _ _ _ => rfl
theorem box_three (w : World) (l : List Int) (e : Int) :
    let w0 := ((w.alloc (.cells (vc l).toArray vT)).alloc (.cells #[.int .i64 e] 3)).alloc (.cells (vc []).toArray vT)
    VtAt w0 w.heap.size l ∧ w0.cell? ⟨w.heap.size + 1, 0, none⟩ = some (.int .i64 e) ∧ VtAt w0 (w.heap.size + 2) [] ∧ w0.heap.size = w.heap.size + 3 ∧ But [] w w0 := by
  intro w0
  have s1 : (w.alloc (.cells (vc l).toArray vT)).heap.size = w.heap.size + 1 := by simp
  have s2 : ((w.alloc (.cells (vc l).toArray vT)).alloc (.cells #[.int .i64 e] 3)).heap.size = w.heap.size + 2 := by simp
  have h2 := range_cells (new_range (w.alloc (.cells (vc l).toArray vT)) [.int .i64 e] 3) 0 _ rfl
  rw [s1] at h2
  have h3 := vt_new ((w.alloc (.cells (vc l).toArray vT)).alloc (.cells #[.int .i64 e] 3)) []
  rw [s2] at h3
  exact ⟨((vt_new w l).keep0 ((But.refl [] _).alloc _)).keep0 ((But.refl [] _).alloc _), cell_keep h2 ((But.refl [] _).alloc _) (by simp), h3, by simp [w0], (((But.refl [] w).alloc _).alloc _).alloc _⟩
set_option maxHeartbeats 2000000 in
theorem without_c (l : List Int) (hl : okB l = true) (e : Int) (w : World) : Calls Try.prog 12 #[vv l, .int .i64 e] w fun r w' => r = .returned (vv (wo e l)) ∧ But [] w w' := by
  have hz := zVec
  have hmf := Try.mf
  obtain ⟨b, hb⟩ : ∃ b, b = w.heap.size := ⟨_, rfl⟩
  obtain ⟨w0, hw0⟩ : ∃ w0, w0 = ((w.alloc (.cells (vc l).toArray vT)).alloc (.cells #[.int .i64 e] 3)).alloc (.cells (vc []).toArray vT) := ⟨_, rfl⟩
  obtain ⟨t1, t2, t3, t4, t5⟩ := box_three w l e
  rw [← hw0, ← hb] at t1 t2 t3 t4
  rw [← hw0] at t5
  have HB0 := hid t5
  have HR0 := hid t1.all
  have HC0 := hid t2
  have HT0 : Hid (w0.there (b + 2) 0 (vc (wo e l)).toArray.size) := by show World.there _ _ _ _; rw [vc_size]; exact t3.there
  have HS0 := hid t4
  have HBW := hid hb
  have h32 := okB_len hl
  have HA := hid (all_c l h32 w0)
  have HOK : Hid (okB (wo e l) = true) := wo_ok hl
  clear t1 t2 t3 t4 t5 hl
  unfold vv at HA ⊢
  go_enter Try.func12, Try.ntmps12
  go_upto_region 1 with fail
  rw [← hw0, ← hb]
  clear hw0 hb
  go_wp2_with (first
    | (refine wpList_load_mid rfl vT _ rfl b 0 rfl (vc l) _ HR0.out Try.underlying25 rfl (iVec _) ?_))
  refine HA.out.mono ?_
  rintro r w1 ⟨v, rfl, hq, k1⟩
  have HQ := hid hq
  have K1 := hid k1
  have HC1 : Hid (w1.cell? ⟨b + 1, 0, none⟩ = some (.int .i64 e)) := cell_keep HC0.out k1 (by simp)
  clear hq k1 HA
  go_wp2_with fail
  refine (deleteFunc_c v w0.heap.size _ e (b + 1) l _ HQ.out (by omega) HC1.out (by have := HS0.out; omega)).mono ?_
  rintro r w2 ⟨A, c, rfl, hli, k2⟩
  have K2 : Hid (But [] w0 w2) := but_own K1.out k2 (fun i hi => (HQ.out.lt i hi).1)
  have hof := of_c A _ c (wo e l) w2 hli rfl
  rw [mk_ok HOK.out, HOK.out] at hof
  unfold vv at hof
  have HOF := hid hof
  clear hof hli k2 HQ HC1
  go_wp2_with fail
  refine HOF.out.mono ?_
  rintro r w3 ⟨rfl, k3⟩
  have K3 := hid (K2.out.trans k3)
  obtain ⟨b3, hb3⟩ : ∃ b3, b3 = w3.heap.size := ⟨_, rfl⟩
  obtain ⟨w4, hw4⟩ : ∃ w4, w4 = w3.alloc (.cells (vc (wo e l)).toArray vT) := ⟨_, rfl⟩
  have HR4 : Hid (w4.rangeAt b3 0 (vc (wo e l))) := by show World.rangeAt _ _ _ _; rw [hw4, hb3]; exact new_range w3 _ _
  have K4 : Hid (But [] w0 w4) := by show But _ _ _; rw [hw4]; exact K3.out.alloc _
  have HT4 : Hid (w4.there (b + 2) 0 (vc (wo e l)).toArray.size) := there_keep HT0.out K4.out (by have := HS0.out; omega) (by simp)
  clear k3 HOF
  go_upto_region 2 with (first
    | (refine wpList_store_new rfl vT _ _ rfl (vc []).toArray (vc (wo e l)).toArray rfl rfl (iVec' _) (by rw [vc_size, vc_size]) (vc_all _) ?_))
  rw [← hw4, ← hb3]
  clear hw4 hb3
  go_wp2_with (first
    | (refine wpList_load_mid rfl vT _ rfl b3 0 rfl (vc (wo e l)) _ HR4.out Try.underlying25 rfl (iVec _) ?_)
    | (refine wpList_store_mid rfl vT _ _ rfl (b + 2) 0 (vc (wo e l)).toArray rfl rfl ?ht (iVec' _) (vc_all _) ?_; case ht => exact HT4.out))
  refine bodyPost_ret (results_range1 rfl _ _ (b + 2) 0 (vc (wo e l)) _ rfl (World.rangeAt_setCells_same _ _ _ _ (by have := HT4.out; rw [vc_len]; rwa [vc_size] at this)) Try.underlying25 rfl (iVec _)) rfl ?_
  exact ⟨rfl, but_own (HB0.out.trans K4.out) ((But.refl [b + 2] _).setCells (by simp) _ _) (fun i hi => by simp at hi; have := HBW.out; omega)⟩
set_option maxHeartbeats 2000000 in
theorem share_c (l : List Int) (hl : okB l = true) (e : Int) (w : World) : Calls Try.prog 18 #[vv l, .int .i64 e] w fun r w' => r = .returned (.int .i64 (cnt e l)) ∧ But [] w w' := by
  obtain ⟨b, hb⟩ : ∃ b, b = w.heap.size := ⟨_, rfl⟩
  obtain ⟨w0, hw0⟩ : ∃ w0, w0 = w.alloc (.cells (vc l).toArray vT) := ⟨_, rfl⟩
  have HB0 : Hid (But [] w w0) := by show But _ _ _; rw [hw0]; exact (But.refl [] w).alloc _
  have hv := vt_new w l
  rw [← hw0, ← hb] at hv
  have HR := hid hv.all
  clear hv
  have HO := hid hl
  have h32 := okB_len hl
  have hle := wo_le e l
  have HLC := hid (fun w => len_c l w)
  have HLC2 := hid (fun w => len_c (wo e l) w)
  have HWC := hid (fun w => without_c l hl e w)
  have HCN : Hid (cnt e l = (l.length : Int) - ((wo e l).length : Nat)) := by show _ = _; unfold cnt; rfl
  generalize l.length = n at *
  generalize hk : (wo e l).length = k at *
  have HK := hid hk
  clear hl hk
  unfold vv at HLC HLC2 HWC ⊢
  go_enter Try.func18, Try.ntmps18
  go_upto_region 1 with fail
  rw [← hw0, ← hb]
  clear hw0 hb
  have hsub : IntKind.i64.wrap ((n : Int) - k) = n - k := by rw [IntKind.wrap_i64]; omega
  refine wp_region_noPanic ?_
  refine wp_region_held_drew (S := fun w' => But [] w0 w') (by kernel_rfl) (But.refl _ _).drew (fun hS0 => ?_)
  generalize w0.drew = wd at *
  refine held_take 0 (some 5) (.agg (vc l).toArray) rfl rfl (by kernel_rfl) (by kernel_rfl) (by kernel_rfl) (fun _ _ _ h => h) (yieldsIf_load_mid (by rfl) _ _ rfl b 0 rfl (vc l) _ (fun w' h => range_keep HR.out h (by simp)) Try.underlying25 rfl (iVec _)) hS0 ?_
  simp only [Act.put, List.setIfInBounds_toArray, List.set_cons_zero, List.set_cons_succ]
  refine held_take 2 (some 7) (.agg (vc l).toArray) rfl rfl (by kernel_rfl) (by kernel_rfl) (by kernel_rfl) (fun _ _ _ h => h) (yieldsIf_load_mid (by rfl) _ _ rfl b 0 rfl (vc l) _ (fun w' h => range_keep HR.out h (by simp)) Try.underlying25 rfl (iVec _)) hS0 ?_
  simp only [Act.put, List.setIfInBounds_toArray, List.set_cons_zero, List.set_cons_succ]
  refine held_take 3 (some 8) (.int .i64 e) rfl rfl (by kernel_rfl) (by kernel_rfl) (by kernel_rfl) (fun _ _ _ h => h) (Or.inl ⟨by rfl, fun w' hw' => by go_simp⟩) hS0 ?_
  simp only [Act.put, List.setIfInBounds_toArray, List.set_cons_zero, List.set_cons_succ]
  refine held_one 1 rfl (by kernel_rfl) (by rfl) (fun K hK => ?_)
  go_simp
  refine (HLC.out _).mono ?_
  rintro r w6 ⟨rfl, k6⟩
  go_wp2_with fail
  have hS1' : But [] w0 w6 := hS0.trans k6
  skip
  refine hK.out _ _ hS1' (fun hS1 => ?_)
  clear hK K
  try simp only [Act.put, List.setIfInBounds_toArray, List.set_cons_zero, List.set_cons_succ]
  refine held_one 4 rfl (by kernel_rfl) (by rfl) (fun K hK => ?_)
  go_simp
  refine (HWC.out _).mono ?_
  rintro r w9 ⟨rfl, k9⟩
  go_wp2_with fail
  have hS2' : But [] w0 w9 := hS1.trans k9
  skip
  refine hK.out _ _ hS2' (fun hS2 => ?_)
  clear hK K
  try simp only [Act.put, List.setIfInBounds_toArray, List.set_cons_zero, List.set_cons_succ]
  refine held_one 5 rfl (by kernel_rfl) (by rfl) (fun K hK => ?_)
  go_simp
  refine (HLC2.out _).mono ?_
  rintro r w10 ⟨rfl, k10⟩
  go_wp2_with fail
  have hS3' : But [] w0 w10 := hS2.trans k10
  skip
  refine hK.out _ _ hS3' (fun hS3 => ?_)
  clear hK K
  try simp only [Act.put, List.setIfInBounds_toArray, List.set_cons_zero, List.set_cons_succ]
  refine held_take 6 (some 11) (.int .i64 ((n : Int) - k)) rfl rfl (by kernel_rfl) (by kernel_rfl) (by kernel_rfl) (fun _ _ _ h => h) (Or.inl ⟨by rfl, fun w' hw' => by go_simp⟩) hS3 ?_
  simp only [Act.put, List.setIfInBounds_toArray, List.set_cons_zero, List.set_cons_succ]
  refine held_take 7 (some 4) (.int .i64 ((n : Int) - k)) rfl rfl (by kernel_rfl) (by kernel_rfl) (by kernel_rfl) (fun _ _ _ h => h) (Or.inl ⟨by rfl, fun w' hw' => by go_simp⟩) hS3 ?_
  simp only [Act.put, List.setIfInBounds_toArray, List.set_cons_zero, List.set_cons_succ]
  refine wpAnyH_done (by kernel_rfl) ?_ _
  refine NoPanic.normal ?_
  go_wp2_with fail
  go_ret
  exact ⟨by rw [HCN.out]; rfl, HB0.out.trans hS3⟩
end Go.Proofs.Yteenclhmdnnniaa.Vt
