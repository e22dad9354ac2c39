/-
  Layer 8 (disk): the chapter's example, over the translated program.
-/
import Derived.Test.YtnjnplepecmfaaaDkThree
import Derived.Test.YtnjnplepecmfaaaDkRead
namespace Go.Proofs.Ytnjnplepecmfaaa.Dk
open Go.ChangeShapes Go.WideShapes Go.ChangeAt Go.RowKit
set_option linter.unusedVariables false
set_option maxRecDepth 20000

/-- Data that begin with c. -/
def one (c : Int) : Dat := fun j => if j = 0 then c else 0
theorem one_set1 : (dv d0).set 0 (.int .u8 1) = dv (one 1) := by kernel_rfl
theorem one_set2 : (dv d0).set 0 (.int .u8 2) = dv (one 2) := by kernel_rfl
theorem one_set3 : (dv d0).set 0 (.int .u8 3) = dv (one 3) := by kernel_rfl
theorem dv0_ne : (dv d0 = []) = False := by
  simp only [eq_iff_iff, iff_false]
  intro h
  have := congrArg List.length h
  rw [dv_len] at this
  cases this
theorem new_cell0 (w : World) (y : Dat) (t : TypeId) : (w.alloc (.cells (dv y).toArray t)).cell? ⟨w.heap.size, 0, none⟩ = some (.int .u8 (y 0)) := new_range w (dv y) t 0 _ (dv_get y 0 (by omega))
set_option maxHeartbeats 2000000 in
theorem awake_c (w : World) : Calls Try.prog 14 #[] w fun e w' => e = .returned (.bool true) ∧ But [] w w' := by
  have hz := zData
  have hl := dv_len d0
  have hn := dv0_ne
  have h1 := one_set1
  have h2 := one_set2
  have h3 := one_set3
  go_enter Try.func14, Try.ntmps14
  go_wp2_with fail
  refine (new_c 2 _ (by omega) (by omega)).mono ?_
  rintro e w1 ⟨b, bl, rfl, D1, k1⟩
  have HD1 : Hid (DkAt tP w1 w.heap.size b bl 2 2 (.slice none 0 0) L0 []) := D1
  have HK1 : Hid (But [] w w1) := k1
  clear D1 k1
  go_wp2_with fail
  refine (write_c 0 (one 1) HD1.out (by omega) (by simp) HK1.out.size).mono ?_
  rintro e w2 ⟨rfl, v2, D2, k2, f2⟩
  have HD2 : Hid (DkAt tP w2 w.heap.size b bl 2 2 v2 L0 ([] ++ [(0, one 1)])) := D2
  have HK2 : Hid (But [] w w2) := but_new HK1.out k2 (fun i hi => HD1.out.low hi)
  clear D2 k2 f2
  go_wp2_with fail
  refine (flush_c HD2.out (by simp)).mono ?_
  rintro e w3 ⟨rfl, D3, k3⟩
  have HD3 : Hid (DkAt tP w3 w.heap.size b bl 2 2 (.slice none 0 0) (setAll L0 ([] ++ [(0, one 1)])) []) := D3
  have HK3 : Hid (But [] w w3) := but_new HK2.out k3 (fun i hi => by have h1 := HD2.out.lob; have h2 := HD2.out.lol; simp at hi; omega)
  clear D3 k3
  go_wp2_with fail
  refine (write_c 0 (one 2) HD3.out (by omega) (by simp) HK3.out.size).mono ?_
  rintro e w4 ⟨rfl, v4, D4, k4, f4⟩
  have HD4 : Hid (DkAt tP w4 w.heap.size b bl 2 2 v4 (setAll L0 ([] ++ [(0, one 1)])) ([] ++ [(0, one 2)])) := D4
  have HK4 : Hid (But [] w w4) := but_new HK3.out k4 (fun i hi => HD3.out.low hi)
  clear D4 k4 f4
  go_wp2_with fail
  refine (write_c 1 (one 3) HD4.out (by omega) (by simp) HK4.out.size).mono ?_
  rintro e w5 ⟨rfl, v5, D5, k5, f5⟩
  have HD5 : Hid (DkAt tP w5 w.heap.size b bl 2 2 v5 (setAll L0 ([] ++ [(0, one 1)])) ([] ++ [(0, one 2)] ++ [(1, one 3)])) := D5
  have HK5 : Hid (But [] w w5) := but_new HK4.out k5 (fun i hi => HD4.out.low hi)
  have HBL : Hid (Bl (w5.alloc (.cells #[.bool false, .bool true] 4)) (some ⟨w5.heap.size, 0, none⟩) [false, true]) := .inr ⟨w5.heap.size, 0, rfl, by simp, fun j hj => by
    have : j = 0 ∨ j = 1 := by simp at hj; omega
    rw [Nat.zero_add, cell_of_row _ _ j #[.bool false, .bool true] 4 (0, 0) (heap_alloc_last w5 _)]
    rcases this with rfl | rfl <;> rfl⟩
  clear D5 k5 f5
  go_wp2_with fail
  refine (crash_c (some ⟨w5.heap.size, 0, none⟩) 2 [false, true] (HD5.out.keep0 ((But.refl [] w5).alloc _)) (by simp) HBL.out (by decide) (by have := HK5.out.size; simp; omega)).mono ?_
  rintro e w6 ⟨rfl, D6, k6⟩
  rw [show (kp (fun j => [false, true].getD j false) ([] ++ [(0, one 2)] ++ [(1, one 3)])) = [(1, one 3)] from rfl] at D6 ⊢
  have HD6 : Hid (DkAt tP w6 w.heap.size b bl 2 2 (.slice none 0 0) (setAll (setAll L0 ([] ++ [(0, one 1)])) [(1, one 3)]) []) := D6
  have HK6 : Hid (But [] w w6) := but_new (HK5.out.alloc _) k6 (fun i hi => by have h1 := HD5.out.lob; have h2 := HD5.out.lol; simp at hi; omega)
  clear D6 k6 HD1 HD2 HD3 HD4 HD5 HK1 HK2 HK3 HK4 HK5 HBL
  go_wp2_with fail
  refine (read_c 0 HD6.out (by omega) (by simp)).mono ?_
  rintro e w7 ⟨rfl, k7⟩
  rw [show setAll (setAll (setAll L0 ([] ++ [(0, one 1)])) [(1, one 3)]) [] 0 = one 1 from rfl]
  have HD7 : Hid (DkAt tP (w7.alloc (.cells (dv (one 1)).toArray 34)) w.heap.size b bl 2 2 (.slice none 0 0) (setAll (setAll L0 ([] ++ [(0, one 1)])) [(1, one 3)]) []) := (HD6.out.keep0 k7).keep0 ((But.refl [] w7).alloc _)
  have HK7 : Hid (But [] w (w7.alloc (.cells (dv (one 1)).toArray 34))) := (HK6.out.trans k7).alloc _
  have hc7 := new_cell0 w7 (one 1) 34
  obtain ⟨g7, hg7⟩ : ∃ g7, g7 = w7.heap.size := ⟨_, rfl⟩
  rw [← hg7] at hc7
  clear k7
  go_upto_region 8 with (refine wpList_store_new rfl 34 _ _ rfl (dv d0).toArray (dv (one 1)).toArray rfl rfl (iData' _) (by rw [dv_size, dv_size]) (dv_all _) ?_)
  rw [← hg7]
  generalize w7.alloc (.cells (dv (one 1)).toArray 34) = w8 at HD7 HK7 hc7 ⊢
  have HC7 : Hid (w8.cell? ⟨g7, 0, none⟩ = some (.int .u8 1)) := hc7
  clear hg7 hc7
  go_wp2_with fail
  refine (read_c 1 HD7.out (by omega) (by simp)).mono ?_
  rintro e w9 ⟨rfl, k9⟩
  rw [show setAll (setAll (setAll L0 ([] ++ [(0, one 1)])) [(1, one 3)]) [] 1 = one 3 from rfl]
  have HK9 : Hid (But [] w (w9.alloc (.cells (dv (one 3)).toArray 34))) := (HK7.out.trans k9).alloc _
  have hc7 := cell_keep (cell_keep HC7.out k9 (by simp)) ((But.refl [] w9).alloc (.cells (dv (one 3)).toArray 34)) (by simp)
  have hc9 := new_cell0 w9 (one 3) 34
  obtain ⟨g9, hg9⟩ : ∃ g9, g9 = w9.heap.size := ⟨_, rfl⟩
  rw [← hg9] at hc9
  clear k9
  go_upto_region 9 with (refine wpList_store_new rfl 34 _ _ rfl (dv d0).toArray (dv (one 3)).toArray rfl rfl (iData' _) (by rw [dv_size, dv_size]) (dv_all _) ?_)
  rw [← hg9]
  generalize w9.alloc (.cells (dv (one 3)).toArray 34) = w10 at HK9 hc7 hc9 ⊢
  have hc9' : w10.cell? ⟨g9, 0, none⟩ = some (.int .u8 3) := hc9
  clear hg9 hc9 hz hl hn h1 h2 h3
  go_wp2
  go_ret
  exact ⟨rfl, HK9.out⟩
end Go.Proofs.Ytnjnplepecmfaaa.Dk
