/-
  Layer 14 (abi): the contract of the statement about which calls may be, over the translated program.
-/
import Derived.Test.YtecgeoafahohjaaDoorAbAwake
import Derived.Test.YtecgeoafahohjaaDoorAbRight
import Derived.Test.YtecgeoafahohjaaDoorAbFlat
import Derived.Test.YtecgeoafahohjaaDoorHeld
import Derived.Deep.RegionHeld3
import Derived.Deep.DeepCutAuto
namespace Go.Proofs.YtecgeoafahohjaaDoor.Ab
open Go.ChangeShapes Go.WideShapes Go.ChangeAt Go.RowKit
open Wh
set_option linter.unusedVariables false
set_option maxRecDepth 20000

theorem fm_eq (x : Int) : ((sv (fm x)).toList == [45]) = !kn x := by
  rw [sv_list]
  cases h : kn x with
  | true => rw [fm_yes h, lt_ne]; rfl
  | false => rw [fm_no h]; rfl
set_option maxHeartbeats 2000000 in
theorem checks_c (x : Int) (g : Nat → Int) (r : List Int) (w : World) (h : NumOk w) (hr : r.length = 33) : Calls Tryd.prog 3 #[.agg (cv x g r).toArray] w fun e w' => e = .returned (.bool true) ∧ But [] w w' := by
  obtain ⟨b, hb⟩ : ∃ b, b = w.heap.size := ⟨_, rfl⟩
  obtain ⟨w0, hw0⟩ : ∃ w0, w0 = w.alloc (.cells (cv x g r).toArray 29) := ⟨_, rfl⟩
  have hc := call_new w x g hr 29
  rw [← hw0, ← hb] at hc
  have HC := hid hc
  have HB : Hid (But [] w w0) := by show But _ _ _; rw [hw0]; exact (But.refl [] w).alloc _
  have HO : Hid (NumOk w0) := h.keep0 HB.out
  have HR := hid hr
  clear h hc hr
  go_enter Tryd.func3, Tryd.ntmps3
  go_upto_region 1 with fail
  rw [← hw0, ← hb]
  clear hw0 hb
  go_wp2_with (first
    | (refine wpList_load_mid rfl 29 _ rfl b 0 rfl (cv x g r) _ HC.out.all Tryd.underlying29 rfl (iCall x g HR.out) ?_))
  refine (right_c x g r _ HR.out).mono ?_
  rintro e w1 ⟨rfl, k1⟩
  have HB1 := hid (HB.out.trans k1)
  have HC1 := hid (HC.out.keep0 k1)
  have HO1 := hid (HO.out.keep0 k1)
  clear k1
  obtain ⟨z, hz⟩ : ∃ z, z = rgB x g r := ⟨_, rfl⟩
  rw [← hz]
  have HZ := hid hz
  clear hz
  go_upto_if 5 with fail
  go_cut [3] (fun s3 wx => s3 = .int .i64 (erI z) ∧ wx = w1)
  case first =>
    cases z with
    | true =>
      go_wp2
      go_meet
      exact ⟨rfl, rfl⟩
    | false =>
      go_wp2
      go_meet
      exact ⟨rfl, rfl⟩
  case rest =>
  obtain ⟨rfl, hwa⟩ := hcut
  rw [hwa]
  clear hwa
  have hfe := fm_eq x
  have HF : Hid (∀ wx : World, Calls Tryd.prog 10 #[.int .i64 x] wx fun e w' => e = .returned (.string (sv (fm x))) ∧ But [] wx w') := fun wx => form_c x wx
  have HKN : Hid (∀ wx : World, Calls Tryd.prog 9 #[.int .i64 x] wx fun e w' => e = .returned (.bool (kn x)) ∧ wx = w') := fun wx => known_c x wx
  have HCK : Hid (∀ wx : World, But [] w1 wx → Calls Tryd.prog 8 #[.agg (cv x g r).toArray] wx fun e w' => e = .returned (.int .i64 (erI z)) ∧ But [] wx w') := fun wx h => by
    have := check_c x g r wx (HO1.out.keep0 h) HR.out
    rw [← HZ.out] at this
    exact this
  have HAW : Hid (∀ wx : World, But [] w1 wx → Calls Tryd.prog 11 #[] wx fun e w' => e = .returned (.bool true) ∧ But [] wx w') := fun wx h => awake_c wx (HO1.out.keep0 h)
  have HSX : Hid (∀ w' : World, But [] w1 w' → w'.rangeAt b 0 (cv x g r) ∧ w'.cell? ⟨b, 0, none⟩ = some (.int .i64 x)) := fun w' h => ⟨(HC1.out.keep0 h).all, (HC1.out.keep0 h).op⟩
  have HD0 : Hid (But [] w1 w1.drew) := (But.refl [] w1).drew
  generalize fm x = f at *
  generalize kn x = q at *
  generalize erI z = E at *
  go_wp2
  refine wp_region_noPanic ?_
  refine wp_region_held_drew (S := fun w' => But [] w1 w') (by kernel_rfl) HD0.out (fun hS0 => ?_)
  refine held_take 0 (some 6) (.agg (cv x g r).toArray) rfl rfl (by kernel_rfl) (by kernel_rfl) (by kernel_rfl) (fun _ _ _ h => h) (yieldsIf_load_mid (by rfl) _ _ rfl b 0 rfl (cv x g r) _ (fun w' h => (HSX.out _ h).1) Tryd.underlying29 rfl (iCall x g HR.out)) hS0 ?_
  simp only [Act.put, List.setIfInBounds_toArray, List.set_cons_zero, List.set_cons_succ]
  refine held_take 2 (some 8) (.int .i64 E) rfl rfl (by kernel_rfl) (by kernel_rfl) (by kernel_rfl) (fun _ _ _ h => h) (Or.inl ⟨by rfl, fun w' hw' => by go_simp⟩) hS0 ?_
  simp only [Act.put, List.setIfInBounds_toArray, List.set_cons_zero, List.set_cons_succ]
  refine held_one 1 rfl (by kernel_rfl) (by rfl) (fun K hK => ?_)
  go_simp
  refine (HCK.out _ hS0).mono ?_
  rintro e w1 ⟨rfl, k1⟩
  go_wp2_with fail
  refine hK _ _ (hS0.trans k1) (fun hS1 => ?_)
  clear hK K hS0
  try simp only [Act.put, List.setIfInBounds_toArray, List.set_cons_zero, List.set_cons_succ]
  refine held_take 3 (some 9) (.bool true) rfl rfl (by kernel_rfl) (by kernel_rfl) (by kernel_rfl) (fun _ _ _ h => h) (Or.inl ⟨by rfl, fun w' hw' => by go_simp⟩) hS1 ?_
  simp only [Act.put, List.setIfInBounds_toArray, List.set_cons_zero, List.set_cons_succ]
  refine held_take 4 (some 10) (.bool true) rfl rfl (by kernel_rfl) (by kernel_rfl) (by kernel_rfl) (fun _ _ _ h => h) (Or.inl ⟨by rfl, fun w' hw' => by go_simp⟩) hS1 ?_
  simp only [Act.put, List.setIfInBounds_toArray, List.set_cons_zero, List.set_cons_succ]
  refine held_take 5 (some 11) (.pointer (some ⟨b, 0, none⟩)) rfl rfl (by kernel_rfl) (by kernel_rfl) (by kernel_rfl) (fun _ _ _ h => h) (Or.inl ⟨by rfl, fun w' hw' => by go_simp⟩) hS1 ?_
  simp only [Act.put, List.setIfInBounds_toArray, List.set_cons_zero, List.set_cons_succ]
  refine held_take 8 (some 14) (.pointer (some ⟨b, 0, none⟩)) rfl rfl (by kernel_rfl) (by kernel_rfl) (by kernel_rfl) (fun _ _ _ h => h) (Or.inl ⟨by rfl, fun w' hw' => by go_simp⟩) hS1 ?_
  simp only [Act.put, List.setIfInBounds_toArray, List.set_cons_zero, List.set_cons_succ]
  refine held_take 6 (some 12) (.int .i64 x) rfl rfl (by kernel_rfl) (by kernel_rfl) (by kernel_rfl) (fun _ _ _ h => h) (Or.inl ⟨by rfl, fun w' hw' => by have hcell := (HSX.out _ hw').2; go_simp⟩) hS1 ?_
  simp only [Act.put, List.setIfInBounds_toArray, List.set_cons_zero, List.set_cons_succ]
  refine held_take 9 (some 15) (.int .i64 x) rfl rfl (by kernel_rfl) (by kernel_rfl) (by kernel_rfl) (fun _ _ _ h => h) (Or.inl ⟨by rfl, fun w' hw' => by have hcell := (HSX.out _ hw').2; go_simp⟩) hS1 ?_
  simp only [Act.put, List.setIfInBounds_toArray, List.set_cons_zero, List.set_cons_succ]
  refine held_one 7 rfl (by kernel_rfl) (by rfl) (fun K hK => ?_)
  go_simp
  refine (HKN.out _).mono ?_
  rintro e w7 ⟨rfl, k7⟩
  go_wp2_with fail
  refine hK _ _ (k7 ▸ hS1) (fun hS7 => ?_)
  clear hK K hS1
  try simp only [Act.put, List.setIfInBounds_toArray, List.set_cons_zero, List.set_cons_succ]
  refine held_one 10 rfl (by kernel_rfl) (by rfl) (fun K hK => ?_)
  go_simp
  refine (HF.out _).mono ?_
  rintro e w10 ⟨rfl, k10⟩
  go_wp2_with fail
  refine hK _ _ (hS7.trans k10) (fun hS10 => ?_)
  clear hK K hS7
  try simp only [Act.put, List.setIfInBounds_toArray, List.set_cons_zero, List.set_cons_succ]
  refine held_take 11 (some 17) (.bool q) rfl rfl (by kernel_rfl) (by kernel_rfl) (by kernel_rfl) (fun _ _ _ h => h) (Or.inl ⟨by rfl, fun w' hw' => by go_simp⟩) hS10 ?_
  simp only [Act.put, List.setIfInBounds_toArray, List.set_cons_zero, List.set_cons_succ]
  refine held_take 12 (some 18) (.bool true) rfl rfl (by kernel_rfl) (by kernel_rfl) (by kernel_rfl) (fun _ _ _ h => h) (Or.inl ⟨by rfl, fun w' hw' => by go_simp⟩) hS10 ?_
  simp only [Act.put, List.setIfInBounds_toArray, List.set_cons_zero, List.set_cons_succ]
  refine held_take 13 (some 19) (.bool true) rfl rfl (by kernel_rfl) (by kernel_rfl) (by kernel_rfl) (fun _ _ _ h => h) (Or.inl ⟨by rfl, fun w' hw' => by go_simp⟩) hS10 ?_
  simp only [Act.put, List.setIfInBounds_toArray, List.set_cons_zero, List.set_cons_succ]
  refine held_take 14 (some 20) (.bool true) rfl rfl (by kernel_rfl) (by kernel_rfl) (by kernel_rfl) (fun _ _ _ h => h) (Or.inl ⟨by rfl, fun w' hw' => by go_simp⟩) hS10 ?_
  simp only [Act.put, List.setIfInBounds_toArray, List.set_cons_zero, List.set_cons_succ]
  refine held_one 15 rfl (by kernel_rfl) (by rfl) (fun K hK => ?_)
  go_simp
  refine (HAW.out _ hS10).mono ?_
  rintro e w15 ⟨rfl, k15⟩
  go_wp2_with fail
  refine hK _ _ (hS10.trans k15) (fun hS15 => ?_)
  clear hK K hS10
  try simp only [Act.put, List.setIfInBounds_toArray, List.set_cons_zero, List.set_cons_succ]
  refine held_take 16 (some 22) (.bool true) rfl rfl (by kernel_rfl) (by kernel_rfl) (by kernel_rfl) (fun _ _ _ h => h) (Or.inl ⟨by rfl, fun w' hw' => by go_simp⟩) hS15 ?_
  simp only [Act.put, List.setIfInBounds_toArray, List.set_cons_zero, List.set_cons_succ]
  refine held_take 17 (some 2) (.bool true) rfl rfl (by kernel_rfl) (by kernel_rfl) (by kernel_rfl) (fun _ _ _ h => h) (Or.inl ⟨by rfl, fun w' hw' => by go_simp⟩) hS15 ?_
  simp only [Act.put, List.setIfInBounds_toArray, List.set_cons_zero, List.set_cons_succ]
  refine wpAnyH_done (by kernel_rfl) ?_ _
  refine NoPanic.normal ?_
  have HKE := hid hS15
  clear hS15
  go_wp2
  go_ret
  exact ⟨rfl, HB1.out.trans HKE.out⟩
end Go.Proofs.YtecgeoafahohjaaDoor.Ab
