/-
  Layer 12 (caps): the contract of cut, over the translated program.
-/
import Derived.Test.YtlppfcoclpdanaaCsPut
import Derived.Test.YtlppfcoclpdanaaFloat
namespace Go.Proofs.Ytlppfcoclpdanaa.Cs
open Go.ChangeShapes Go.WideShapes Go.ChangeAt Go.RowKit
open Wh Sn
set_option linter.unusedVariables false
set_option maxRecDepth 20000

theorem oneSet (A : Option Addr) (n c : Nat) : ([Value.slice A n c].toArray).all (·.oneCell') = true :=
  all_oneCell_toArray (fun v hv => by
    simp only [List.mem_cons, List.not_mem_nil, or_false] at hv
    subst hv; rfl)
/-- A set in a box of its own. -/
structure Lf (Z : List Nat) (w0 : World) (g : Nat → Bool) (B2 : Nat) (A2 : Option Addr) (n2 c2 : Nat) (wx : World) : Prop where
  cell : wx.cell? ⟨B2, 0, none⟩ = some (.slice A2 n2 c2)
  set : SetAt wx 0 A2 n2 g
  off : Off Z A2 n2
  but : But [] w0 wx
set_option maxHeartbeats 2000000 in
theorem cut_c (b m : Nat) (Z : List Nat) (T : Tr) (f : Nat → Value) (p : Nat) (hp : p < 64) (A : Option Addr) (n c lo : Nat) (s : Nat → Bool) (w : World) (h : TrAt w b Z T m f) (hs : SetAt w lo A n s) :
    Calls Try.prog 47 #[.pointer (some ⟨b, 0, none⟩), .int .i64 p, .agg #[.slice A n c]] w fun e w' =>
      e = .returned (.tuple #[]) ∧ TrA w' b Z (updN T p (cutN p (T p) s)) m ∧ But [b] w w' := by
  obtain ⟨B, hB⟩ : ∃ B, B = w.heap.size := ⟨_, rfl⟩
  obtain ⟨w0, hw0⟩ : ∃ w0, w0 = w.alloc (.cells #[.slice A n c] 31) := ⟨_, rfl⟩
  have hr := new_range w [.slice A n c] 31
  have HK0 : Hid (But [] w w0) := by show But _ _ _; rw [hw0]; exact (But.refl [] w).alloc _
  change (w.alloc (.cells #[.slice A n c] 31)).rangeAt _ _ _ at hr
  rw [← hw0, ← hB] at hr
  have HC1 : Hid (w0.cell? ⟨B, 0, none⟩ = some (.slice A n c)) := range_cells hr 0 _ rfl
  have HBW := hid hB
  have H := hid h
  have H0 := hid (h.keep0 HK0.out)
  have HS0 := hid (hs.keep0 HK0.out)
  have HZ : Hid (∀ z, z ∈ Z → z < w.heap.size) := h.low
  clear h hr hs
  go_enter Try.func47, Try.ntmps47
  go_upto_region 1 with fail
  rw [← hw0, ← hB]
  clear hw0 hB
  have hpI : (p : Int) < 64 := by omega
  obtain ⟨-, -, A1, n1, c1, -, hcs, hs1, -⟩ := H0.out.cells hp
  have HX1 := hid hs1
  have HCS := hid hcs
  have HSZ : Hid (w.heap.size ≤ w0.heap.size) := HK0.out.size
  clear hcs hs1
  go_cut [6] (fun s6 wx => ∃ (B2 n2 c2 : Nat) (A2 : Option Addr), s6 = .pointer (some ⟨B2, 0, none⟩) ∧ Lf Z w0 (wo (T p).st s) B2 A2 n2 c2 wx)
  case first =>
    refine wp_region_noPanic ?_
    refine wp_region_held_drew (S := fun w' => But [] w0 w') (by kernel_rfl) (But.refl _ _).drew (fun hS0 => ?_)
    generalize w0.drew = wd at *
    refine held_take 0 (some 7) (.pointer (some ⟨b, 0, none⟩)) rfl rfl (by kernel_rfl) (by kernel_rfl) (by kernel_rfl) (fun _ _ _ h => h) (Or.inl ⟨by rfl, fun w' hw' => by go_simp⟩) hS0 ?_
    simp only [Act.put, List.setIfInBounds_toArray, List.set_cons_zero, List.set_cons_succ]
    refine held_take 1 (some 8) (.int .i64 p) rfl rfl (by kernel_rfl) (by kernel_rfl) (by kernel_rfl) (fun _ _ _ h => h) (Or.inl ⟨by rfl, fun w' hw' => by go_simp⟩) hS0 ?_
    simp only [Act.put, List.setIfInBounds_toArray, List.set_cons_zero, List.set_cons_succ]
    refine held_take 2 (some 9) (.pointer (some ⟨b, 0, none⟩)) rfl rfl (by kernel_rfl) (by kernel_rfl) (by kernel_rfl) (fun _ _ _ h => h) (Or.inl ⟨by rfl, fun w' hw' => by go_simp⟩) hS0 ?_
    simp only [Act.put, List.setIfInBounds_toArray, List.set_cons_zero, List.set_cons_succ]
    refine held_take 3 (some 10) (.pointer (some ⟨b, 0, none⟩)) rfl rfl (by kernel_rfl) (by kernel_rfl) (by kernel_rfl) (fun _ _ _ h => h) (Or.inl ⟨by rfl, fun w' hw' => by go_simp⟩) hS0 ?_
    simp only [Act.put, List.setIfInBounds_toArray, List.set_cons_zero, List.set_cons_succ]
    refine held_take 4 (some 11) (.pointer (some ⟨b, p * 3, none⟩)) rfl rfl (by kernel_rfl) (by kernel_rfl) (by kernel_rfl) (fun _ _ _ h => h) (Or.inl ⟨by rfl, fun w' hw' => by go_simp⟩) hS0 ?_
    simp only [Act.put, List.setIfInBounds_toArray, List.set_cons_zero, List.set_cons_succ]
    refine held_take 5 (some 12) (.pointer (some ⟨b, p * 3 + 2, none⟩)) rfl rfl (by kernel_rfl) (by kernel_rfl) (by kernel_rfl) (fun _ _ _ h => h) (Or.inl ⟨by rfl, fun w' hw' => by go_simp⟩) hS0 ?_
    simp only [Act.put, List.setIfInBounds_toArray, List.set_cons_zero, List.set_cons_succ]
    refine held_take 6 (some 13) (.agg #[.slice A1 n1 c1]) rfl rfl (by kernel_rfl) (by kernel_rfl) (by kernel_rfl) (fun _ _ _ h => h) (Or.inl ⟨by rfl, fun w' hw' => by have hq0 := cell_keep HCS.out hw' (by simp); go_simp⟩) hS0 ?_
    simp only [Act.put, List.setIfInBounds_toArray, List.set_cons_zero, List.set_cons_succ]
    refine held_take 7 (some 14) (.agg #[.slice A n c]) rfl rfl (by kernel_rfl) (by kernel_rfl) (by kernel_rfl) (fun _ _ _ h => h) (Or.inl ⟨by rfl, fun w' hw' => by have hq0 := cell_keep HC1.out hw' (by simp); go_simp⟩) hS0 ?_
    simp only [Act.put, List.setIfInBounds_toArray, List.set_cons_zero, List.set_cons_succ]
    refine held_two 8 9 rfl rfl (by kernel_rfl) (by rfl) (by rfl) (fun K hK => ?_) (fun K hK => ?_)
    · skip
      go_simp
      refine (without_c A1 A n1 n c1 c _ _ _ _ _ (HX1.out.keep0 hS0) (HS0.out.keep0 hS0)).mono ?_
      rintro e w2 ⟨A2, n2, c2, rfl, hs2, k2⟩
      go_wp2_with fail
      have hS1' : But [] w0 w2 := hS0.trans k2
      have hs2K := hs2
      have hoZ : Off Z A2 n2 := Off.of_lo hs2 (fun z hz => by have h1 := HZ.out z hz; have h2 := hS0.size; have h3 := HSZ.out; omega)
      refine hK.out _ _ hS1' (fun hS1 => ?_)
      clear hK K
      try simp only [Act.put, List.setIfInBounds_toArray, List.set_cons_zero, List.set_cons_succ]
      refine held_one 9 rfl (by kernel_rfl) (by rfl) (fun K hK => ?_)
      go_simp
      obtain ⟨hA4, hlt5, hka8⟩ := made_box (w2) #[.slice none 0 0] 31 1 rfl
      have hge6 : w0.heap.size ≤ (w2).heap.size := hS1.size
      have hS2' : But [] w0 (w2.alloc (.cells #[.slice none 0 0] 31)) := hS1.alloc _
      have ho2 : Off [(w2).heap.size] A2 n2 := Off.old hs2K (fun x hx => by simp at hx; omega)
      have hs2K := hs2K.keep0 hka8
      generalize w2.alloc (.cells #[.slice none 0 0] 31) = wa7 at *
      generalize hBx : (w2).heap.size = Bx3 at *
      have HBxBx3 : Hid ((w2).heap.size = Bx3) := hBx
      clear hBx
      refine hK.out _ _ hS2' (fun hS2 => ?_)
      clear hK K
      try simp only [Act.put, List.setIfInBounds_toArray, List.set_cons_zero, List.set_cons_succ]
      refine held_one 10 rfl (by kernel_rfl) (by rfl) (fun K hK => ?_)
      refine wp_store_mid _ _ _ rfl Bx3 0 ([.slice A2 n2 c2]).toArray rfl rfl hA4 sizeSet (oneSet _ _ _) ?_
      have hS9' : But [] w0 (wa7.setCells Bx3 0 ([.slice A2 n2 c2])) := hS2.setCells (.inr hge6) _ _
      have hRhS9 : (wa7.setCells Bx3 0 ([.slice A2 n2 c2])).rangeAt Bx3 0 ([.slice A2 n2 c2]) := World.rangeAt_setCells_same _ _ _ _ hA4
      have hkhS9 : But [Bx3] wa7 (wa7.setCells Bx3 0 ([.slice A2 n2 c2])) := (But.refl _ _).setCells (by simp) _ _
      generalize wa7.setCells Bx3 0 ([.slice A2 n2 c2]) = wz10 at *
      refine hK.out _ _ hS9' (fun hS9 => ?_)
      clear hK K
      try simp only [Act.put]
      refine wpAnyH_done (by kernel_rfl) ?_ _
      refine NoPanic.normal ?_
      have hs2F := hs2K.keep hkhS9 ho2
      go_wp2_with fail
      go_meet
      exact ⟨_, _, _, _, rfl, ⟨range_cells hRhS9 0 _ rfl, hs2F.wider (Nat.zero_le _), hoZ, hS9⟩⟩
    · skip
      go_simp
      obtain ⟨hA13, hlt14, hka17⟩ := made_box (wd) #[.slice none 0 0] 31 1 rfl
      have hge15 : w0.heap.size ≤ (wd).heap.size := hS0.size
      have hS11' : But [] w0 (wd.alloc (.cells #[.slice none 0 0] 31)) := hS0.alloc _
      skip
      generalize wd.alloc (.cells #[.slice none 0 0] 31) = wa16 at *
      generalize hBx : (wd).heap.size = Bx12 at *
      have HBxBx12 : Hid ((wd).heap.size = Bx12) := hBx
      clear hBx
      refine hK.out _ _ hS11' (fun hS11 => ?_)
      clear hK K
      try simp only [Act.put, List.setIfInBounds_toArray, List.set_cons_zero, List.set_cons_succ]
      refine held_one 8 rfl (by kernel_rfl) (by rfl) (fun K hK => ?_)
      go_simp
      refine (without_c A1 A n1 n c1 c _ _ _ _ _ (HX1.out.keep0 hS11) (HS0.out.keep0 hS11)).mono ?_
      rintro e w2 ⟨A2, n2, c2, rfl, hs2, k2⟩
      go_wp2_with fail
      have hS18' : But [] w0 w2 := hS11.trans k2
      have hA19 := there_keep hA13 k2 hlt14 (by simp)
      have hlt20 := Nat.lt_of_lt_of_le hlt14 k2.size
      have hs2K := hs2
      have hoZ : Off Z A2 n2 := Off.of_lo hs2 (fun z hz => by have h1 := HZ.out z hz; have h2 := hS11.size; have h3 := HSZ.out; omega)
      have ho2 : Off [Bx12] A2 n2 := Off.of_lo hs2 (fun z hz => by simp at hz; subst hz; exact hlt14)
      refine hK.out _ _ hS18' (fun hS18 => ?_)
      clear hK K
      try simp only [Act.put, List.setIfInBounds_toArray, List.set_cons_zero, List.set_cons_succ]
      refine held_one 10 rfl (by kernel_rfl) (by rfl) (fun K hK => ?_)
      refine wp_store_mid _ _ _ rfl Bx12 0 ([.slice A2 n2 c2]).toArray rfl rfl hA19 sizeSet (oneSet _ _ _) ?_
      have hS21' : But [] w0 (w2.setCells Bx12 0 ([.slice A2 n2 c2])) := hS18.setCells (.inr hge15) _ _
      have hRhS21 : (w2.setCells Bx12 0 ([.slice A2 n2 c2])).rangeAt Bx12 0 ([.slice A2 n2 c2]) := World.rangeAt_setCells_same _ _ _ _ hA19
      have hkhS21 : But [Bx12] w2 (w2.setCells Bx12 0 ([.slice A2 n2 c2])) := (But.refl _ _).setCells (by simp) _ _
      generalize w2.setCells Bx12 0 ([.slice A2 n2 c2]) = wz22 at *
      refine hK.out _ _ hS21' (fun hS21 => ?_)
      clear hK K
      try simp only [Act.put]
      refine wpAnyH_done (by kernel_rfl) ?_ _
      refine NoPanic.normal ?_
      have hs2F := hs2K.keep hkhS21 ho2
      go_wp2_with fail
      go_meet
      exact ⟨_, _, _, _, rfl, ⟨range_cells hRhS21 0 _ rfl, hs2F.wider (Nat.zero_le _), hoZ, hS21⟩⟩
  case rest =>
    obtain ⟨B2, n2, c2, A2, rfl, hl⟩ := hcut
    have HL := hid hl.set
    have HO := hid hl.off
    have HK2 := hid hl.but
    have hcl := hl.cell
    clear hl
    obtain ⟨u, hu⟩ : ∃ u, u = (nums (wo (T p).st s) 1024).length := ⟨_, rfl⟩
    have HU := hid hu
    go_wp2_with fail
    refine (len_c A2 n2 c2 _ _ wc HL.out).mono ?_
    rintro e w3 ⟨rfl, k3⟩
    rw [← HU.out]
    clear hu
    have HZT : Hid (u = 0 → nz (wo (T p).st s) = false) := fun h => by have := HU.out; unfold nz; rw [← this, h]; rfl
    have HZF : Hid (u ≠ 0 → nz (wo (T p).st s) = true) := fun h => by have := HU.out; unfold nz; rw [← this]; exact decide_eq_true (by omega)
    have hcl := cell_keep hcl k3 (by simp)
    have HK3 := hid (HK2.out.trans k3)
    have H3 := hid (H0.out.keep0 HK3.out)
    have HL3 := hid (HL.out.keep0 k3)
    clear k3 HU
    by_cases hu : u = 0
    · subst hu
      have hzt := HZT.out rfl
      by_cases hp0 : p = 0
      · subst hp0
        have HX : Hid (cutN 0 (T 0) s = { T 0 with st := wo (T 0).st s }) := by show _ = _; unfold cutN; rw [if_neg (by simp)]
        clear hzt
        go_upto_region 4 with fail
        refine wp_region_still_tail 7 (by kernel_rfl) (by kernel_rfl) ?_
        simp only [List.take_succ_cons, List.take_zero, List.drop_succ_cons, List.drop_zero]
        change wpStill _ _ w3.drew _ _ _
        have hkd : But [] w3 w3.drew := (But.refl [] w3).drew
        have H4 := hid (H3.out.keep0 hkd)
        have HL4 := hid (HL3.out.keep0 hkd)
        have HK4 := hid (HK3.out.trans hkd)
        have hcl := cell_keep hcl hkd (by simp)
        clear hkd
        repeat (first | still_step)
        refine wpStill_nil ?_
        change wpList _ _ _ _ _ w3.drew
        generalize w3.drew = w4 at *
        obtain ⟨-, -, A3, n3, c3, -, hc3, -, -⟩ := H4.out.cells hp
        rw [show 0 * 3 + 2 = 2 by rfl] at hc3
        have hf3 := H4.out.fz (show 0 * 3 + 2 < 193 by omega)
        rw [show 0 * 3 + 2 = 2 by rfl] at hf3
        have H5 := hid (H4.out.setSet hp (wo (T 0).st s) A2 n2 c2 HL4.out HO.out)
        clear hcl
        go_wp2
        first | go_end0 | (refine bodyPost_ret (results_none rfl _ _ _) rfl ?_)
        refine ⟨rfl, ?_, but_more ((HK0.out.trans HK4.out).any [b]) ((But.refl [b] w4).setCell (by simp) _) (by simp)⟩
        rw [HX.out]
        exact H5.out
      · have HX : Hid (cutN p (T p) s = nd0) := by show _ = _; unfold cutN; rw [if_pos ⟨hzt, hp0⟩]
        have hne : ((p : Int) != 0) = true := by simp; omega
        obtain ⟨hc1, hc2, A3, n3, c3, -, hc3, -, -⟩ := H3.out.cells hp
        have hf1 := H3.out.fz (show p * 3 < 193 by omega)
        have hf2 := H3.out.fz (show p * 3 + 1 < 193 by omega)
        have hf3 := H3.out.fz (show p * 3 + 2 < 193 by omega)
        have H4 := hid (H3.out.setNode hp nd0 none 0 0 (SetAt.nil _ _ (fun _ => rfl)) (Off.nil _ _))
        clear hzt hp0 hcl
        go_wp2
        first | go_end0 | (refine bodyPost_ret (results_none rfl _ _ _) rfl ?_)
        refine ⟨rfl, ?_, but_more ((HK0.out.trans HK3.out).any [b]) ((((But.refl [b] w3).setCell (by simp) _).setCell (by simp) _).setCell (by simp) _) (by simp)⟩
        rw [HX.out]
        exact H4.out
    · have hzt := HZF.out hu
      have HX : Hid (cutN p (T p) s = { T p with st := wo (T p).st s }) := by show _ = _; unfold cutN; rw [if_neg (by rw [hzt]; simp)]
      have hne : ((u : Int) == 0) = false := by simp; omega
      clear hzt
      go_upto_region 4 with fail
      refine wp_region_still_tail 7 (by kernel_rfl) (by kernel_rfl) ?_
      simp only [List.take_succ_cons, List.take_zero, List.drop_succ_cons, List.drop_zero]
      change wpStill _ _ w3.drew _ _ _
      have hkd : But [] w3 w3.drew := (But.refl [] w3).drew
      have H4 := hid (H3.out.keep0 hkd)
      have HL4 := hid (HL3.out.keep0 hkd)
      have HK4 := hid (HK3.out.trans hkd)
      have hcl := cell_keep hcl hkd (by simp)
      clear hkd
      repeat (first | still_step)
      refine wpStill_nil ?_
      change wpList _ _ _ _ _ w3.drew
      generalize w3.drew = w4 at *
      obtain ⟨-, -, A3, n3, c3, -, hc3, -, -⟩ := H4.out.cells hp
      have hf3 := H4.out.fz (show p * 3 + 2 < 193 by omega)
      have H5 := hid (H4.out.setSet hp (wo (T p).st s) A2 n2 c2 HL4.out HO.out)
      clear hcl
      go_wp2
      first | go_end0 | (refine bodyPost_ret (results_none rfl _ _ _) rfl ?_)
      refine ⟨rfl, ?_, but_more ((HK0.out.trans HK4.out).any [b]) ((But.refl [b] w4).setCell (by simp) _) (by simp)⟩
      rw [HX.out]
      exact H5.out
end Go.Proofs.Ytlppfcoclpdanaa.Cs
