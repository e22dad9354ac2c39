/-
  Layer 12 (caps): the contract of the statements' awake, over the translated program.
-/
import Derived.Test.YtlppfcoclpdanaaCsDer
import Derived.Test.YtlppfcoclpdanaaCsRev
import Derived.Test.YtlppfcoclpdanaaCsNew
import Derived.Test.YtlppfcoclpdanaaFloat
namespace Go.Proofs.Ytlppfcoclpdanaa.Cs
open Go.ChangeShapes Go.WideShapes Go.ChangeAt Go.RowKit
open Wh Sn
set_option linter.unusedVariables false
set_option maxRecDepth 20000

def tA : Tr := updN (fun _ => nd0) 0 ⟨1, -1, one 0 10⟩
def tB : Tr := updN tA 1 ⟨2, 0, one 2 6⟩
theorem one_true {a b : Int} {x : Nat} : one a b x = true ↔ x < 1024 ∧ a ≤ x ∧ (x : Int) < b := by simp [one, and_assoc]
theorem nz_true {f : Nat → Bool} (h : Lim f) (x : Nat) (hx : f x = true) : nz f = true := (nz_iff h).2 ⟨x, hx⟩
theorem nz_false {f : Nat → Bool} (h : Lim f) (hf : ∀ x, f x = true → False) : nz f = false := by
  cases e : nz f with
  | false => rfl
  | true =>
    obtain ⟨x, hx⟩ := (nz_iff h).1 e
    exact (hf x hx).elim
theorem tA_wf : Wf tA 1 := new_wf (one_lim 0 10)
theorem tA_0 : tA 0 = ⟨1, -1, one 0 10⟩ := updN_same _ _ _
theorem tA_no {p : Nat} (h : p ≠ 0) : tA p = nd0 := updN_other _ _ h
theorem tA_gen {p : Nat} (h : 0 < (tA p).gen) : p = 0 := by
  by_cases e : p = 0
  · exact e
  · rw [tA_no e] at h; exact absurd h (Nat.lt_irrefl 0)
theorem tA_fr : frP tA 64 = 1 := frP_eq (by omega) (fun q hq => by
  obtain rfl : q = 0 := by omega
  rw [tA_0]; exact Nat.one_pos) (fun _ => by rw [tA_no (by omega)]; rfl)
theorem tA_code : dcode tA 0 1 (one 2 6) = 0 := by
  have h1 : isB tA 0 1 = true := isB_nat (a := 0) (by omega) (by omega) (by rw [tA_0])
  have h2 : nz (one 2 6) = true := nz_true (one_lim _ _) 2 (one_true.2 ⟨by omega, by omega, by omega⟩)
  have h3 : nz (wo (one 2 6) (tA (0 : Int).toNat).st) = false := nz_false (wo_lim (one_lim _ _)) (fun x hx => by
    rw [wo_true, one_true, show (0 : Int).toNat = 0 from rfl, tA_0] at hx
    obtain ⟨⟨a, b, c⟩, d⟩ := hx
    have : one 0 10 x = true := one_true.2 ⟨a, by omega, by omega⟩
    have d' : one 0 10 x = false := d
    rw [this] at d'; cases d')
  have h4 : nz (bo (one 2 6) (lentS tA 0)) = false := nz_false (bo_lim (one_lim _ _)) (fun x hx => by
    rw [bo_true, lentS_true tA_wf] at hx
    obtain ⟨_, p, hp, hq, _⟩ := hx
    have := tA_gen hp
    subst this
    rw [tA_0] at hq
    have hq : (-1 : Int) = 0 := hq
    omega)
  unfold dcode
  rw [if_neg (by rw [h1]; simp), if_neg (by rw [h2]; simp), if_neg (by rw [h3]; simp), if_neg (by rw [h4]; simp), if_pos (by rw [tA_fr]; omega)]
theorem tA_dv : DvV tA 1 0 1 (one 2 6) = .tuple #[.agg #[.int .i64 1, .int .u64 2], .int .i64 0] ∧ dvT tA 1 0 1 (one 2 6) = tB ∧ dvM tA 1 0 1 (one 2 6) = 2 := by
  obtain ⟨e1, e2, e3, e4⟩ := dv_yes (m := 1) tA_code
  rw [tA_fr] at e1 e4
  refine ⟨?_, e4, e3⟩
  unfold DvV
  rw [e1, e2, tA_code]; rfl
theorem tB_wf : Wf tB 2 := by
  have := dv_wf tA_wf (at_ := 0) (g := 1) (one_lim 2 6)
  rw [tA_dv.2.1, tA_dv.2.2] at this
  exact this
theorem tB_1 : tB 1 = ⟨2, 0, one 2 6⟩ := updN_same _ _ _
theorem tB_0 : tB 0 = ⟨1, -1, one 0 10⟩ := by rw [show tB 0 = tA 0 from updN_other _ _ (by omega), tA_0]
theorem tB_gen {p : Nat} (h : 0 < (tB p).gen) : p = 0 ∨ p = 1 := by
  by_cases e : p = 1
  · exact .inr e
  · rw [show tB p = tA p from updN_other _ _ e] at h
    exact .inl (tA_gen h)
theorem tB_code : dcode tB 0 1 (one 4 7) = 24 := by
  have h1 : isB tB 0 1 = true := isB_nat (a := 0) (by omega) (by omega) (by rw [tB_0])
  have h2 : nz (one 4 7) = true := nz_true (one_lim _ _) 4 (one_true.2 ⟨by omega, by omega, by omega⟩)
  have h3 : nz (wo (one 4 7) (tB (0 : Int).toNat).st) = false := nz_false (wo_lim (one_lim _ _)) (fun x hx => by
    rw [wo_true, one_true, show (0 : Int).toNat = 0 from rfl, tB_0] at hx
    obtain ⟨⟨a, b, c⟩, d⟩ := hx
    have : one 0 10 x = true := one_true.2 ⟨a, by omega, by omega⟩
    have d' : one 0 10 x = false := d
    rw [this] at d'; cases d')
  have h4 : nz (bo (one 4 7) (lentS tB 0)) = true := nz_true (bo_lim (one_lim _ _)) 4 (bo_true.2 ⟨(one_true (a := 4) (b := 7) (x := 4)).2 ⟨by omega, by omega, by omega⟩,
    (lentS_true tB_wf).2 ⟨1, by rw [tB_1]; exact Nat.succ_pos _, by rw [tB_1], by rw [tB_1]; exact (one_true (a := 2) (b := 6) (x := 4)).2 ⟨by omega, by omega, by omega⟩⟩⟩)
  unfold dcode
  rw [if_neg (by rw [h1]; simp), if_neg (by rw [h2]; simp), if_neg (by rw [h3]; simp), if_pos h4]
theorem tB_und (x : Nat) : und tB 0 x = true ↔ x = 1 := by
  constructor
  · intro h
    obtain ⟨h1, _, h3, _⟩ := und_lt (a := 0) tB_wf h
    rcases tB_gen h1 with e | e
    · exact absurd e h3
    · exact e
  · rintro rfl
    exact und_kid (a := 0) tB_wf (by rw [tB_1]; exact Nat.succ_pos _) (by rw [tB_1]; rfl)
theorem tB_rev : RevV tB 0 1 = .tuple #[.int .i64 1, .int .i64 0] ∧ RevT tB 0 1 = rvT tB 0 false := by
  have h1 : isB tB 0 1 = true := isB_nat (a := 0) (by omega) (by omega) (by rw [tB_0])
  have h2 : rvC tB 0 = 1 := nodup_eq (k := [1]) (nums_nodup _ _) (by simp) (fun x => by
    rw [nums_mem, show und tB ((0 : Nat) : Int) x = und tB 0 x from rfl, tB_und]
    simp
    omega)
  unfold RevV RevT
  rw [if_pos h1, if_pos h1, show (0 : Int).toNat = 0 from rfl, h2]
  exact ⟨rfl, rfl⟩
theorem tB_len : lenT (rvT tB 0 false) = 1 := nodup_eq (k := [0]) (nums_nodup _ _) (by simp) (fun x => by
  rw [nums_mem]
  simp only [isP, decide_eq_true_iff, List.mem_singleton]
  constructor
  · rintro ⟨h1, h2⟩
    obtain ⟨_, h3, h4⟩ := rv_pos h2
    rcases tB_gen h3 with e | e
    · exact e
    · subst e
      rw [show und tB ((0 : Nat) : Int) 1 = und tB 0 1 from rfl, (tB_und 1).2 rfl] at h4
      simp at h4
  · rintro rfl
    refine ⟨by omega, ?_⟩
    rw [rv_stay (by rw [und_root tB_wf]; rfl), tB_0]
    exact Nat.one_pos)
set_option maxHeartbeats 4000000 in
theorem awake_c (w : World) : Calls Try.prog 13 #[] w fun e w' => e = .returned (.bool true) ∧ But [] w w' := by
  go_enter Try.func13, Try.ntmps13
  go_wp2_with fail
  refine (Sn.of_c 0 10 w).mono ?_
  rintro e w1 ⟨A1, n1, c1, rfl, hs1, k1⟩
  have HS1 := hid hs1
  have HK1 := hid k1
  clear hs1 k1
  go_wp2_with fail
  refine (New_c A1 n1 c1 _ _ w1 HS1.out).mono ?_
  rintro e w2 ⟨bt, rfl, hbt, ht2, k2⟩
  have HBT := hid hbt
  have HT2 : Hid (TrA w2 bt [bt] tA 1) := ht2
  have HK2 := hid (HK1.out.trans k2)
  obtain ⟨Bc, hBc⟩ : ∃ Bc, Bc = w2.heap.size := ⟨_, rfl⟩
  have hb := new_range w2 [.int .i64 0, .int .u64 1] 26
  change (w2.alloc (.cells #[.int .i64 0, .int .u64 1] 26)).rangeAt _ _ _ at hb
  rw [← hBc] at hb
  have HC0 := hid (range_cells hb 0 _ rfl)
  have HC1 := hid (range_cells hb 1 _ rfl)
  have HK3 : Hid (But [] w2 (w2.alloc (.cells #[.int .i64 0, .int .u64 1] 26))) := (But.refl [] w2).alloc _
  have HBC : Hid (bt < Bc ∧ w1.heap.size ≤ bt) := by have := HT2.out.low bt (by simp); show _ ∧ _; omega
  clear hbt ht2 k2 hb
  go_upto_region 2 with fail
  rw [← hBc]
  have HT3 := hid (HT2.out.keep0 HK3.out)
  have HK3' := hid (HK2.out.trans HK3.out)
  clear hBc
  generalize w2.alloc (.cells #[.int .i64 0, .int .u64 1] 26) = w3 at *
  have hTR : TrA w3.drew bt [bt] tA 1 := HT3.out.keep0 (But.refl [] w3).drew
  have HBL : Hid (bt < w3.heap.size) := HT3.out.low bt (by simp)
  have HDV := hid tA_dv.1
  go_cut [3, 4] from 14 to 20 (fun s3 s4 wx => ∃ B2 : Nat, s3 = .pointer (some ⟨B2, 0, none⟩) ∧ s4 = .int .i64 0 ∧ TrA wx bt [bt] tB 2 ∧ But [bt] w3 wx)
  case first =>
    refine wp_region_noPanic ?_
    refine wp_region_held_drew (S := fun w' => But [bt] w3 w') (by kernel_rfl) (But.refl _ _).drew (fun hS0 => ?_)
    generalize w3.drew = wd at *
    refine held_take 0 (some 15) (.pointer (some ⟨bt, 0, none⟩)) rfl rfl (by kernel_rfl) (by kernel_rfl) (by kernel_rfl) (fun _ _ _ h => h) (Or.inl ⟨by rfl, fun w' hw' => by go_simp⟩) hS0 ?_
    simp only [Act.put, List.setIfInBounds_toArray, List.set_cons_zero, List.set_cons_succ]
    refine held_take 1 (some 16) (.agg #[.int .i64 0, .int .u64 1]) rfl rfl (by kernel_rfl) (by kernel_rfl) (by kernel_rfl) (fun _ _ _ h => h) (Or.inl ⟨by rfl, fun w' hw' => by have hq0 := cell_keep HC0.out hw' (by have := HBC.out; simp; omega); have hq1 := cell_keep HC1.out hw' (by have := HBC.out; simp; omega); go_simp⟩) hS0 ?_
    simp only [Act.put, List.setIfInBounds_toArray, List.set_cons_zero, List.set_cons_succ]
    refine held_two 2 7 rfl rfl (by kernel_rfl) (by rfl) (by rfl) (fun K hK => ?_) (fun K hK => ?_)
    · skip
      go_simp
      refine (Sn.of_c 2 6 _).mono ?_
      rintro e w41 ⟨A1, n1, c1, rfl, hs1, k41⟩
      go_wp2_with fail
      have hS1' : But [bt] w3 w41 := hS0.trans (k41.any _)
      have hsK := hs1
      have hoK := Off.of_lo hs1 hTR.low
      have hTR := hTR.keep0 k41
      refine hK.out _ _ hS1' (fun hS1 => ?_)
      clear hK K
      try simp only [Act.put, List.setIfInBounds_toArray, List.set_cons_zero, List.set_cons_succ]
      refine held_two 3 7 rfl rfl (by kernel_rfl) (by rfl) (by rfl) (fun K hK => ?_) (fun K hK => ?_)
      · skip
        go_simp
        refine (Derive_c' bt 1 [bt] tA 0 1 A1 n1 c1 _ (one 2 6) _ hTR tA_wf hsK hoK (by omega)).mono ?_
        rintro e w42 ⟨rfl, hTR, k42⟩
        rw [HDV.out]
        rw [tA_dv.2.1, tA_dv.2.2] at hTR
        go_wp2_with fail
        have hS2' : But [bt] w3 w42 := hS1.trans k42
        skip
        refine hK.out _ _ hS2' (fun hS2 => ?_)
        clear hK K
        try simp only [Act.put, List.setIfInBounds_toArray, List.set_cons_zero, List.set_cons_succ]
        refine held_take 4 (some 14) (.tuple #[.agg #[.int .i64 1, .int .u64 2], .int .i64 0]) rfl rfl (by kernel_rfl) (by kernel_rfl) (by kernel_rfl) (fun _ _ _ h => h) (Or.inl ⟨by rfl, fun w' hw' => by go_simp⟩) hS2 ?_
        simp only [Act.put, List.setIfInBounds_toArray, List.set_cons_zero, List.set_cons_succ]
        refine held_take 5 (some 19) (.agg #[.int .i64 1, .int .u64 2]) rfl rfl (by kernel_rfl) (by kernel_rfl) (by kernel_rfl) (fun _ _ _ h => h) (Or.inl ⟨by rfl, fun w' hw' => by go_simp⟩) hS2 ?_
        simp only [Act.put, List.setIfInBounds_toArray, List.set_cons_zero, List.set_cons_succ]
        refine held_take 6 (some 20) (.int .i64 0) rfl rfl (by kernel_rfl) (by kernel_rfl) (by kernel_rfl) (fun _ _ _ h => h) (Or.inl ⟨by rfl, fun w' hw' => by go_simp⟩) hS2 ?_
        simp only [Act.put, List.setIfInBounds_toArray, List.set_cons_zero, List.set_cons_succ]
        refine held_one 7 rfl (by kernel_rfl) (by rfl) (fun K hK => ?_)
        go_simp
        obtain ⟨hA5, hlt6, hka9⟩ := made_box (w42) #[.int .i64 0, .int .u64 0] 26 2 rfl
        have hge7 : w3.heap.size ≤ (w42).heap.size := hS2.size
        have hS3' : But [bt] w3 (w42.alloc (.cells #[.int .i64 0, .int .u64 0] 26)) := hS2.alloc _
        have hTR := hTR.wide hka9 [(w42).heap.size] (fun x hx => by simp at hx ⊢; omega)
        generalize w42.alloc (.cells #[.int .i64 0, .int .u64 0] 26) = wa8 at *
        generalize hBx : (w42).heap.size = Bx4 at *
        have HBxBx4 : Hid ((w42).heap.size = Bx4) := hBx
        clear hBx
        refine hK.out _ _ hS3' (fun hS3 => ?_)
        clear hK K
        try simp only [Act.put, List.setIfInBounds_toArray, List.set_cons_zero, List.set_cons_succ]
        refine held_one 8 rfl (by kernel_rfl) (by rfl) (fun K hK => ?_)
        refine wp_store_mid _ _ _ rfl Bx4 0 ([.int .i64 1, .int .u64 2]).toArray rfl rfl hA5 sizeCap (capAll2 _ _) ?_
        have hS10' : But [bt] w3 (wa8.setCells Bx4 0 ([.int .i64 1, .int .u64 2])) := hS3.setCells (.inr hge7) _ _
        have hRhS10 : (wa8.setCells Bx4 0 ([.int .i64 1, .int .u64 2])).rangeAt Bx4 0 ([.int .i64 1, .int .u64 2]) := World.rangeAt_setCells_same _ _ _ _ hA5
        have hkhS10 : But [Bx4] wa8 (wa8.setCells Bx4 0 ([.int .i64 1, .int .u64 2])) := (But.refl _ _).setCells (by simp) _ _
        generalize wa8.setCells Bx4 0 ([.int .i64 1, .int .u64 2]) = wz11 at *
        refine hK.out _ _ hS10' (fun hS10 => ?_)
        clear hK K
        try simp only [Act.put]
        refine held_take 9 (some 4) (.int .i64 0) rfl rfl (by kernel_rfl) (by kernel_rfl) (by kernel_rfl) (fun _ _ _ h => h) (Or.inl ⟨by rfl, fun w' hw' => by go_simp⟩) hS10 ?_
        simp only [Act.put, List.setIfInBounds_toArray]
        refine wpAnyH_done (by kernel_rfl) ?_ _
        refine NoPanic.normal ?_
        have hTF := (hTR.keep hkhS10 (by first | (simp; done) | (have := HBL.out; simp; omega)) (by simp)).less (by simp)
        go_wp2_with fail
        go_meet
        exact ⟨_, rfl, rfl, hTF, hS10⟩
      · skip
        go_simp
        obtain ⟨hA14, hlt15, hka18⟩ := made_box (w41) #[.int .i64 0, .int .u64 0] 26 2 rfl
        have hge16 : w3.heap.size ≤ (w41).heap.size := hS1.size
        have hS12' : But [bt] w3 (w41.alloc (.cells #[.int .i64 0, .int .u64 0] 26)) := hS1.alloc _
        have hTR := hTR.wide hka18 [(w41).heap.size] (fun x hx => by simp at hx ⊢; omega)
        have hoK := (Off.old hsK (l := [(w41).heap.size]) (fun x hx => by simp at hx; omega)).app hoK
        have hsK := hsK.keep0 hka18
        generalize w41.alloc (.cells #[.int .i64 0, .int .u64 0] 26) = wa17 at *
        generalize hBx : (w41).heap.size = Bx13 at *
        have HBxBx13 : Hid ((w41).heap.size = Bx13) := hBx
        clear hBx
        refine hK.out _ _ hS12' (fun hS12 => ?_)
        clear hK K
        try simp only [Act.put, List.setIfInBounds_toArray, List.set_cons_zero, List.set_cons_succ]
        refine held_one 3 rfl (by kernel_rfl) (by rfl) (fun K hK => ?_)
        go_simp
        refine (Derive_c' bt 1 ([Bx13] ++ [bt]) tA 0 1 A1 n1 c1 _ (one 2 6) _ hTR tA_wf hsK hoK (by omega)).mono ?_
        rintro e w42 ⟨rfl, hTR, k42⟩
        rw [HDV.out]
        rw [tA_dv.2.1, tA_dv.2.2] at hTR
        go_wp2_with fail
        have hS19' : But [bt] w3 w42 := hS12.trans k42
        have hA20 := there_keep hA14 k42 hlt15 (by first | (simp; done) | (have := HBL.out; simp; omega))
        have hlt21 := Nat.lt_of_lt_of_le hlt15 k42.size
        skip
        refine hK.out _ _ hS19' (fun hS19 => ?_)
        clear hK K
        try simp only [Act.put, List.setIfInBounds_toArray, List.set_cons_zero, List.set_cons_succ]
        refine held_take 4 (some 14) (.tuple #[.agg #[.int .i64 1, .int .u64 2], .int .i64 0]) rfl rfl (by kernel_rfl) (by kernel_rfl) (by kernel_rfl) (fun _ _ _ h => h) (Or.inl ⟨by rfl, fun w' hw' => by go_simp⟩) hS19 ?_
        simp only [Act.put, List.setIfInBounds_toArray, List.set_cons_zero, List.set_cons_succ]
        refine held_take 5 (some 19) (.agg #[.int .i64 1, .int .u64 2]) rfl rfl (by kernel_rfl) (by kernel_rfl) (by kernel_rfl) (fun _ _ _ h => h) (Or.inl ⟨by rfl, fun w' hw' => by go_simp⟩) hS19 ?_
        simp only [Act.put, List.setIfInBounds_toArray, List.set_cons_zero, List.set_cons_succ]
        refine held_take 6 (some 20) (.int .i64 0) rfl rfl (by kernel_rfl) (by kernel_rfl) (by kernel_rfl) (fun _ _ _ h => h) (Or.inl ⟨by rfl, fun w' hw' => by go_simp⟩) hS19 ?_
        simp only [Act.put, List.setIfInBounds_toArray, List.set_cons_zero, List.set_cons_succ]
        refine held_one 8 rfl (by kernel_rfl) (by rfl) (fun K hK => ?_)
        refine wp_store_mid _ _ _ rfl Bx13 0 ([.int .i64 1, .int .u64 2]).toArray rfl rfl hA20 sizeCap (capAll2 _ _) ?_
        have hS22' : But [bt] w3 (w42.setCells Bx13 0 ([.int .i64 1, .int .u64 2])) := hS19.setCells (.inr hge16) _ _
        have hRhS22 : (w42.setCells Bx13 0 ([.int .i64 1, .int .u64 2])).rangeAt Bx13 0 ([.int .i64 1, .int .u64 2]) := World.rangeAt_setCells_same _ _ _ _ hA20
        have hkhS22 : But [Bx13] w42 (w42.setCells Bx13 0 ([.int .i64 1, .int .u64 2])) := (But.refl _ _).setCells (by simp) _ _
        generalize w42.setCells Bx13 0 ([.int .i64 1, .int .u64 2]) = wz23 at *
        refine hK.out _ _ hS22' (fun hS22 => ?_)
        clear hK K
        try simp only [Act.put]
        refine held_take 9 (some 4) (.int .i64 0) rfl rfl (by kernel_rfl) (by kernel_rfl) (by kernel_rfl) (fun _ _ _ h => h) (Or.inl ⟨by rfl, fun w' hw' => by go_simp⟩) hS22 ?_
        simp only [Act.put, List.setIfInBounds_toArray]
        refine wpAnyH_done (by kernel_rfl) ?_ _
        refine NoPanic.normal ?_
        have hTF := (hTR.keep hkhS22 (by first | (simp; done) | (have := HBL.out; simp; omega)) (by simp)).less (by simp)
        go_wp2_with fail
        go_meet
        exact ⟨_, rfl, rfl, hTF, hS22⟩
    · skip
      go_simp
      obtain ⟨hA26, hlt27, hka30⟩ := made_box (wd) #[.int .i64 0, .int .u64 0] 26 2 rfl
      have hge28 : w3.heap.size ≤ (wd).heap.size := hS0.size
      have hS24' : But [bt] w3 (wd.alloc (.cells #[.int .i64 0, .int .u64 0] 26)) := hS0.alloc _
      have hTR := hTR.wide hka30 [(wd).heap.size] (fun x hx => by simp at hx ⊢; omega)
      generalize wd.alloc (.cells #[.int .i64 0, .int .u64 0] 26) = wa29 at *
      generalize hBx : (wd).heap.size = Bx25 at *
      have HBxBx25 : Hid ((wd).heap.size = Bx25) := hBx
      clear hBx
      refine hK.out _ _ hS24' (fun hS24 => ?_)
      clear hK K
      try simp only [Act.put, List.setIfInBounds_toArray, List.set_cons_zero, List.set_cons_succ]
      refine held_one 2 rfl (by kernel_rfl) (by rfl) (fun K hK => ?_)
      go_simp
      refine (Sn.of_c 2 6 _).mono ?_
      rintro e w41 ⟨A1, n1, c1, rfl, hs1, k41⟩
      go_wp2_with fail
      have hS31' : But [bt] w3 w41 := hS24.trans (k41.any _)
      have hA32 := there_keep hA26 k41 hlt27 (by first | (simp; done) | (have := HBL.out; simp; omega))
      have hlt33 := Nat.lt_of_lt_of_le hlt27 k41.size
      have hsK := hs1
      have hoK := Off.of_lo hs1 hTR.low
      have hTR := hTR.keep0 k41
      refine hK.out _ _ hS31' (fun hS31 => ?_)
      clear hK K
      try simp only [Act.put, List.setIfInBounds_toArray, List.set_cons_zero, List.set_cons_succ]
      refine held_one 3 rfl (by kernel_rfl) (by rfl) (fun K hK => ?_)
      go_simp
      refine (Derive_c' bt 1 ([Bx25] ++ [bt]) tA 0 1 A1 n1 c1 _ (one 2 6) _ hTR tA_wf hsK hoK (by omega)).mono ?_
      rintro e w42 ⟨rfl, hTR, k42⟩
      rw [HDV.out]
      rw [tA_dv.2.1, tA_dv.2.2] at hTR
      go_wp2_with fail
      have hS34' : But [bt] w3 w42 := hS31.trans k42
      have hA35 := there_keep hA32 k42 hlt33 (by first | (simp; done) | (have := HBL.out; simp; omega))
      have hlt36 := Nat.lt_of_lt_of_le hlt33 k42.size
      skip
      refine hK.out _ _ hS34' (fun hS34 => ?_)
      clear hK K
      try simp only [Act.put, List.setIfInBounds_toArray, List.set_cons_zero, List.set_cons_succ]
      refine held_take 4 (some 14) (.tuple #[.agg #[.int .i64 1, .int .u64 2], .int .i64 0]) rfl rfl (by kernel_rfl) (by kernel_rfl) (by kernel_rfl) (fun _ _ _ h => h) (Or.inl ⟨by rfl, fun w' hw' => by go_simp⟩) hS34 ?_
      simp only [Act.put, List.setIfInBounds_toArray, List.set_cons_zero, List.set_cons_succ]
      refine held_take 5 (some 19) (.agg #[.int .i64 1, .int .u64 2]) rfl rfl (by kernel_rfl) (by kernel_rfl) (by kernel_rfl) (fun _ _ _ h => h) (Or.inl ⟨by rfl, fun w' hw' => by go_simp⟩) hS34 ?_
      simp only [Act.put, List.setIfInBounds_toArray, List.set_cons_zero, List.set_cons_succ]
      refine held_take 6 (some 20) (.int .i64 0) rfl rfl (by kernel_rfl) (by kernel_rfl) (by kernel_rfl) (fun _ _ _ h => h) (Or.inl ⟨by rfl, fun w' hw' => by go_simp⟩) hS34 ?_
      simp only [Act.put, List.setIfInBounds_toArray, List.set_cons_zero, List.set_cons_succ]
      refine held_one 8 rfl (by kernel_rfl) (by rfl) (fun K hK => ?_)
      refine wp_store_mid _ _ _ rfl Bx25 0 ([.int .i64 1, .int .u64 2]).toArray rfl rfl hA35 sizeCap (capAll2 _ _) ?_
      have hS37' : But [bt] w3 (w42.setCells Bx25 0 ([.int .i64 1, .int .u64 2])) := hS34.setCells (.inr hge28) _ _
      have hRhS37 : (w42.setCells Bx25 0 ([.int .i64 1, .int .u64 2])).rangeAt Bx25 0 ([.int .i64 1, .int .u64 2]) := World.rangeAt_setCells_same _ _ _ _ hA35
      have hkhS37 : But [Bx25] w42 (w42.setCells Bx25 0 ([.int .i64 1, .int .u64 2])) := (But.refl _ _).setCells (by simp) _ _
      generalize w42.setCells Bx25 0 ([.int .i64 1, .int .u64 2]) = wz38 at *
      refine hK.out _ _ hS37' (fun hS37 => ?_)
      clear hK K
      try simp only [Act.put]
      refine held_take 9 (some 4) (.int .i64 0) rfl rfl (by kernel_rfl) (by kernel_rfl) (by kernel_rfl) (fun _ _ _ h => h) (Or.inl ⟨by rfl, fun w' hw' => by go_simp⟩) hS37 ?_
      simp only [Act.put, List.setIfInBounds_toArray]
      refine wpAnyH_done (by kernel_rfl) ?_ _
      refine NoPanic.normal ?_
      have hTF := (hTR.keep hkhS37 (by first | (simp; done) | (have := HBL.out; simp; omega)) (by simp)).less (by simp)
      go_wp2_with fail
      go_meet
      exact ⟨_, rfl, rfl, hTF, hS37⟩
  case rest =>
  obtain ⟨B2, rfl, rfl, ht4, k4⟩ := hcut
  have HC0 := hid (cell_keep HC0.out k4 (by have := HBC.out; simp; omega))
  have HC1 := hid (cell_keep HC1.out k4 (by have := HBC.out; simp; omega))
  have HT4 := hid ht4
  have HK4 := hid (but_own HK3'.out k4 (fun i hi => by have := HBC.out; have := HK1.out.size; simp at hi; omega))
  clear ht4 k4 hTR HDV
  go_upto_region 3 with fail
  generalize wc = w4 at *
  have hTR : TrA w4.drew bt [bt] tB 2 := HT4.out.keep0 (But.refl [] w4).drew
  have HBL : Hid (bt < w4.heap.size) := HT4.out.low bt (by simp)
  have HX := hid (DvV_no (m := 2) tB_code (by omega))
  have HDV := hid HX.out.1
  go_cut [5, 6] from 21 to 27 (fun s5 s6 wx => ∃ B2 : Nat, s5 = .pointer (some ⟨B2, 0, none⟩) ∧ s6 = .int .i64 24 ∧ TrA wx bt [bt] tB 2 ∧ But [bt] w4 wx)
  case first =>
    refine wp_region_noPanic ?_
    refine wp_region_held_drew (S := fun w' => But [bt] w4 w') (by kernel_rfl) (But.refl _ _).drew (fun hS0 => ?_)
    generalize w4.drew = wd at *
    refine held_take 0 (some 22) (.pointer (some ⟨bt, 0, none⟩)) rfl rfl (by kernel_rfl) (by kernel_rfl) (by kernel_rfl) (fun _ _ _ h => h) (Or.inl ⟨by rfl, fun w' hw' => by go_simp⟩) hS0 ?_
    simp only [Act.put, List.setIfInBounds_toArray, List.set_cons_zero, List.set_cons_succ]
    refine held_take 1 (some 23) (.agg #[.int .i64 0, .int .u64 1]) rfl rfl (by kernel_rfl) (by kernel_rfl) (by kernel_rfl) (fun _ _ _ h => h) (Or.inl ⟨by rfl, fun w' hw' => by have hq0 := cell_keep HC0.out hw' (by have := HBC.out; simp; omega); have hq1 := cell_keep HC1.out hw' (by have := HBC.out; simp; omega); go_simp⟩) hS0 ?_
    simp only [Act.put, List.setIfInBounds_toArray, List.set_cons_zero, List.set_cons_succ]
    refine held_two 2 7 rfl rfl (by kernel_rfl) (by rfl) (by rfl) (fun K hK => ?_) (fun K hK => ?_)
    · skip
      go_simp
      refine (Sn.of_c 4 7 _).mono ?_
      rintro e w41 ⟨A1, n1, c1, rfl, hs1, k41⟩
      go_wp2_with fail
      have hS1' : But [bt] w4 w41 := hS0.trans (k41.any _)
      have hsK := hs1
      have hoK := Off.of_lo hs1 hTR.low
      have hTR := hTR.keep0 k41
      refine hK.out _ _ hS1' (fun hS1 => ?_)
      clear hK K
      try simp only [Act.put, List.setIfInBounds_toArray, List.set_cons_zero, List.set_cons_succ]
      refine held_two 3 7 rfl rfl (by kernel_rfl) (by rfl) (by rfl) (fun K hK => ?_) (fun K hK => ?_)
      · skip
        go_simp
        refine (Derive_c' bt 2 [bt] tB 0 1 A1 n1 c1 _ (one 4 7) _ hTR tB_wf hsK hoK (by omega)).mono ?_
        rintro e w42 ⟨rfl, hTR, k42⟩
        rw [HDV.out]
        rw [HX.out.2.1, HX.out.2.2] at hTR
        go_wp2_with fail
        have hS2' : But [bt] w4 w42 := hS1.trans k42
        skip
        refine hK.out _ _ hS2' (fun hS2 => ?_)
        clear hK K
        try simp only [Act.put, List.setIfInBounds_toArray, List.set_cons_zero, List.set_cons_succ]
        refine held_take 4 (some 21) (.tuple #[.agg #[.int .i64 0, .int .u64 0], .int .i64 24]) rfl rfl (by kernel_rfl) (by kernel_rfl) (by kernel_rfl) (fun _ _ _ h => h) (Or.inl ⟨by rfl, fun w' hw' => by go_simp⟩) hS2 ?_
        simp only [Act.put, List.setIfInBounds_toArray, List.set_cons_zero, List.set_cons_succ]
        refine held_take 5 (some 26) (.agg #[.int .i64 0, .int .u64 0]) rfl rfl (by kernel_rfl) (by kernel_rfl) (by kernel_rfl) (fun _ _ _ h => h) (Or.inl ⟨by rfl, fun w' hw' => by go_simp⟩) hS2 ?_
        simp only [Act.put, List.setIfInBounds_toArray, List.set_cons_zero, List.set_cons_succ]
        refine held_take 6 (some 27) (.int .i64 24) rfl rfl (by kernel_rfl) (by kernel_rfl) (by kernel_rfl) (fun _ _ _ h => h) (Or.inl ⟨by rfl, fun w' hw' => by go_simp⟩) hS2 ?_
        simp only [Act.put, List.setIfInBounds_toArray, List.set_cons_zero, List.set_cons_succ]
        refine held_one 7 rfl (by kernel_rfl) (by rfl) (fun K hK => ?_)
        go_simp
        obtain ⟨hA5, hlt6, hka9⟩ := made_box (w42) #[.int .i64 0, .int .u64 0] 26 2 rfl
        have hge7 : w4.heap.size ≤ (w42).heap.size := hS2.size
        have hS3' : But [bt] w4 (w42.alloc (.cells #[.int .i64 0, .int .u64 0] 26)) := hS2.alloc _
        have hTR := hTR.wide hka9 [(w42).heap.size] (fun x hx => by simp at hx ⊢; omega)
        generalize w42.alloc (.cells #[.int .i64 0, .int .u64 0] 26) = wa8 at *
        generalize hBx : (w42).heap.size = Bx4 at *
        have HBxBx4 : Hid ((w42).heap.size = Bx4) := hBx
        clear hBx
        refine hK.out _ _ hS3' (fun hS3 => ?_)
        clear hK K
        try simp only [Act.put, List.setIfInBounds_toArray, List.set_cons_zero, List.set_cons_succ]
        refine held_one 8 rfl (by kernel_rfl) (by rfl) (fun K hK => ?_)
        refine wp_store_mid _ _ _ rfl Bx4 0 ([.int .i64 0, .int .u64 0]).toArray rfl rfl hA5 sizeCap (capAll2 _ _) ?_
        have hS10' : But [bt] w4 (wa8.setCells Bx4 0 ([.int .i64 0, .int .u64 0])) := hS3.setCells (.inr hge7) _ _
        have hRhS10 : (wa8.setCells Bx4 0 ([.int .i64 0, .int .u64 0])).rangeAt Bx4 0 ([.int .i64 0, .int .u64 0]) := World.rangeAt_setCells_same _ _ _ _ hA5
        have hkhS10 : But [Bx4] wa8 (wa8.setCells Bx4 0 ([.int .i64 0, .int .u64 0])) := (But.refl _ _).setCells (by simp) _ _
        generalize wa8.setCells Bx4 0 ([.int .i64 0, .int .u64 0]) = wz11 at *
        refine hK.out _ _ hS10' (fun hS10 => ?_)
        clear hK K
        try simp only [Act.put]
        refine held_take 9 (some 6) (.int .i64 24) rfl rfl (by kernel_rfl) (by kernel_rfl) (by kernel_rfl) (fun _ _ _ h => h) (Or.inl ⟨by rfl, fun w' hw' => by go_simp⟩) hS10 ?_
        simp only [Act.put, List.setIfInBounds_toArray]
        refine wpAnyH_done (by kernel_rfl) ?_ _
        refine NoPanic.normal ?_
        have hTF := (hTR.keep hkhS10 (by first | (simp; done) | (have := HBL.out; simp; omega)) (by simp)).less (by simp)
        go_wp2_with fail
        go_meet
        exact ⟨_, rfl, rfl, hTF, hS10⟩
      · skip
        go_simp
        obtain ⟨hA14, hlt15, hka18⟩ := made_box (w41) #[.int .i64 0, .int .u64 0] 26 2 rfl
        have hge16 : w4.heap.size ≤ (w41).heap.size := hS1.size
        have hS12' : But [bt] w4 (w41.alloc (.cells #[.int .i64 0, .int .u64 0] 26)) := hS1.alloc _
        have hTR := hTR.wide hka18 [(w41).heap.size] (fun x hx => by simp at hx ⊢; omega)
        have hoK := (Off.old hsK (l := [(w41).heap.size]) (fun x hx => by simp at hx; omega)).app hoK
        have hsK := hsK.keep0 hka18
        generalize w41.alloc (.cells #[.int .i64 0, .int .u64 0] 26) = wa17 at *
        generalize hBx : (w41).heap.size = Bx13 at *
        have HBxBx13 : Hid ((w41).heap.size = Bx13) := hBx
        clear hBx
        refine hK.out _ _ hS12' (fun hS12 => ?_)
        clear hK K
        try simp only [Act.put, List.setIfInBounds_toArray, List.set_cons_zero, List.set_cons_succ]
        refine held_one 3 rfl (by kernel_rfl) (by rfl) (fun K hK => ?_)
        go_simp
        refine (Derive_c' bt 2 ([Bx13] ++ [bt]) tB 0 1 A1 n1 c1 _ (one 4 7) _ hTR tB_wf hsK hoK (by omega)).mono ?_
        rintro e w42 ⟨rfl, hTR, k42⟩
        rw [HDV.out]
        rw [HX.out.2.1, HX.out.2.2] at hTR
        go_wp2_with fail
        have hS19' : But [bt] w4 w42 := hS12.trans k42
        have hA20 := there_keep hA14 k42 hlt15 (by first | (simp; done) | (have := HBL.out; simp; omega))
        have hlt21 := Nat.lt_of_lt_of_le hlt15 k42.size
        skip
        refine hK.out _ _ hS19' (fun hS19 => ?_)
        clear hK K
        try simp only [Act.put, List.setIfInBounds_toArray, List.set_cons_zero, List.set_cons_succ]
        refine held_take 4 (some 21) (.tuple #[.agg #[.int .i64 0, .int .u64 0], .int .i64 24]) rfl rfl (by kernel_rfl) (by kernel_rfl) (by kernel_rfl) (fun _ _ _ h => h) (Or.inl ⟨by rfl, fun w' hw' => by go_simp⟩) hS19 ?_
        simp only [Act.put, List.setIfInBounds_toArray, List.set_cons_zero, List.set_cons_succ]
        refine held_take 5 (some 26) (.agg #[.int .i64 0, .int .u64 0]) rfl rfl (by kernel_rfl) (by kernel_rfl) (by kernel_rfl) (fun _ _ _ h => h) (Or.inl ⟨by rfl, fun w' hw' => by go_simp⟩) hS19 ?_
        simp only [Act.put, List.setIfInBounds_toArray, List.set_cons_zero, List.set_cons_succ]
        refine held_take 6 (some 27) (.int .i64 24) rfl rfl (by kernel_rfl) (by kernel_rfl) (by kernel_rfl) (fun _ _ _ h => h) (Or.inl ⟨by rfl, fun w' hw' => by go_simp⟩) hS19 ?_
        simp only [Act.put, List.setIfInBounds_toArray, List.set_cons_zero, List.set_cons_succ]
        refine held_one 8 rfl (by kernel_rfl) (by rfl) (fun K hK => ?_)
        refine wp_store_mid _ _ _ rfl Bx13 0 ([.int .i64 0, .int .u64 0]).toArray rfl rfl hA20 sizeCap (capAll2 _ _) ?_
        have hS22' : But [bt] w4 (w42.setCells Bx13 0 ([.int .i64 0, .int .u64 0])) := hS19.setCells (.inr hge16) _ _
        have hRhS22 : (w42.setCells Bx13 0 ([.int .i64 0, .int .u64 0])).rangeAt Bx13 0 ([.int .i64 0, .int .u64 0]) := World.rangeAt_setCells_same _ _ _ _ hA20
        have hkhS22 : But [Bx13] w42 (w42.setCells Bx13 0 ([.int .i64 0, .int .u64 0])) := (But.refl _ _).setCells (by simp) _ _
        generalize w42.setCells Bx13 0 ([.int .i64 0, .int .u64 0]) = wz23 at *
        refine hK.out _ _ hS22' (fun hS22 => ?_)
        clear hK K
        try simp only [Act.put]
        refine held_take 9 (some 6) (.int .i64 24) rfl rfl (by kernel_rfl) (by kernel_rfl) (by kernel_rfl) (fun _ _ _ h => h) (Or.inl ⟨by rfl, fun w' hw' => by go_simp⟩) hS22 ?_
        simp only [Act.put, List.setIfInBounds_toArray]
        refine wpAnyH_done (by kernel_rfl) ?_ _
        refine NoPanic.normal ?_
        have hTF := (hTR.keep hkhS22 (by first | (simp; done) | (have := HBL.out; simp; omega)) (by simp)).less (by simp)
        go_wp2_with fail
        go_meet
        exact ⟨_, rfl, rfl, hTF, hS22⟩
    · skip
      go_simp
      obtain ⟨hA26, hlt27, hka30⟩ := made_box (wd) #[.int .i64 0, .int .u64 0] 26 2 rfl
      have hge28 : w4.heap.size ≤ (wd).heap.size := hS0.size
      have hS24' : But [bt] w4 (wd.alloc (.cells #[.int .i64 0, .int .u64 0] 26)) := hS0.alloc _
      have hTR := hTR.wide hka30 [(wd).heap.size] (fun x hx => by simp at hx ⊢; omega)
      generalize wd.alloc (.cells #[.int .i64 0, .int .u64 0] 26) = wa29 at *
      generalize hBx : (wd).heap.size = Bx25 at *
      have HBxBx25 : Hid ((wd).heap.size = Bx25) := hBx
      clear hBx
      refine hK.out _ _ hS24' (fun hS24 => ?_)
      clear hK K
      try simp only [Act.put, List.setIfInBounds_toArray, List.set_cons_zero, List.set_cons_succ]
      refine held_one 2 rfl (by kernel_rfl) (by rfl) (fun K hK => ?_)
      go_simp
      refine (Sn.of_c 4 7 _).mono ?_
      rintro e w41 ⟨A1, n1, c1, rfl, hs1, k41⟩
      go_wp2_with fail
      have hS31' : But [bt] w4 w41 := hS24.trans (k41.any _)
      have hA32 := there_keep hA26 k41 hlt27 (by first | (simp; done) | (have := HBL.out; simp; omega))
      have hlt33 := Nat.lt_of_lt_of_le hlt27 k41.size
      have hsK := hs1
      have hoK := Off.of_lo hs1 hTR.low
      have hTR := hTR.keep0 k41
      refine hK.out _ _ hS31' (fun hS31 => ?_)
      clear hK K
      try simp only [Act.put, List.setIfInBounds_toArray, List.set_cons_zero, List.set_cons_succ]
      refine held_one 3 rfl (by kernel_rfl) (by rfl) (fun K hK => ?_)
      go_simp
      refine (Derive_c' bt 2 ([Bx25] ++ [bt]) tB 0 1 A1 n1 c1 _ (one 4 7) _ hTR tB_wf hsK hoK (by omega)).mono ?_
      rintro e w42 ⟨rfl, hTR, k42⟩
      rw [HDV.out]
      rw [HX.out.2.1, HX.out.2.2] at hTR
      go_wp2_with fail
      have hS34' : But [bt] w4 w42 := hS31.trans k42
      have hA35 := there_keep hA32 k42 hlt33 (by first | (simp; done) | (have := HBL.out; simp; omega))
      have hlt36 := Nat.lt_of_lt_of_le hlt33 k42.size
      skip
      refine hK.out _ _ hS34' (fun hS34 => ?_)
      clear hK K
      try simp only [Act.put, List.setIfInBounds_toArray, List.set_cons_zero, List.set_cons_succ]
      refine held_take 4 (some 21) (.tuple #[.agg #[.int .i64 0, .int .u64 0], .int .i64 24]) rfl rfl (by kernel_rfl) (by kernel_rfl) (by kernel_rfl) (fun _ _ _ h => h) (Or.inl ⟨by rfl, fun w' hw' => by go_simp⟩) hS34 ?_
      simp only [Act.put, List.setIfInBounds_toArray, List.set_cons_zero, List.set_cons_succ]
      refine held_take 5 (some 26) (.agg #[.int .i64 0, .int .u64 0]) rfl rfl (by kernel_rfl) (by kernel_rfl) (by kernel_rfl) (fun _ _ _ h => h) (Or.inl ⟨by rfl, fun w' hw' => by go_simp⟩) hS34 ?_
      simp only [Act.put, List.setIfInBounds_toArray, List.set_cons_zero, List.set_cons_succ]
      refine held_take 6 (some 27) (.int .i64 24) rfl rfl (by kernel_rfl) (by kernel_rfl) (by kernel_rfl) (fun _ _ _ h => h) (Or.inl ⟨by rfl, fun w' hw' => by go_simp⟩) hS34 ?_
      simp only [Act.put, List.setIfInBounds_toArray, List.set_cons_zero, List.set_cons_succ]
      refine held_one 8 rfl (by kernel_rfl) (by rfl) (fun K hK => ?_)
      refine wp_store_mid _ _ _ rfl Bx25 0 ([.int .i64 0, .int .u64 0]).toArray rfl rfl hA35 sizeCap (capAll2 _ _) ?_
      have hS37' : But [bt] w4 (w42.setCells Bx25 0 ([.int .i64 0, .int .u64 0])) := hS34.setCells (.inr hge28) _ _
      have hRhS37 : (w42.setCells Bx25 0 ([.int .i64 0, .int .u64 0])).rangeAt Bx25 0 ([.int .i64 0, .int .u64 0]) := World.rangeAt_setCells_same _ _ _ _ hA35
      have hkhS37 : But [Bx25] w42 (w42.setCells Bx25 0 ([.int .i64 0, .int .u64 0])) := (But.refl _ _).setCells (by simp) _ _
      generalize w42.setCells Bx25 0 ([.int .i64 0, .int .u64 0]) = wz38 at *
      refine hK.out _ _ hS37' (fun hS37 => ?_)
      clear hK K
      try simp only [Act.put]
      refine held_take 9 (some 6) (.int .i64 24) rfl rfl (by kernel_rfl) (by kernel_rfl) (by kernel_rfl) (fun _ _ _ h => h) (Or.inl ⟨by rfl, fun w' hw' => by go_simp⟩) hS37 ?_
      simp only [Act.put, List.setIfInBounds_toArray]
      refine wpAnyH_done (by kernel_rfl) ?_ _
      refine NoPanic.normal ?_
      have hTF := (hTR.keep hkhS37 (by first | (simp; done) | (have := HBL.out; simp; omega)) (by simp)).less (by simp)
      go_wp2_with fail
      go_meet
      exact ⟨_, rfl, rfl, hTF, hS37⟩
  case rest =>
  obtain ⟨B3, rfl, rfl, ht5, k5⟩ := hcut
  have HC0 := hid (cell_keep HC0.out k5 (by have := HBC.out; simp; omega))
  have HC1 := hid (cell_keep HC1.out k5 (by have := HBC.out; simp; omega))
  have HK5 := hid (but_own HK4.out k5 (fun i hi => by have := HBC.out; have := HK1.out.size; simp at hi; omega))
  obtain ⟨f, hf⟩ := ht5
  have HF := hid hf
  have hc0 := HC0.out
  have hc1 := HC1.out
  clear hf k5 hTR HDV
  go_wp2_with fail
  refine (Revoke_c bt 2 [bt] tB f 0 1 wc HF.out tB_wf).mono ?_
  rintro e w6 ⟨rfl, ht6, k6⟩
  rw [tB_rev.1]
  rw [tB_rev.2] at ht6
  have HK6 := hid (but_own HK5.out k6 (fun i hi => by have := HBC.out; have := HK1.out.size; simp at hi; omega))
  obtain ⟨f6, hf6⟩ := ht6
  have HF6 := hid hf6
  clear hf6 k6 hc0 hc1
  go_wp2_with fail
  refine (Len_c bt 2 [bt] _ f6 w6 HF6.out).mono ?_
  rintro e w7 ⟨rfl, k7⟩
  rw [tB_len]
  have HK7 := hid (HK6.out.trans k7)
  clear k7
  go_wp2
  go_ret
  exact ⟨rfl, HK7.out⟩
end Go.Proofs.Ytlppfcoclpdanaa.Cs
