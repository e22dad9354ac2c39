/-
  Layer 12 (caps): the contract of the document's Derive, over the translated program.
-/
import Derived.Test.YtlppfcoclpdanaaCsRefL
import Derived.Test.YtlppfcoclpdanaaFloat
namespace Go.Proofs.Ytlppfcoclpdanaa.Cs
open Go.ChangeShapes Go.WideShapes Go.ChangeAt Go.RowKit
open Wh Sn
set_option linter.unusedVariables false
set_option maxRecDepth 20000

theorem countN_c (f : Nat → Bool) (u : Nat) (hu : (nums f 1024).length = u) (w : World) :
    Calls Try.prog 49 #[.agg (bv f).toArray] w fun e w' => e = .returned (.int .i64 (u : Nat)) ∧ But [] w w' := by
  subst hu
  exact count_c f w
theorem but_two {bx bl : Nat} {u w1 w2 : World} (h : But [bx, bl] u w1) (k : But [] w1 w2) : But [bx, bl] u w2 := h.trans (k.any _)
/-- What the document's Derive tells. -/
def RdV (T : Tr) (m : Nat) (at_ : Int) (g : Nat) (s : Nat → Bool) : Value := .tuple #[.int .i64 (dvK T at_ g s : Nat), .int .u64 (dvG T m at_ g s : Nat), .int .i64 (dcode T at_ g s)]
theorem RdV_no {T : Tr} {m : Nat} {at_ : Int} {g : Nat} {s : Nat → Bool} {k : Int} (h : dcode T at_ g s = k) (hk : k ≠ 0) : RdV T m at_ g s = .tuple #[.int .i64 0, .int .u64 0, .int .i64 k] ∧ dvT T m at_ g s = T ∧ dvM T m at_ g s = m := by
  have hn : dcode T at_ g s ≠ 0 := by rw [h]; exact hk
  obtain ⟨h1, h2, h3, h4⟩ := dv_no (m := m) hn
  unfold RdV
  rw [h1, h2, h]
  exact ⟨rfl, h4, h3⟩
theorem nz_len {f : Nat → Bool} {u : Nat} (h : (nums f 1024).length = u) : nz f = decide (0 < u) := by unfold nz; rw [h]
set_option maxHeartbeats 4000000 in
theorem rDerive_c (bx bl m : Nat) (T : Tr) (at_ : Int) (g : Nat) (s : Nat → Bool) (w : World) (h : RfAt w bx bl T m) (hm : m ≤ 1000000) :
    Calls Try.prog 29 #[.pointer (some ⟨bx, 0, none⟩), .int .i64 at_, .int .u64 g, .agg (bv s).toArray] w fun e w' =>
      e = .returned (RdV T m at_ g s) ∧ RfAt w' bx bl (dvT T m at_ g s) (dvM T m at_ g s) ∧ But [bx, bl] w w' := by
  obtain ⟨B, hB⟩ : ∃ B, B = w.heap.size := ⟨_, rfl⟩
  obtain ⟨w0, hw0⟩ : ∃ w0, w0 = w.alloc (.cells (bv s).toArray 36) := ⟨_, rfl⟩
  have HK0 : Hid (But [] w w0) := by show But _ _ _; rw [hw0]; exact (But.refl [] w).alloc _
  have hr := new_range w (bv s) 36
  rw [← hw0, ← hB] at hr
  have HR0 := hid hr
  have HBW := hid hB
  have H0 := hid (h.keep0 HK0.out)
  have hlt := h.lt
  have HNE : Hid (bx < B ∧ bl < B) := by show _ ∧ _; omega
  clear h hr hlt
  go_enter Try.func29, Try.ntmps29
  go_upto_region 1 with fail
  rw [← hw0, ← hB]
  clear hw0 hB
  go_wp2_with fail
  refine (rIs_c bx bl m T at_ g w0 H0.out).mono ?_
  rintro e w1 ⟨rfl, rfl⟩
  by_cases hi : isB T at_ g = true
  case neg =>
    have hi : isB T at_ g = false := by simpa using hi
    have HX := hid (RdV_no (m := m) (s := s) (k := 3) (if_pos hi) (by omega))
    rw [hi]
    clear hi
    go_wp2
    go_ret3
    exact ⟨by rw [HX.out.1]; rfl, by rw [HX.out.2.1, HX.out.2.2]; exact H0.out, HK0.out.any _⟩
  case pos =>
  obtain ⟨a, rfl, ha, hg0, hga⟩ := isB_iff.1 hi
  have HI := hid hi
  have haI : (a : Int) < 64 := by omega
  have haI0 : (0 : Int) ≤ (a : Int) := by omega
  rw [hi]
  clear hi hga
  obtain ⟨u0, hu0⟩ : ∃ u, (nums s 1024).length = u := ⟨_, rfl⟩
  have HU0 := hid hu0
  clear hu0
  go_wp2_with (first | (refine wpList_load_mid rfl 36 _ rfl B 0 rfl (bv s) _ HR0.out Try.underlying36 rfl (iSet _) ?_))
  refine (countN_c s u0 HU0.out w0).mono ?_
  rintro e w2 ⟨rfl, k2⟩
  have HK2 := hid (HK0.out.trans k2)
  have HR2 := hid (range_keep HR0.out k2 (by simp))
  have H2 := hid (H0.out.keep0 k2)
  clear k2
  by_cases hz : u0 = 0
  case pos =>
    subst hz
    have HX := hid (RdV_no (T := T) (at_ := a) (g := g) (m := m) (s := s) (k := 1) (by unfold dcode; rw [if_neg (by rw [HI.out]; simp), if_pos (by rw [nz_len HU0.out]; rfl)]) (by omega))
    go_wp2
    go_ret3
    exact ⟨by rw [HX.out.1]; rfl, by rw [HX.out.2.1, HX.out.2.2]; exact H2.out, HK2.out.any _⟩
  case neg =>
  have HZ : Hid (nz s = true) := by show _ = _; rw [nz_len HU0.out]; exact decide_eq_true (by omega)
  have hl0 : ((u0 : Int) == 0) = false := by simp; omega
  obtain ⟨u1, hu1⟩ : ∃ u, (nums (wo s (T a).st) 1024).length = u := ⟨_, rfl⟩
  have HU1 := hid hu1
  have HC0 := hid H2.out.c0
  have HTS := hid (H2.out.s ha)
  clear hu1 HU0 hz
  go_upto_region 5 with fail
  refine wp_region_noPanic ?_
  refine wp_region_held_drew (S := fun w' => But [] w2 w') (by kernel_rfl) (But.refl _ _).drew (fun hS0 => ?_)
  generalize w2.drew = wd at *
  refine held_take 0 (some 20) (.agg (bv s).toArray) rfl rfl (by kernel_rfl) (by kernel_rfl) (by kernel_rfl) (fun _ _ _ h => h) (yieldsIf_load_mid (by rfl) _ _ rfl B 0 rfl (bv s) _ (fun w' h => range_keep HR2.out h (by simp)) Try.underlying36 rfl (iSet _)) hS0 ?_
  simp only [Act.put, List.setIfInBounds_toArray, List.set_cons_zero, List.set_cons_succ]
  refine held_take 1 (some 21) (.pointer (some ⟨bx, 0, none⟩)) rfl rfl (by kernel_rfl) (by kernel_rfl) (by kernel_rfl) (fun _ _ _ h => h) (Or.inl ⟨by rfl, fun w' hw' => by go_simp⟩) hS0 ?_
  simp only [Act.put, List.setIfInBounds_toArray, List.set_cons_zero, List.set_cons_succ]
  refine held_take 2 (some 22) (.pointer (some ⟨bx, 0, none⟩)) rfl rfl (by kernel_rfl) (by kernel_rfl) (by kernel_rfl) (fun _ _ _ h => h) (Or.inl ⟨by rfl, fun w' hw' => by go_simp⟩) hS0 ?_
  simp only [Act.put, List.setIfInBounds_toArray, List.set_cons_zero, List.set_cons_succ]
  refine held_take 3 (some 23) (.pointer (some ⟨bx, 0, none⟩)) rfl rfl (by kernel_rfl) (by kernel_rfl) (by kernel_rfl) (fun _ _ _ h => h) (Or.inl ⟨by rfl, fun w' hw' => by go_simp⟩) hS0 ?_
  simp only [Act.put, List.setIfInBounds_toArray, List.set_cons_zero, List.set_cons_succ]
  refine held_take 4 (some 24) (.slice (some ⟨bl, 0, none⟩) 64 64) rfl rfl (by kernel_rfl) (by kernel_rfl) (by kernel_rfl) (fun _ _ _ h => h) (Or.inl ⟨by rfl, fun w' hw' => by have hq0 := cell_keep HC0.out hw' (by simp); go_simp⟩) hS0 ?_
  simp only [Act.put, List.setIfInBounds_toArray, List.set_cons_zero, List.set_cons_succ]
  refine held_take 5 (some 25) (.int .i64 a) rfl rfl (by kernel_rfl) (by kernel_rfl) (by kernel_rfl) (fun _ _ _ h => h) (Or.inl ⟨by rfl, fun w' hw' => by go_simp⟩) hS0 ?_
  simp only [Act.put, List.setIfInBounds_toArray, List.set_cons_zero, List.set_cons_succ]
  refine held_take 6 (some 26) (.pointer (some ⟨bl, a * 1026, none⟩)) rfl rfl (by kernel_rfl) (by kernel_rfl) (by kernel_rfl) (fun _ _ _ h => h) (Or.inl ⟨by rfl, fun w' hw' => by go_simp⟩) hS0 ?_
  simp only [Act.put, List.setIfInBounds_toArray, List.set_cons_zero, List.set_cons_succ]
  refine held_take 7 (some 27) (.pointer (some ⟨bl, a * 1026 + 2, none⟩)) rfl rfl (by kernel_rfl) (by kernel_rfl) (by kernel_rfl) (fun _ _ _ h => h) (Or.inl ⟨by rfl, fun w' hw' => by go_simp⟩) hS0 ?_
  simp only [Act.put, List.setIfInBounds_toArray, List.set_cons_zero, List.set_cons_succ]
  refine held_take 8 (some 28) (.agg (bv (T a).st).toArray) rfl rfl (by kernel_rfl) (by kernel_rfl) (by kernel_rfl) (fun _ _ _ h => h) (yieldsIf_load_mid (by rfl) _ _ rfl bl (a * 1026 + 2) rfl (bv (T a).st) _ (fun w' h => range_keep HTS.out h (by simp)) Try.underlying36 rfl (iSet _)) hS0 ?_
  simp only [Act.put, List.setIfInBounds_toArray, List.set_cons_zero, List.set_cons_succ]
  refine held_one 9 rfl (by kernel_rfl) (by rfl) (fun K hK => ?_)
  go_simp
  refine (rlay1_c s (T a).st _).mono ?_
  rintro e w21 ⟨rfl, k21⟩
  go_wp2_with fail
  have hS1' : But [] w2 w21 := hS0.trans k21
  skip
  refine hK.out _ _ hS1' (fun hS1 => ?_)
  clear hK K
  try simp only [Act.put, List.setIfInBounds_toArray, List.set_cons_zero, List.set_cons_succ]
  refine held_one 10 rfl (by kernel_rfl) (by rfl) (fun K hK => ?_)
  go_simp
  refine (countN_c (wo s (T a).st) u1 HU1.out _).mono ?_
  rintro e w22 ⟨rfl, k22⟩
  go_wp2_with fail
  have hS2' : But [] w2 w22 := hS1.trans k22
  skip
  refine hK.out _ _ hS2' (fun hS2 => ?_)
  clear hK K
  try simp only [Act.put, List.setIfInBounds_toArray, List.set_cons_zero, List.set_cons_succ]
  refine held_take 11 (some 31) (.bool (decide (0 < u1))) rfl rfl (by kernel_rfl) (by kernel_rfl) (by kernel_rfl) (fun _ _ _ h => h) (Or.inl ⟨by rfl, fun w' hw' => by go_simp⟩) hS2 ?_
  simp only [Act.put, List.setIfInBounds_toArray, List.set_cons_zero, List.set_cons_succ]
  refine wpAnyH_done (by kernel_rfl) ?_ _
  refine NoPanic.normal ?_
  have hS3 := hS2
  clear hS2
  generalize w22 = w3 at *
  have H3 := hid (H2.out.keep0 hS3)
  have HK3 := hid (HK2.out.trans hS3)
  have HR3 := hid (range_keep HR2.out hS3 (by simp))
  clear hS3 HC0 HTS
  by_cases hz : u1 = 0
  case neg =>
    have hd : decide (0 < u1) = true := decide_eq_true (by omega)
    have HX := hid (RdV_no (T := T) (at_ := a) (g := g) (m := m) (s := s) (k := 2) (by unfold dcode; rw [if_neg (by rw [HI.out]; simp), if_neg (by rw [HZ.out]; simp), Int.toNat_natCast, if_pos (by rw [nz_len HU1.out]; exact hd)]) (by omega))
    rw [hd]
    clear hz hd
    go_wp2
    go_ret3
    exact ⟨by rw [HX.out.1]; rfl, by rw [HX.out.2.1, HX.out.2.2]; exact H3.out, HK3.out.any _⟩
  case pos =>
  subst hz
  have HZ2 : Hid (nz (wo s (T a).st) = false) := by show _ = _; rw [nz_len HU1.out]; rfl
  obtain ⟨u2, hu2⟩ : ∃ u, (nums (bo s (lentS T a)) 1024).length = u := ⟨_, rfl⟩
  have HU2 := hid hu2
  clear hu2 HU1
  go_upto_region 7 with fail
  have H3' := H3
  refine wp_region_noPanic ?_
  refine wp_region_held_drew (S := fun w' => But [] w3 w') (by kernel_rfl) (But.refl _ _).drew (fun hS0 => ?_)
  generalize w3.drew = wd at *
  refine held_take 0 (some 32) (.agg (bv s).toArray) rfl rfl (by kernel_rfl) (by kernel_rfl) (by kernel_rfl) (fun _ _ _ h => h) (yieldsIf_load_mid (by rfl) _ _ rfl B 0 rfl (bv s) _ (fun w' h => range_keep HR3.out h (by simp)) Try.underlying36 rfl (iSet _)) hS0 ?_
  simp only [Act.put, List.setIfInBounds_toArray, List.set_cons_zero, List.set_cons_succ]
  refine held_take 1 (some 33) (.pointer (some ⟨bx, 0, none⟩)) rfl rfl (by kernel_rfl) (by kernel_rfl) (by kernel_rfl) (fun _ _ _ h => h) (Or.inl ⟨by rfl, fun w' hw' => by go_simp⟩) hS0 ?_
  simp only [Act.put, List.setIfInBounds_toArray, List.set_cons_zero, List.set_cons_succ]
  refine held_take 2 (some 34) (.int .i64 a) rfl rfl (by kernel_rfl) (by kernel_rfl) (by kernel_rfl) (fun _ _ _ h => h) (Or.inl ⟨by rfl, fun w' hw' => by go_simp⟩) hS0 ?_
  simp only [Act.put, List.setIfInBounds_toArray, List.set_cons_zero, List.set_cons_succ]
  refine held_one 3 rfl (by kernel_rfl) (by rfl) (fun K hK => ?_)
  go_simp
  refine (rLent_c bx bl m T a _ (H3.out.keep0 hS0)).mono ?_
  rintro e w31 ⟨rfl, k31⟩
  go_wp2_with fail
  have hS1' : But [] w3 w31 := hS0.trans k31
  skip
  refine hK.out _ _ hS1' (fun hS1 => ?_)
  clear hK K
  try simp only [Act.put, List.setIfInBounds_toArray, List.set_cons_zero, List.set_cons_succ]
  refine held_one 4 rfl (by kernel_rfl) (by rfl) (fun K hK => ?_)
  go_simp
  refine (rlay2_c s (lentS T a) _).mono ?_
  rintro e w32 ⟨rfl, k32⟩
  go_wp2_with fail
  have hS2' : But [] w3 w32 := hS1.trans k32
  skip
  refine hK.out _ _ hS2' (fun hS2 => ?_)
  clear hK K
  try simp only [Act.put, List.setIfInBounds_toArray, List.set_cons_zero, List.set_cons_succ]
  refine held_one 5 rfl (by kernel_rfl) (by rfl) (fun K hK => ?_)
  go_simp
  refine (countN_c (bo s (lentS T a)) u2 HU2.out _).mono ?_
  rintro e w33 ⟨rfl, k33⟩
  go_wp2_with fail
  have hS3' : But [] w3 w33 := hS2.trans k33
  skip
  refine hK.out _ _ hS3' (fun hS3 => ?_)
  clear hK K
  try simp only [Act.put, List.setIfInBounds_toArray, List.set_cons_zero, List.set_cons_succ]
  refine held_take 6 (some 38) (.bool (decide (0 < u2))) rfl rfl (by kernel_rfl) (by kernel_rfl) (by kernel_rfl) (fun _ _ _ h => h) (Or.inl ⟨by rfl, fun w' hw' => by go_simp⟩) hS3 ?_
  simp only [Act.put, List.setIfInBounds_toArray, List.set_cons_zero, List.set_cons_succ]
  refine wpAnyH_done (by kernel_rfl) ?_ _
  refine NoPanic.normal ?_
  have hS4 := hS3
  clear hS3
  generalize w33 = w4 at *
  have H4 := hid (H3'.out.keep0 hS4)
  have HK4 := hid (HK3.out.trans hS4)
  have HR4 := hid (range_keep HR3.out hS4 (by simp))
  clear hS4 H3'
  by_cases hz : u2 = 0
  case neg =>
    have hd : decide (0 < u2) = true := decide_eq_true (by omega)
    have HX := hid (RdV_no (T := T) (at_ := a) (g := g) (m := m) (s := s) (k := 24) (by unfold dcode; rw [if_neg (by rw [HI.out]; simp), if_neg (by rw [HZ.out]; simp), Int.toNat_natCast, if_neg (by rw [HZ2.out]; simp), if_pos (by rw [nz_len HU2.out]; exact hd)]) (by omega))
    rw [hd]
    clear hz hd
    go_wp2
    go_ret3
    exact ⟨by rw [HX.out.1]; rfl, by rw [HX.out.2.1, HX.out.2.2]; exact H4.out, HK4.out.any _⟩
  case pos =>
  subst hz
  have HZ3 : Hid (nz (bo s (lentS T a)) = false) := by show _ = _; rw [nz_len HU2.out]; rfl
  clear HU2
  rw [show decide (0 < 0) = false from rfl]
  have HDC : Hid (frP T 64 < 64 → dcode T a g s = 0) := fun hf => by unfold dcode; rw [if_neg (by rw [HI.out]; simp), if_neg (by rw [HZ.out]; simp), Int.toNat_natCast, if_neg (by rw [HZ2.out]; simp), if_neg (by rw [HZ3.out]; simp), if_pos hf]
  have HDN : Hid (frP T 64 = 64 → dcode T a g s = 5) := fun hf => by unfold dcode; rw [if_neg (by rw [HI.out]; simp), if_neg (by rw [HZ.out]; simp), Int.toNat_natCast, if_neg (by rw [HZ2.out]; simp), if_neg (by rw [HZ3.out]; simp), if_neg (by omega)]
  go_wp2
  go_loopg [11] 65 (fun g0 i wx => ∃ k : Nat, k + g0 = 65 ∧ k ≤ 64 ∧ i = .int .i64 k ∧ Hid (∀ q, q < k → 0 < (T q).gen) ∧ wx = w4)
  case atStart => exact ⟨0, by omega, by omega, rfl, fun q hq => absurd hq (Nat.not_lt_zero _), rfl⟩
  case round =>
    obtain ⟨k, hkg, hk, rfl, HN, rfl⟩ := hrel
    by_cases hlt : k < 64
    · have hkI : (k : Int) < 64 := by omega
      have hc0 := H4.out.c0
      have hcg := H4.out.g hlt
      by_cases hg : (T k).gen = 0
      · have e : frP T 64 = k := frP_eq (Nat.le_of_lt hlt) HN.out (fun _ => hg)
        have hc := HDC.out (by omega)
        obtain ⟨e1, e2, e3, e4⟩ := dv_yes (m := m) hc
        rw [e] at e1 e4
        have HV : Hid (RdV T m a g s = .tuple #[.int .i64 (k : Nat), .int .u64 (m + 1 : Nat), .int .i64 0]) := by show _ = _; unfold RdV; rw [e1, e2, hc]
        have HT := hid e4
        have HM := hid e3
        rw [hg] at hcg
        have hc1 := H4.out.c1
        have hz1 := H4.out.z1
        obtain ⟨M, hM⟩ : ∃ M : Nat, m + 1 = M := ⟨_, rfl⟩
        rw [hM] at HV HT HM
        have eM : (m : Int) + 1 = (M : Int) := by omega
        have HL := hid (H4.out.last M)
        have hk9 : But [bx] wr (wr.setCell ⟨bx, 1, none⟩ (.int .u64 M)) := (But.refl [bx] wr).setCell (by simp) _
        have HR9 := hid (range_keep HR4.out hk9 (by have := HNE.out; simp; omega))
        have HK9 : Hid (But [bx, bl] w (wr.setCell ⟨bx, 1, none⟩ (.int .u64 M))) := (HK4.out.any _).trans (hk9.wider (by simp))
        clear e hc e1 e2 e3 e4 hM hg hk9 HN HDC HDN HR4
        go_upto_region 14 with fail
        clear hc1 hz1 eM hc0 hcg
        generalize wr.setCell ⟨bx, 1, none⟩ (.int .u64 M) = w9 at *
        have hS0 : w9.drew.rangeAt B 0 (bv s) ∧ w9.drew.cell? ⟨bx, 0, none⟩ = some (.slice (some ⟨bl, 0, none⟩) 64 64) ∧ w9.drew.cell? ⟨bx, 1, none⟩ = some (.int .u64 M) ∧ w9.drew.there bl (k * 1026) 1026 ∧ But [] w9 w9.drew :=
          ⟨(World.rangeAt_drew _ _ _ _).2 HR9.out, HL.out.c0, HL.out.c1, (HL.out.keep0 (But.refl [] w9).drew).th hlt, (But.refl [] w9).drew⟩
        refine wp_region_noPanic ?_
        refine till_begin (fun w' => w'.rangeAt B 0 (bv s) ∧ w'.cell? ⟨bx, 0, none⟩ = some (.slice (some ⟨bl, 0, none⟩) 64 64) ∧ w'.cell? ⟨bx, 1, none⟩ = some (.int .u64 M) ∧ w'.there bl (k * 1026) 1026 ∧ But [] w9 w') 13 (by kernel_rfl) ?_
        refine till_take 0 (some 60) (.pointer (some ⟨bx, 0, none⟩)) rfl rfl (by kernel_rfl) (by kernel_rfl) (by kernel_rfl) (by kernel_rfl) (by decide) (fun _ _ _ h => h) (Or.inl ⟨by rfl, fun w' hw' => by go_simp⟩) hS0 ?_
        simp only [Act.put, List.setIfInBounds_toArray, List.set_cons_zero, List.set_cons_succ]
        refine till_take 1 (some 61) (.pointer (some ⟨bx, 0, none⟩)) rfl rfl (by kernel_rfl) (by kernel_rfl) (by kernel_rfl) (by kernel_rfl) (by decide) (fun _ _ _ h => h) (Or.inl ⟨by rfl, fun w' hw' => by go_simp⟩) hS0 ?_
        simp only [Act.put, List.setIfInBounds_toArray, List.set_cons_zero, List.set_cons_succ]
        refine till_take 2 (some 62) (.pointer (some ⟨bx, 0, none⟩)) rfl rfl (by kernel_rfl) (by kernel_rfl) (by kernel_rfl) (by kernel_rfl) (by decide) (fun _ _ _ h => h) (Or.inl ⟨by rfl, fun w' hw' => by go_simp⟩) hS0 ?_
        simp only [Act.put, List.setIfInBounds_toArray, List.set_cons_zero, List.set_cons_succ]
        refine till_take 3 (some 63) (.slice (some ⟨bl, 0, none⟩) 64 64) rfl rfl (by kernel_rfl) (by kernel_rfl) (by kernel_rfl) (by kernel_rfl) (by decide) (fun _ _ _ h => h) (Or.inl ⟨by rfl, fun w' hw' => by obtain ⟨-, hw1, -⟩ := hw'; go_simp⟩) hS0 ?_
        simp only [Act.put, List.setIfInBounds_toArray, List.set_cons_zero, List.set_cons_succ]
        refine till_take 4 (some 64) (.int .i64 k) rfl rfl (by kernel_rfl) (by kernel_rfl) (by kernel_rfl) (by kernel_rfl) (by decide) (fun _ _ _ h => h) (Or.inl ⟨by rfl, fun w' hw' => by go_simp⟩) hS0 ?_
        simp only [Act.put, List.setIfInBounds_toArray, List.set_cons_zero, List.set_cons_succ]
        refine till_take 5 (some 65) (.pointer (some ⟨bx, 0, none⟩)) rfl rfl (by kernel_rfl) (by kernel_rfl) (by kernel_rfl) (by kernel_rfl) (by decide) (fun _ _ _ h => h) (Or.inl ⟨by rfl, fun w' hw' => by go_simp⟩) hS0 ?_
        simp only [Act.put, List.setIfInBounds_toArray, List.set_cons_zero, List.set_cons_succ]
        refine till_take 6 (some 66) (.pointer (some ⟨bx, 0, none⟩)) rfl rfl (by kernel_rfl) (by kernel_rfl) (by kernel_rfl) (by kernel_rfl) (by decide) (fun _ _ _ h => h) (Or.inl ⟨by rfl, fun w' hw' => by go_simp⟩) hS0 ?_
        simp only [Act.put, List.setIfInBounds_toArray, List.set_cons_zero, List.set_cons_succ]
        refine till_take 7 (some 67) (.pointer (some ⟨bx, 1, none⟩)) rfl rfl (by kernel_rfl) (by kernel_rfl) (by kernel_rfl) (by kernel_rfl) (by decide) (fun _ _ _ h => h) (Or.inl ⟨by rfl, fun w' hw' => by go_simp⟩) hS0 ?_
        simp only [Act.put, List.setIfInBounds_toArray, List.set_cons_zero, List.set_cons_succ]
        refine till_take 8 (some 68) (.int .u64 M) rfl rfl (by kernel_rfl) (by kernel_rfl) (by kernel_rfl) (by kernel_rfl) (by decide) (fun _ _ _ h => h) (Or.inl ⟨by rfl, fun w' hw' => by obtain ⟨-, -, hw1, -⟩ := hw'; go_simp⟩) hS0 ?_
        simp only [Act.put, List.setIfInBounds_toArray, List.set_cons_zero, List.set_cons_succ]
        refine till_take 9 (some 69) (.int .i64 a) rfl rfl (by kernel_rfl) (by kernel_rfl) (by kernel_rfl) (by kernel_rfl) (by decide) (fun _ _ _ h => h) (Or.inl ⟨by rfl, fun w' hw' => by go_simp⟩) hS0 ?_
        simp only [Act.put, List.setIfInBounds_toArray, List.set_cons_zero, List.set_cons_succ]
        refine till_take 10 (some 70) (.agg (bv s).toArray) rfl rfl (by kernel_rfl) (by kernel_rfl) (by kernel_rfl) (by kernel_rfl) (by decide) (fun _ _ _ h => h) (yieldsIf_load_mid (by rfl) _ _ rfl B 0 rfl (bv s) _ (fun w' h => h.1) Try.underlying36 rfl (iSet _)) hS0 ?_
        simp only [Act.put, List.setIfInBounds_toArray, List.set_cons_zero, List.set_cons_succ]
        refine till_take 11 (some 71) (.agg (nc ⟨M, a, s⟩).toArray) rfl rfl (by kernel_rfl) (by kernel_rfl) (by kernel_rfl) (by kernel_rfl) (by decide) (fun _ _ _ h => h) (yieldsIf_build (by rfl) 46 [(0, .tmp 68), (1, .tmp 69), (2, .tmp 70)] rfl (nc ⟨M, a, s⟩).toArray [(0, .int .u64 (M : Nat)), (1, .int .i64 a), (2, .agg (bv s).toArray)] rfl (builtNode M a s)) hS0 ?_
        simp only [Act.put, List.setIfInBounds_toArray, List.set_cons_zero, List.set_cons_succ]
        refine till_take 12 (some 72) (.pointer (some ⟨bl, k * 1026, none⟩)) rfl rfl (by kernel_rfl) (by kernel_rfl) (by kernel_rfl) (by kernel_rfl) (by decide) (fun _ _ _ h => h) (Or.inl ⟨by rfl, fun w' hw' => by go_simp⟩) hS0 ?_
        simp only [Act.put, List.setIfInBounds_toArray, List.set_cons_zero, List.set_cons_succ]
        refine till_one' 13 rfl (by kernel_rfl) (by rfl) (fun K hK => ?_)
        refine wp_store_mid _ _ _ rfl bl (k * 1026) (nc ⟨M, a, s⟩).toArray rfl rfl (by rw [ncs]; exact hS0.2.2.2.1) (iNode' _) (nc_all _) ?_
        refine hK.out _ _ ⟨fun h => absurd rfl h, ?_⟩
        clear hK K
        refine till_done (by kernel_rfl) ?_ _
        refine NoPanic.normal ?_
        have hk7 : But [bl] w9.drew (w9.drew.setCells bl (k * 1026) (nc ⟨M, a, s⟩)) := (But.refl [bl] _).setCells (by simp) _ _
        have HF7 := hid ((HL.out.keep0 (But.refl [] w9).drew).put hlt ⟨M, a, s⟩)
        have HK7 : Hid (But [bx, bl] w (w9.drew.setCells bl (k * 1026) (nc ⟨M, a, s⟩))) := (HK9.out.drew).trans (hk7.wider (by simp))
        clear hk7 hS0
        generalize w9.drew.setCells bl (k * 1026) (nc ⟨M, a, s⟩) = w7 at *
        have hc1 := HF7.out.c1
        go_upto_region 15 with fail
        go_quiet (fail)
        go_wp2
        go_ret3
        exact ⟨by rw [HV.out]; rfl, by rw [HT.out, HM.out]; exact HF7.out.keep0 ((But.refl [] w7).drewN _), HK7.out.drewN _⟩
      · have hd : ((T k).gen == 0) = false := by simpa using hg
        have hd' : (((T k).gen : Int) == 0) = false := by simpa using hg
        have HN1 : Hid (∀ q, q < k + 1 → 0 < (T q).gen) := fun q hq => by
          rcases Nat.lt_or_ge q k with h | h
          · exact HN.out q h
          · obtain rfl : q = k := by omega
            omega
        generalize (T k).gen = gg at hcg hd hd'
        clear hg HN
        go_wp2
        go_roundg (65 - (k + 1))
        case measure => omega
        case rel => exact ⟨k + 1, by omega, by omega, by go_num, HN1.out, rfl⟩
    · obtain rfl : k = 64 := by omega
      have hd : decide ((64 : Int) < 64) = false := by decide
      have HX := hid (RdV_no (T := T) (at_ := a) (g := g) (m := m) (s := s) (k := 5) (HDN.out (frP_eq (Nat.le_refl _) HN.out (fun h => absurd h (Nat.lt_irrefl _)))) (by omega))
      go_wp2
      go_ret3
      exact ⟨by rw [HX.out.1]; rfl, by rw [HX.out.2.1, HX.out.2.2]; exact H4.out, HK4.out.any _⟩
end Go.Proofs.Ytlppfcoclpdanaa.Cs
