/-
  Layer 12 (caps): the contract of the statements' does, over the translated program.
-/
import Derived.Test.YtlppfcoclpdanaaCsRefC
import Derived.Test.YtlppfcoclpdanaaCsDer
import Derived.Test.YtlppfcoclpdanaaCsBo
import Derived.Test.YtlppfcoclpdanaaCsRefR
namespace Go.Proofs.Ytlppfcoclpdanaa.Cs
open Go.ChangeShapes Go.WideShapes Go.ChangeAt Go.RowKit
open Wh Sn
set_option linter.unusedVariables false
set_option maxRecDepth 20000

def gN (T : Tr) (at_ : Int) (G : Nat) : Nat := if G = 0 ∧ 0 ≤ at_ ∧ at_ < 64 then (T at_.toNat).gen else G
/-- One deed on; the first cap stays. -/
def Stq (T : Tr) (m : Nat) (T' : Tr) (m' : Nat) : Prop := Stp T m T' m' ∧ (T' 0).gen = (T 0).gen
theorem Stq.refl (T : Tr) (m : Nat) : Stq T m T m := ⟨Stp.refl T m, rfl⟩
theorem dv_stq {T : Tr} {m : Nat} (h : Wf T m) {at_ : Int} {g : Nat} {s : Nat → Bool} : Stq T m (dvT T m at_ g s) (dvM T m at_ g s) := by
  refine ⟨dv_stp, ?_⟩
  by_cases hc : dcode T at_ g s = 0
  · obtain ⟨_, _, _, eT⟩ := dv_yes (m := m) hc
    have hf := (frP_spec T 64).2 (dcode_zero hc).2.2.2.2
    have hr := h.root
    rw [eT, updN_other _ _ (fun e => by rw [← e] at hf; omega)]
  · obtain ⟨_, _, _, eT⟩ := dv_no (m := m) hc
    rw [eT]
theorem rv_stq {T : Tr} {m a : Nat} {self : Bool} (h : Wf T m) (hs : self = true → a ≠ 0) : Stq T m (rvT T a self) m := by
  refine ⟨rv_stp, ?_⟩
  rw [rv_stay]
  rw [und_root h]
  cases self with
  | false => rfl
  | true => have := hs rfl; simp; omega
theorem ct_stq {T : Tr} {m a : Nat} {s : Nat → Bool} (h : Wf T m) : Stq T m (ctT T a s) m := ⟨ct_stp, (ct_pos h (ct_root h)).2.1⟩
/-- What does ends in. -/
def DoP (w : World) (bt bx bl : Nat) (Y : List Nat) (T : Tr) (m : Nat) (e : Ending) (w' : World) : Prop :=
  e = .returned (.bool true) ∧ ∃ T' m', Bo w' bt bx bl Y T' m' ∧ Stq T m T' m' ∧ But [bt, bx, bl] w w'
/-- Behind Derive. -/
structure Dq (wb : World) (bt : Nat) (Z : List Nat) (T : Tr) (m : Nat) (k g : Nat) (B2 : Nat) (wx : World) : Prop where
  k0 : wx.cell? ⟨B2, 0, none⟩ = some (.int .i64 k)
  k1 : wx.cell? ⟨B2, 1, none⟩ = some (.int .u64 g)
  ge : wb.heap.size ≤ B2
  tr : TrA wx bt Z T m
  but : But [bt] wb wx
theorem of_c' (a b : Int) (w : World) : Calls Try.prog 8 #[.int .i64 a, .int .i64 b] w (Gives w (one a b)) := Sn.of_c a b w
theorem Cut_c' (b m : Nat) (Z : List Nat) (T : Tr) (at_ : Int) (g : Nat) (A : Option Addr) (n c lo : Nat) (s : Nat → Bool) (w : World) (h : TrA w b Z T m) (hW : Wf T m) (hs : SetAt w lo A n s) (ho : Off Z A n) :
    Calls Try.prog 22 #[.pointer (some ⟨b, 0, none⟩), .agg #[.int .i64 at_, .int .u64 g], .agg #[.slice A n c]] w fun e w' =>
      e = .returned (CutV T at_ g s) ∧ TrA w' b Z (CutT T at_ g s) m ∧ But [b] w w' := by
  obtain ⟨f, hf⟩ := h
  exact Cut_c b m Z T f at_ g A n c lo s w hf hW hs ho
theorem box_cap' (w : World) (x y : Int) (t : TypeId) : (w.alloc (.cells #[.int .i64 x, .int .u64 y] t)).cell? ⟨w.heap.size, 0, none⟩ = some (.int .i64 x) ∧ (w.alloc (.cells #[.int .i64 x, .int .u64 y] t)).cell? ⟨w.heap.size, 1, none⟩ = some (.int .u64 y) :=
  ⟨range_cells (new_range w [.int .i64 x, .int .u64 y] t) 0 _ rfl, range_cells (new_range w [.int .i64 x, .int .u64 y] t) 1 _ rfl⟩
theorem deed_box (w : World) (K at_ F To : Int) (G : Nat) (t : TypeId) (j : Nat) (v : Value) (h : [Value.int .i64 K, .int .i64 at_, .int .i64 F, .int .i64 To, .int .u64 G][j]? = some v) :
    (w.alloc (.cells #[.int .i64 K, .int .i64 at_, .int .i64 F, .int .i64 To, .int .u64 G] t)).cell? ⟨w.heap.size, j, none⟩ = some v := by
  have := range_cells (new_range w [.int .i64 K, .int .i64 at_, .int .i64 F, .int .i64 To, .int .u64 G] t) j v h
  rwa [Nat.zero_add] at this
set_option maxHeartbeats 8000000 in
theorem does_c (bt bx bl m : Nat) {Y : List Nat} (T : Tr) (K at_ F To : Int) (G : Nat) (w : World) (h : Bo w bt bx bl Y T m) (hm : m ≤ 100000) :
    Calls Try.prog 11 #[.pointer (some ⟨bt, 0, none⟩), .pointer (some ⟨bx, 0, none⟩), .agg #[.int .i64 K, .int .i64 at_, .int .i64 F, .int .i64 To, .int .u64 G]] w (DoP w bt bx bl Y T m) := by
  obtain ⟨q, hq⟩ : ∃ q, q = w.heap.size := ⟨_, rfl⟩
  obtain ⟨w0, hw0⟩ : ∃ w0, w0 = w.alloc (.cells #[.int .i64 K, .int .i64 at_, .int .i64 F, .int .i64 To, .int .u64 G] 40) := ⟨_, rfl⟩
  have hd0 := deed_box w K at_ F To G 40 0 _ rfl
  have hd1 := deed_box w K at_ F To G 40 1 _ rfl
  have hd2 := deed_box w K at_ F To G 40 2 _ rfl
  have hd3 := deed_box w K at_ F To G 40 3 _ rfl
  have hd4 := deed_box w K at_ F To G 40 4 _ rfl
  rw [← hw0, ← hq] at hd0 hd1 hd2 hd3 hd4
  have HK0 : Hid (But [] w w0) := by show But _ _ _; rw [hw0]; exact (But.refl [] w).alloc _
  have HQ0 := hid hd0
  have HQ1 := hid hd1
  have HQ2 := hid hd2
  have HQ3 := hid hd3
  have hlt := h.lt
  have HNE : Hid (bt < q ∧ bx < q ∧ bl < q) := by show _ ∧ _; omega
  have HN12 : Hid (bt ≠ bx ∧ bt ≠ bl ∧ bx ≠ bl) := ⟨h.n1, h.n2, h.rf.ne⟩
  have H0 := hid (h.keep0 HK0.out)
  have HQW := hid hq
  clear hd0 hd2 hd3 hlt h
  go_enter Try.func11, Try.ntmps11
  go_upto_region 2 with fail
  rw [← hw0, ← hq]
  clear hw0 hq
  obtain ⟨zz, hzz⟩ : ∃ zz : Bool, zz = decide (G = 0 ∧ 0 ≤ at_ ∧ at_ < 64) := ⟨_, rfl⟩
  have HZZ := hid hzz
  clear hzz
  go_cut [32] from 21 to 31 (fun s32 wx => s32 = .bool zz ∧ wx = w0)
  case first =>
    by_cases hG : G = 0
    · by_cases ha0 : 0 ≤ at_
      · by_cases ha1 : at_ < 64
        · have hz : Hid (zz = true) := by show _ = _; rw [HZZ.out]; exact decide_eq_true ⟨hG, ha0, ha1⟩
          subst hG
          go_wp2_with fail
          go_meet
          exact ⟨by rw [hz.out], rfl⟩
        · have hz : Hid (zz = false) := by show _ = _; rw [HZZ.out]; exact decide_eq_false (fun h => ha1 h.2.2)
          have hd : decide (at_ < 64) = false := decide_eq_false ha1
          subst hG
          go_wp2_with fail
          go_meet
          exact ⟨by rw [hz.out], rfl⟩
      · have hz : Hid (zz = false) := by show _ = _; rw [HZZ.out]; exact decide_eq_false (fun h => ha0 h.2.1)
        have hd : decide (0 ≤ at_) = false := decide_eq_false ha0
        subst hG
        go_wp2_with fail
        go_meet
        exact ⟨by rw [hz.out], rfl⟩
    · have hz : Hid (zz = false) := by show _ = _; rw [HZZ.out]; exact decide_eq_false (fun h => hG h.1)
      have hd : ((G : Int) == 0) = false := by simp; omega
      have hd2 : (G == 0) = false := by simp; omega
      go_wp2_with fail
      go_meet
      exact ⟨by rw [hz.out], rfl⟩
  case rest =>
  obtain ⟨rfl, rfl⟩ := hcut
  go_upto_if 32 with fail
  go_cut [7] (fun s7 wx => s7 = .int .u64 (gN T at_ G) ∧ Hid (But [] wc wx))
  case first =>
    cases zz with
    | true =>
      obtain ⟨rfl, ha0, ha1⟩ := of_decide_eq_true HZZ.out.symm
      obtain ⟨a, rfl⟩ : ∃ a : Nat, at_ = a := ⟨at_.toNat, by omega⟩
      have ha : a < 64 := by omega
      have HE : Hid (gN T a 0 = (T a).gen) := by show _ = _; unfold gN; rw [if_pos ⟨rfl, ha0, ha1⟩, Int.toNat_natCast]
      have hc0 := H0.out.rf.c0
      have hcg := H0.out.rf.g ha
      go_upto_region 3 with fail
      go_quiet (fail)
      go_wp2_with fail
      go_meet
      exact ⟨by rw [HE.out], (But.refl [] wc).drewN _⟩
    | false =>
      have HE : Hid (gN T at_ G = G) := by show _ = _; unfold gN; rw [if_neg (of_decide_eq_false HZZ.out.symm)]
      go_wp2_with fail
      go_meet
      exact ⟨by rw [HE.out], But.refl [] wc⟩
  case rest =>
  obtain ⟨rfl, HK1⟩ := hcut
  have HQ0 := hid (cell_keep HQ0.out HK1.out (by simp))
  have HQ1 := hid (cell_keep HQ1.out HK1.out (by simp))
  have HQ2 := hid (cell_keep HQ2.out HK1.out (by simp))
  have HQ3 := hid (cell_keep HQ3.out HK1.out (by simp))
  have H1 := hid (H0.out.keep0 HK1.out)
  have HKW := hid (HK0.out.trans HK1.out)
  obtain ⟨g, hg⟩ : ∃ g, g = gN T at_ G := ⟨_, rfl⟩
  rw [← hg]
  clear hg HZZ
  obtain ⟨Bc, hBc⟩ : ∃ Bc, Bc = wc.heap.size := ⟨_, rfl⟩
  obtain ⟨hbc0, hbc1⟩ := box_cap' wc at_ g 26
  rw [← hBc] at hbc0 hbc1
  have HC0 := hid hbc0
  have HC1 := hid hbc1
  have HK2 : Hid (But [] wc (wc.alloc (.cells #[.int .i64 at_, .int .u64 g] 26))) := (But.refl [] wc).alloc _
  have HQC : Hid (q < Bc ∧ bt < Bc ∧ bx < Bc ∧ bl < Bc) := by
    have := lt_of_cell HQ0.out
    have := HNE.out
    have h0 : q < wc.heap.size := by assumption
    show _ ∧ _
    omega
  have hd1 := HQ1.out
  clear hbc0 hbc1
  go_upto_region 5 with fail
  rw [← hBc]
  clear hBc hd1
  have HQ0 := hid (cell_keep HQ0.out HK2.out (by simp))
  have HQ1 := hid (cell_keep HQ1.out HK2.out (by simp))
  have HQ2 := hid (cell_keep HQ2.out HK2.out (by simp))
  have HQ3 := hid (cell_keep HQ3.out HK2.out (by simp))
  have H2 := hid (H1.out.keep0 HK2.out)
  have HKW := hid (HKW.out.trans HK2.out)
  have HKC : Hid (But [] (wc.alloc (.cells #[.int .i64 at_, .int .u64 g] 26)) (wc.alloc (.cells #[.int .i64 at_, .int .u64 g] 26))) := But.refl _ _
  generalize wc.alloc (.cells #[.int .i64 at_, .int .u64 g] 26) = w2 at *
  have hd1 := HQ1.out
  go_wp2_with fail
  refine (rIs_c bx bl m T at_ g w2 H2.out.rf).mono ?_
  rintro e w3 ⟨rfl, rfl⟩
  have hd0 := HQ0.out
  clear hd1
  go_upto_region 13 with fail
  clear hd0
  have HF := hid (one_lim F To)
  have HNT : Hid (∀ i, i ∈ [bt] → i = bt) := fun i hi => by simpa using hi
  by_cases hK : 0 ≤ K ∧ K ≤ 4
  · obtain ⟨k0, hk0⟩ : ∃ k0 : Bool, k0 = (K == 0) := ⟨_, rfl⟩
    have HKK := hid hk0
    clear hk0
    go_cut [74] from 74 to 75 (fun s74 wx => s74 = .bool k0 ∧ wx = w2)
    case first =>
      go_wp2_with fail
      go_meet
      exact ⟨by rw [HKK.out], rfl⟩
    case rest =>
    obtain ⟨rfl, hwc⟩ := hcut
    rw [hwc]
    clear hwc
    go_upto_if 74 with fail
    go_cut [74] (fun s74 wx => s74 = .bool true ∧ wx = w2)
    case first =>
      have h5 : K = 0 ∨ K = 1 ∨ K = 2 ∨ K = 3 ∨ K = 4 := by omega
      rcases h5 with rfl | rfl | rfl | rfl | rfl <;> (have hk := HKK.out; simp at hk; subst hk; go_wp2_with fail; go_meet; exact ⟨rfl, rfl⟩)
    case rest =>
    obtain ⟨rfl, hwc⟩ := hcut
    rw [hwc]
    clear hwc hK
    obtain ⟨kk, hkk⟩ : ∃ kk, dvK T at_ g (one F To) = kk := ⟨_, rfl⟩
    obtain ⟨gg, hgg⟩ : ∃ gg, dvG T m at_ g (one F To) = gg := ⟨_, rfl⟩
    obtain ⟨cc, hcc⟩ : ∃ cc, dcode T at_ g (one F To) = cc := ⟨_, rfl⟩
    have HDV : Hid (DvV T m at_ g (one F To) = .tuple #[.agg #[.int .i64 kk, .int .u64 gg], .int .i64 cc]) := by show _ = _; unfold DvV; rw [hkk, hgg, hcc]
    have HRV : Hid (RdV T m at_ g (one F To) = .tuple #[.int .i64 kk, .int .u64 gg, .int .i64 cc]) := by show _ = _; unfold RdV; rw [hkk, hgg, hcc]
    clear hkk hgg hcc
    go_upto_region 18 with fail
    have hTR : TrA w2.drew bt (bt :: bx :: bl :: Y) T m := H2.out.tr.keep0 (But.refl [] w2).drew
    have HBT : Hid (bt < w2.heap.size) := H2.out.lt.1
    go_cut [14, 15] from 80 to 90 (fun s14 s15 wx => ∃ B2 : Nat, s14 = .pointer (some ⟨B2, 0, none⟩) ∧ s15 = .int .i64 cc ∧ Dq w2 bt (bt :: bx :: bl :: Y) (dvT T m at_ g (one F To)) (dvM T m at_ g (one F To)) kk gg B2 wx)
    case first =>
      refine wp_region_noPanic ?_
      refine wp_region_held_drew (S := fun w' => But [bt] w2 w') (by kernel_rfl) (But.refl _ _).drew (fun hS0 => ?_)
      generalize w2.drew = wd at *
      refine held_take 0 (some 81) (.pointer (some ⟨bt, 0, none⟩)) rfl rfl (by kernel_rfl) (by kernel_rfl) (by kernel_rfl) (fun _ _ _ h => h) (Or.inl ⟨by rfl, fun w' hw' => by go_simp⟩) hS0 ?_
      simp only [Act.put, List.setIfInBounds_toArray, List.set_cons_zero, List.set_cons_succ]
      refine held_take 1 (some 82) (.agg #[.int .i64 at_, .int .u64 g]) rfl rfl (by kernel_rfl) (by kernel_rfl) (by kernel_rfl) (fun _ _ _ h => h) (Or.inl ⟨by rfl, fun w' hw' => by have hq0 := cell_keep HC0.out hw' (by have := HQC.out; have := HNE.out; simp; omega); have hq1 := cell_keep HC1.out hw' (by have := HQC.out; have := HNE.out; simp; omega); go_simp⟩) hS0 ?_
      simp only [Act.put, List.setIfInBounds_toArray, List.set_cons_zero, List.set_cons_succ]
      refine held_take 2 (some 83) (.pointer (some ⟨q, 2, none⟩)) rfl rfl (by kernel_rfl) (by kernel_rfl) (by kernel_rfl) (fun _ _ _ h => h) (Or.inl ⟨by rfl, fun w' hw' => by go_simp⟩) hS0 ?_
      simp only [Act.put, List.setIfInBounds_toArray, List.set_cons_zero, List.set_cons_succ]
      refine held_take 3 (some 84) (.int .i64 F) rfl rfl (by kernel_rfl) (by kernel_rfl) (by kernel_rfl) (fun _ _ _ h => h) (Or.inl ⟨by rfl, fun w' hw' => by have hq0 := cell_keep HQ2.out hw' (by have := HQC.out; have := HNE.out; simp; omega); go_simp⟩) hS0 ?_
      simp only [Act.put, List.setIfInBounds_toArray, List.set_cons_zero, List.set_cons_succ]
      refine held_take 4 (some 85) (.pointer (some ⟨q, 3, none⟩)) rfl rfl (by kernel_rfl) (by kernel_rfl) (by kernel_rfl) (fun _ _ _ h => h) (Or.inl ⟨by rfl, fun w' hw' => by go_simp⟩) hS0 ?_
      simp only [Act.put, List.setIfInBounds_toArray, List.set_cons_zero, List.set_cons_succ]
      refine held_take 5 (some 86) (.int .i64 To) rfl rfl (by kernel_rfl) (by kernel_rfl) (by kernel_rfl) (fun _ _ _ h => h) (Or.inl ⟨by rfl, fun w' hw' => by have hq0 := cell_keep HQ3.out hw' (by have := HQC.out; have := HNE.out; simp; omega); go_simp⟩) hS0 ?_
      simp only [Act.put, List.setIfInBounds_toArray, List.set_cons_zero, List.set_cons_succ]
      refine held_two 6 11 rfl rfl (by kernel_rfl) (by rfl) (by rfl) (fun K hK => ?_) (fun K hK => ?_)
      · skip
        go_simp
        refine (of_c' F To _).mono ?_
        rintro e w41 ⟨A1, n1, c1, rfl, hs1, k41⟩
        go_wp2_with fail
        have hS1' : But [bt] w2 w41 := hS0.trans (k41.any _)
        have hsK := hs1
        have hoK := Off.of_lo hs1 hTR.low
        have hTR := hTR.keep0 k41
        refine hK.out _ _ hS1' (fun hS1 => ?_)
        clear hK K
        try simp only [Act.put, List.setIfInBounds_toArray, List.set_cons_zero, List.set_cons_succ]
        refine held_two 7 11 rfl rfl (by kernel_rfl) (by rfl) (by rfl) (fun K hK => ?_) (fun K hK => ?_)
        · skip
          go_simp
          refine (Derive_c' bt m (bt :: bx :: bl :: Y) T at_ g A1 n1 c1 _ (one F To) _ hTR H2.out.wf hsK hoK (by omega)).mono ?_
          rintro e w42 ⟨rfl, hTR, k42⟩
          rw [HDV.out]
          go_wp2_with fail
          have hS2' : But [bt] w2 w42 := hS1.trans k42
          skip
          refine hK.out _ _ hS2' (fun hS2 => ?_)
          clear hK K
          try simp only [Act.put, List.setIfInBounds_toArray, List.set_cons_zero, List.set_cons_succ]
          refine held_take 8 (some 80) (.tuple #[.agg #[.int .i64 kk, .int .u64 gg], .int .i64 cc]) rfl rfl (by kernel_rfl) (by kernel_rfl) (by kernel_rfl) (fun _ _ _ h => h) (Or.inl ⟨by rfl, fun w' hw' => by go_simp⟩) hS2 ?_
          simp only [Act.put, List.setIfInBounds_toArray, List.set_cons_zero, List.set_cons_succ]
          refine held_take 9 (some 89) (.agg #[.int .i64 kk, .int .u64 gg]) rfl rfl (by kernel_rfl) (by kernel_rfl) (by kernel_rfl) (fun _ _ _ h => h) (Or.inl ⟨by rfl, fun w' hw' => by go_simp⟩) hS2 ?_
          simp only [Act.put, List.setIfInBounds_toArray, List.set_cons_zero, List.set_cons_succ]
          refine held_take 10 (some 90) (.int .i64 cc) rfl rfl (by kernel_rfl) (by kernel_rfl) (by kernel_rfl) (fun _ _ _ h => h) (Or.inl ⟨by rfl, fun w' hw' => by go_simp⟩) hS2 ?_
          simp only [Act.put, List.setIfInBounds_toArray, List.set_cons_zero, List.set_cons_succ]
          refine held_one 11 rfl (by kernel_rfl) (by rfl) (fun K hK => ?_)
          go_simp
          obtain ⟨hA5, hlt6, hka9⟩ := made_box (w42) #[.int .i64 0, .int .u64 0] 26 2 rfl
          have hge7 : w2.heap.size ≤ (w42).heap.size := hS2.size
          have hS3' : But [bt] w2 (w42.alloc (.cells #[.int .i64 0, .int .u64 0] 26)) := hS2.alloc _
          have hTR := hTR.wide hka9 [(w42).heap.size] (fun x hx => by simp at hx ⊢; omega)
          generalize w42.alloc (.cells #[.int .i64 0, .int .u64 0] 26) = wa8 at *
          generalize hBx : (w42).heap.size = Bx4 at *
          have HBxBx4 : Hid ((w42).heap.size = Bx4) := hBx
          clear hBx
          refine hK.out _ _ hS3' (fun hS3 => ?_)
          clear hK K
          try simp only [Act.put, List.setIfInBounds_toArray, List.set_cons_zero, List.set_cons_succ]
          refine held_one 12 rfl (by kernel_rfl) (by rfl) (fun K hK => ?_)
          refine wp_store_mid _ _ _ rfl Bx4 0 ([.int .i64 kk, .int .u64 gg]).toArray rfl rfl hA5 sizeCap (capAll2 _ _) ?_
          have hS10' : But [bt] w2 (wa8.setCells Bx4 0 ([.int .i64 kk, .int .u64 gg])) := hS3.setCells (.inr hge7) _ _
          have hRhS10 : (wa8.setCells Bx4 0 ([.int .i64 kk, .int .u64 gg])).rangeAt Bx4 0 ([.int .i64 kk, .int .u64 gg]) := World.rangeAt_setCells_same _ _ _ _ hA5
          have hkhS10 : But [Bx4] wa8 (wa8.setCells Bx4 0 ([.int .i64 kk, .int .u64 gg])) := (But.refl _ _).setCells (by simp) _ _
          generalize wa8.setCells Bx4 0 ([.int .i64 kk, .int .u64 gg]) = wz11 at *
          refine hK.out _ _ hS10' (fun hS10 => ?_)
          clear hK K
          try simp only [Act.put]
          refine held_take 13 (some 15) (.int .i64 cc) rfl rfl (by kernel_rfl) (by kernel_rfl) (by kernel_rfl) (fun _ _ _ h => h) (Or.inl ⟨by rfl, fun w' hw' => by go_simp⟩) hS10 ?_
          simp only [Act.put, List.setIfInBounds_toArray]
          refine wpAnyH_done (by kernel_rfl) ?_ _
          refine NoPanic.normal ?_
          have hTF := (hTR.keep hkhS10 (by first | (simp; done) | (have := HBT.out; simp; omega)) (by simp)).less (by simp)
          go_wp2_with fail
          go_meet
          exact ⟨_, rfl, rfl, ⟨range_cells hRhS10 0 _ rfl, range_cells hRhS10 1 _ rfl, hge7, hTF, hS10⟩⟩
        · skip
          go_simp
          obtain ⟨hA14, hlt15, hka18⟩ := made_box (w41) #[.int .i64 0, .int .u64 0] 26 2 rfl
          have hge16 : w2.heap.size ≤ (w41).heap.size := hS1.size
          have hS12' : But [bt] w2 (w41.alloc (.cells #[.int .i64 0, .int .u64 0] 26)) := hS1.alloc _
          have hTR := hTR.wide hka18 [(w41).heap.size] (fun x hx => by simp at hx ⊢; omega)
          have hoK := (Off.old hsK (l := [(w41).heap.size]) (fun x hx => by simp at hx; omega)).app hoK
          have hsK := hsK.keep0 hka18
          generalize w41.alloc (.cells #[.int .i64 0, .int .u64 0] 26) = wa17 at *
          generalize hBx : (w41).heap.size = Bx13 at *
          have HBxBx13 : Hid ((w41).heap.size = Bx13) := hBx
          clear hBx
          refine hK.out _ _ hS12' (fun hS12 => ?_)
          clear hK K
          try simp only [Act.put, List.setIfInBounds_toArray, List.set_cons_zero, List.set_cons_succ]
          refine held_one 7 rfl (by kernel_rfl) (by rfl) (fun K hK => ?_)
          go_simp
          refine (Derive_c' bt m ([Bx13] ++ (bt :: bx :: bl :: Y)) T at_ g A1 n1 c1 _ (one F To) _ hTR H2.out.wf hsK hoK (by omega)).mono ?_
          rintro e w42 ⟨rfl, hTR, k42⟩
          rw [HDV.out]
          go_wp2_with fail
          have hS19' : But [bt] w2 w42 := hS12.trans k42
          have hA20 := there_keep hA14 k42 hlt15 (by first | (simp; done) | (have := HBT.out; simp; omega))
          have hlt21 := Nat.lt_of_lt_of_le hlt15 k42.size
          skip
          refine hK.out _ _ hS19' (fun hS19 => ?_)
          clear hK K
          try simp only [Act.put, List.setIfInBounds_toArray, List.set_cons_zero, List.set_cons_succ]
          refine held_take 8 (some 80) (.tuple #[.agg #[.int .i64 kk, .int .u64 gg], .int .i64 cc]) rfl rfl (by kernel_rfl) (by kernel_rfl) (by kernel_rfl) (fun _ _ _ h => h) (Or.inl ⟨by rfl, fun w' hw' => by go_simp⟩) hS19 ?_
          simp only [Act.put, List.setIfInBounds_toArray, List.set_cons_zero, List.set_cons_succ]
          refine held_take 9 (some 89) (.agg #[.int .i64 kk, .int .u64 gg]) rfl rfl (by kernel_rfl) (by kernel_rfl) (by kernel_rfl) (fun _ _ _ h => h) (Or.inl ⟨by rfl, fun w' hw' => by go_simp⟩) hS19 ?_
          simp only [Act.put, List.setIfInBounds_toArray, List.set_cons_zero, List.set_cons_succ]
          refine held_take 10 (some 90) (.int .i64 cc) rfl rfl (by kernel_rfl) (by kernel_rfl) (by kernel_rfl) (fun _ _ _ h => h) (Or.inl ⟨by rfl, fun w' hw' => by go_simp⟩) hS19 ?_
          simp only [Act.put, List.setIfInBounds_toArray, List.set_cons_zero, List.set_cons_succ]
          refine held_one 12 rfl (by kernel_rfl) (by rfl) (fun K hK => ?_)
          refine wp_store_mid _ _ _ rfl Bx13 0 ([.int .i64 kk, .int .u64 gg]).toArray rfl rfl hA20 sizeCap (capAll2 _ _) ?_
          have hS22' : But [bt] w2 (w42.setCells Bx13 0 ([.int .i64 kk, .int .u64 gg])) := hS19.setCells (.inr hge16) _ _
          have hRhS22 : (w42.setCells Bx13 0 ([.int .i64 kk, .int .u64 gg])).rangeAt Bx13 0 ([.int .i64 kk, .int .u64 gg]) := World.rangeAt_setCells_same _ _ _ _ hA20
          have hkhS22 : But [Bx13] w42 (w42.setCells Bx13 0 ([.int .i64 kk, .int .u64 gg])) := (But.refl _ _).setCells (by simp) _ _
          generalize w42.setCells Bx13 0 ([.int .i64 kk, .int .u64 gg]) = wz23 at *
          refine hK.out _ _ hS22' (fun hS22 => ?_)
          clear hK K
          try simp only [Act.put]
          refine held_take 13 (some 15) (.int .i64 cc) rfl rfl (by kernel_rfl) (by kernel_rfl) (by kernel_rfl) (fun _ _ _ h => h) (Or.inl ⟨by rfl, fun w' hw' => by go_simp⟩) hS22 ?_
          simp only [Act.put, List.setIfInBounds_toArray]
          refine wpAnyH_done (by kernel_rfl) ?_ _
          refine NoPanic.normal ?_
          have hTF := (hTR.keep hkhS22 (by first | (simp; done) | (have := HBT.out; simp; omega)) (by simp)).less (by simp)
          go_wp2_with fail
          go_meet
          exact ⟨_, rfl, rfl, ⟨range_cells hRhS22 0 _ rfl, range_cells hRhS22 1 _ rfl, hge16, hTF, hS22⟩⟩
      · skip
        go_simp
        obtain ⟨hA26, hlt27, hka30⟩ := made_box (wd) #[.int .i64 0, .int .u64 0] 26 2 rfl
        have hge28 : w2.heap.size ≤ (wd).heap.size := hS0.size
        have hS24' : But [bt] w2 (wd.alloc (.cells #[.int .i64 0, .int .u64 0] 26)) := hS0.alloc _
        have hTR := hTR.wide hka30 [(wd).heap.size] (fun x hx => by simp at hx ⊢; omega)
        generalize wd.alloc (.cells #[.int .i64 0, .int .u64 0] 26) = wa29 at *
        generalize hBx : (wd).heap.size = Bx25 at *
        have HBxBx25 : Hid ((wd).heap.size = Bx25) := hBx
        clear hBx
        refine hK.out _ _ hS24' (fun hS24 => ?_)
        clear hK K
        try simp only [Act.put, List.setIfInBounds_toArray, List.set_cons_zero, List.set_cons_succ]
        refine held_one 6 rfl (by kernel_rfl) (by rfl) (fun K hK => ?_)
        go_simp
        refine (of_c' F To _).mono ?_
        rintro e w41 ⟨A1, n1, c1, rfl, hs1, k41⟩
        go_wp2_with fail
        have hS31' : But [bt] w2 w41 := hS24.trans (k41.any _)
        have hA32 := there_keep hA26 k41 hlt27 (by first | (simp; done) | (have := HBT.out; simp; omega))
        have hlt33 := Nat.lt_of_lt_of_le hlt27 k41.size
        have hsK := hs1
        have hoK := Off.of_lo hs1 hTR.low
        have hTR := hTR.keep0 k41
        refine hK.out _ _ hS31' (fun hS31 => ?_)
        clear hK K
        try simp only [Act.put, List.setIfInBounds_toArray, List.set_cons_zero, List.set_cons_succ]
        refine held_one 7 rfl (by kernel_rfl) (by rfl) (fun K hK => ?_)
        go_simp
        refine (Derive_c' bt m ([Bx25] ++ (bt :: bx :: bl :: Y)) T at_ g A1 n1 c1 _ (one F To) _ hTR H2.out.wf hsK hoK (by omega)).mono ?_
        rintro e w42 ⟨rfl, hTR, k42⟩
        rw [HDV.out]
        go_wp2_with fail
        have hS34' : But [bt] w2 w42 := hS31.trans k42
        have hA35 := there_keep hA32 k42 hlt33 (by first | (simp; done) | (have := HBT.out; simp; omega))
        have hlt36 := Nat.lt_of_lt_of_le hlt33 k42.size
        skip
        refine hK.out _ _ hS34' (fun hS34 => ?_)
        clear hK K
        try simp only [Act.put, List.setIfInBounds_toArray, List.set_cons_zero, List.set_cons_succ]
        refine held_take 8 (some 80) (.tuple #[.agg #[.int .i64 kk, .int .u64 gg], .int .i64 cc]) rfl rfl (by kernel_rfl) (by kernel_rfl) (by kernel_rfl) (fun _ _ _ h => h) (Or.inl ⟨by rfl, fun w' hw' => by go_simp⟩) hS34 ?_
        simp only [Act.put, List.setIfInBounds_toArray, List.set_cons_zero, List.set_cons_succ]
        refine held_take 9 (some 89) (.agg #[.int .i64 kk, .int .u64 gg]) rfl rfl (by kernel_rfl) (by kernel_rfl) (by kernel_rfl) (fun _ _ _ h => h) (Or.inl ⟨by rfl, fun w' hw' => by go_simp⟩) hS34 ?_
        simp only [Act.put, List.setIfInBounds_toArray, List.set_cons_zero, List.set_cons_succ]
        refine held_take 10 (some 90) (.int .i64 cc) rfl rfl (by kernel_rfl) (by kernel_rfl) (by kernel_rfl) (fun _ _ _ h => h) (Or.inl ⟨by rfl, fun w' hw' => by go_simp⟩) hS34 ?_
        simp only [Act.put, List.setIfInBounds_toArray, List.set_cons_zero, List.set_cons_succ]
        refine held_one 12 rfl (by kernel_rfl) (by rfl) (fun K hK => ?_)
        refine wp_store_mid _ _ _ rfl Bx25 0 ([.int .i64 kk, .int .u64 gg]).toArray rfl rfl hA35 sizeCap (capAll2 _ _) ?_
        have hS37' : But [bt] w2 (w42.setCells Bx25 0 ([.int .i64 kk, .int .u64 gg])) := hS34.setCells (.inr hge28) _ _
        have hRhS37 : (w42.setCells Bx25 0 ([.int .i64 kk, .int .u64 gg])).rangeAt Bx25 0 ([.int .i64 kk, .int .u64 gg]) := World.rangeAt_setCells_same _ _ _ _ hA35
        have hkhS37 : But [Bx25] w42 (w42.setCells Bx25 0 ([.int .i64 kk, .int .u64 gg])) := (But.refl _ _).setCells (by simp) _ _
        generalize w42.setCells Bx25 0 ([.int .i64 kk, .int .u64 gg]) = wz38 at *
        refine hK.out _ _ hS37' (fun hS37 => ?_)
        clear hK K
        try simp only [Act.put]
        refine held_take 13 (some 15) (.int .i64 cc) rfl rfl (by kernel_rfl) (by kernel_rfl) (by kernel_rfl) (fun _ _ _ h => h) (Or.inl ⟨by rfl, fun w' hw' => by go_simp⟩) hS37 ?_
        simp only [Act.put, List.setIfInBounds_toArray]
        refine wpAnyH_done (by kernel_rfl) ?_ _
        refine NoPanic.normal ?_
        have hTF := (hTR.keep hkhS37 (by first | (simp; done) | (have := HBT.out; simp; omega)) (by simp)).less (by simp)
        go_wp2_with fail
        go_meet
        exact ⟨_, rfl, rfl, ⟨range_cells hRhS37 0 _ rfl, range_cells hRhS37 1 _ rfl, hge28, hTF, hS37⟩⟩
    case rest =>
    obtain ⟨B2, rfl, rfl, HDQ⟩ := hcut
    have HQB : Hid (q ∉ [bt] ∧ Bc ∉ [bt] ∧ bx ∉ [bt] ∧ bl ∉ [bt]) := by
      have := HNE.out; have := HQC.out; have := HN12.out
      show _ ∧ _
      simp
      omega
    have HQ1 := hid (cell_keep HQ1.out HDQ.but HQB.out.1)
    have HQ2 := hid (cell_keep HQ2.out HDQ.but HQB.out.1)
    have HQ3 := hid (cell_keep HQ3.out HDQ.but HQB.out.1)
    have hRF : RfAt wc.drew bx bl T m := (H2.out.rf.keep HDQ.but HQB.out.2.2.1 HQB.out.2.2.2).keep0 (But.refl [] wc).drew
    have HDD := hid HDQ
    have HQX : Hid (q ∉ [bx, bl] ∧ B2 ∉ [bx, bl] ∧ bt ∉ [bx, bl]) := by
      have := HNE.out; have := HDQ.ge; have := H2.out.lt; have := HN12.out
      show _ ∧ _ ∧ _
      simp
      omega
    clear HDQ hTR
    go_upto_region 19 with fail
    refine wp_region_noPanic ?_
    refine wp_region_held_drew (S := fun w' => But [bx, bl] wc w') (by kernel_rfl) (But.refl _ _).drew (fun hS0 => ?_)
    generalize wc.drew = wd at *
    refine held_take 0 (some 92) (.pointer (some ⟨bx, 0, none⟩)) rfl rfl (by kernel_rfl) (by kernel_rfl) (by kernel_rfl) (fun _ _ _ h => h) (Or.inl ⟨by rfl, fun w' hw' => by go_simp⟩) hS0 ?_
    simp only [Act.put, List.setIfInBounds_toArray, List.set_cons_zero, List.set_cons_succ]
    refine held_take 1 (some 93) (.pointer (some ⟨q, 1, none⟩)) rfl rfl (by kernel_rfl) (by kernel_rfl) (by kernel_rfl) (fun _ _ _ h => h) (Or.inl ⟨by rfl, fun w' hw' => by go_simp⟩) hS0 ?_
    simp only [Act.put, List.setIfInBounds_toArray, List.set_cons_zero, List.set_cons_succ]
    refine held_take 2 (some 94) (.int .i64 at_) rfl rfl (by kernel_rfl) (by kernel_rfl) (by kernel_rfl) (fun _ _ _ h => h) (Or.inl ⟨by rfl, fun w' hw' => by have hq0 := cell_keep HQ1.out hw' HQX.out.1; go_simp⟩) hS0 ?_
    simp only [Act.put, List.setIfInBounds_toArray, List.set_cons_zero, List.set_cons_succ]
    refine held_take 3 (some 95) (.int .u64 g) rfl rfl (by kernel_rfl) (by kernel_rfl) (by kernel_rfl) (fun _ _ _ h => h) (Or.inl ⟨by rfl, fun w' hw' => by go_simp⟩) hS0 ?_
    simp only [Act.put, List.setIfInBounds_toArray, List.set_cons_zero, List.set_cons_succ]
    refine held_take 4 (some 96) (.pointer (some ⟨q, 2, none⟩)) rfl rfl (by kernel_rfl) (by kernel_rfl) (by kernel_rfl) (fun _ _ _ h => h) (Or.inl ⟨by rfl, fun w' hw' => by go_simp⟩) hS0 ?_
    simp only [Act.put, List.setIfInBounds_toArray, List.set_cons_zero, List.set_cons_succ]
    refine held_take 5 (some 97) (.int .i64 F) rfl rfl (by kernel_rfl) (by kernel_rfl) (by kernel_rfl) (fun _ _ _ h => h) (Or.inl ⟨by rfl, fun w' hw' => by have hq0 := cell_keep HQ2.out hw' HQX.out.1; go_simp⟩) hS0 ?_
    simp only [Act.put, List.setIfInBounds_toArray, List.set_cons_zero, List.set_cons_succ]
    refine held_take 6 (some 98) (.pointer (some ⟨q, 3, none⟩)) rfl rfl (by kernel_rfl) (by kernel_rfl) (by kernel_rfl) (fun _ _ _ h => h) (Or.inl ⟨by rfl, fun w' hw' => by go_simp⟩) hS0 ?_
    simp only [Act.put, List.setIfInBounds_toArray, List.set_cons_zero, List.set_cons_succ]
    refine held_take 7 (some 99) (.int .i64 To) rfl rfl (by kernel_rfl) (by kernel_rfl) (by kernel_rfl) (fun _ _ _ h => h) (Or.inl ⟨by rfl, fun w' hw' => by have hq0 := cell_keep HQ3.out hw' HQX.out.1; go_simp⟩) hS0 ?_
    simp only [Act.put, List.setIfInBounds_toArray, List.set_cons_zero, List.set_cons_succ]
    refine held_one 8 rfl (by kernel_rfl) (by rfl) (fun K hK => ?_)
    go_simp
    refine (rof_c F To _).mono ?_
    rintro e w51 ⟨rfl, k51⟩
    go_wp2_with fail
    have hS1' : But [bx, bl] wc w51 := hS0.trans (k51.any _)
    have hRF := hRF.keep0 k51
    refine hK.out _ _ hS1' (fun hS1 => ?_)
    clear hK K
    try simp only [Act.put, List.setIfInBounds_toArray, List.set_cons_zero, List.set_cons_succ]
    refine held_one 9 rfl (by kernel_rfl) (by rfl) (fun K hK => ?_)
    go_simp
    refine (rDerive_c bx bl m T at_ g (one F To) _ hRF (by omega)).mono ?_
    rintro e w52 ⟨rfl, hRF, k52⟩
    rw [HRV.out]
    go_wp2_with fail
    have hS2' : But [bx, bl] wc w52 := hS1.trans k52
    skip
    refine hK.out _ _ hS2' (fun hS2 => ?_)
    clear hK K
    try simp only [Act.put, List.setIfInBounds_toArray, List.set_cons_zero, List.set_cons_succ]
    refine held_take 10 (some 91) (.tuple #[.int .i64 kk, .int .u64 gg, .int .i64 cc]) rfl rfl (by kernel_rfl) (by kernel_rfl) (by kernel_rfl) (fun _ _ _ h => h) (Or.inl ⟨by rfl, fun w' hw' => by go_simp⟩) hS2 ?_
    simp only [Act.put, List.setIfInBounds_toArray, List.set_cons_zero, List.set_cons_succ]
    refine held_take 11 (some 102) (.int .i64 kk) rfl rfl (by kernel_rfl) (by kernel_rfl) (by kernel_rfl) (fun _ _ _ h => h) (Or.inl ⟨by rfl, fun w' hw' => by go_simp⟩) hS2 ?_
    simp only [Act.put, List.setIfInBounds_toArray, List.set_cons_zero, List.set_cons_succ]
    refine held_take 12 (some 103) (.int .u64 gg) rfl rfl (by kernel_rfl) (by kernel_rfl) (by kernel_rfl) (fun _ _ _ h => h) (Or.inl ⟨by rfl, fun w' hw' => by go_simp⟩) hS2 ?_
    simp only [Act.put, List.setIfInBounds_toArray, List.set_cons_zero, List.set_cons_succ]
    refine held_take 13 (some 104) (.int .i64 cc) rfl rfl (by kernel_rfl) (by kernel_rfl) (by kernel_rfl) (fun _ _ _ h => h) (Or.inl ⟨by rfl, fun w' hw' => by go_simp⟩) hS2 ?_
    simp only [Act.put, List.setIfInBounds_toArray, List.set_cons_zero, List.set_cons_succ]
    refine held_take 14 (some 16) (.int .i64 kk) rfl rfl (by kernel_rfl) (by kernel_rfl) (by kernel_rfl) (fun _ _ _ h => h) (Or.inl ⟨by rfl, fun w' hw' => by go_simp⟩) hS2 ?_
    simp only [Act.put, List.setIfInBounds_toArray, List.set_cons_zero, List.set_cons_succ]
    refine held_take 15 (some 17) (.int .u64 gg) rfl rfl (by kernel_rfl) (by kernel_rfl) (by kernel_rfl) (fun _ _ _ h => h) (Or.inl ⟨by rfl, fun w' hw' => by go_simp⟩) hS2 ?_
    simp only [Act.put, List.setIfInBounds_toArray, List.set_cons_zero, List.set_cons_succ]
    refine held_take 16 (some 18) (.int .i64 cc) rfl rfl (by kernel_rfl) (by kernel_rfl) (by kernel_rfl) (fun _ _ _ h => h) (Or.inl ⟨by rfl, fun w' hw' => by go_simp⟩) hS2 ?_
    simp only [Act.put, List.setIfInBounds_toArray, List.set_cons_zero, List.set_cons_succ]
    refine wpAnyH_done (by kernel_rfl) ?_ _
    refine NoPanic.normal ?_
    have hS9 := hS2
    clear hS2
    generalize w52 = w9 at *
    have HB6 := hid hS9
    have HRF := hid hRF
    have hk0 := cell_keep HDD.out.k0 hS9 HQX.out.2.1
    have hk1 := cell_keep HDD.out.k1 hS9 HQX.out.2.1
    clear hS9 hRF
    go_wp2
    go_ret
    exact ⟨by simp, _, _, ⟨HDD.out.tr.keep HB6.out HQX.out.2.2 (by simp), HRF.out, dv_wf H2.out.wf HF.out, HN12.out.1, HN12.out.2.1⟩, dv_stq H2.out.wf,
      but_more (but_more (HKW.out.any _) HDD.out.but (by simp)) HB6.out (by simp)⟩
  · have hk0 : ((K == 0) = false) := by simp; omega
    have hk1 : ((K == 1) = false) := by simp; omega
    have hk2 : ((K == 2) = false) := by simp; omega
    have hk3 : ((K == 3) = false) := by simp; omega
    have hk4 : ((K == 4) = false) := by simp; omega
    clear hK
    have HBTL := hid H2.out.lt
    have HQT : Hid (q ∉ [bt] ∧ Bc ∉ [bt] ∧ bx ∉ [bt] ∧ bl ∉ [bt] ∧ bt ∉ [bl]) := by
      have := HNE.out; have := HQC.out; have := HN12.out
      show _ ∧ _
      simp
      omega
    by_cases hi : isB T at_ g = true
    · obtain ⟨a, rfl, ha, hg0, hga⟩ := isB_iff.1 hi
      have HGA : Hid (0 < (T a).gen) := by show 0 < _; omega
      have haI : (a : Int) < 64 := by omega
      have HI := hid hi
      rw [hi]
      clear hi hga
      obtain ⟨f, hf⟩ := H2.out.tr
      have HTF := hid hf
      clear hf
      by_cases h5 : K = 5
      · subst h5
        have HRV : Hid (RevV T a g = .tuple #[.int .i64 (rvC T a : Nat), .int .i64 0]) := if_pos HI.out
        have HRT : Hid (RevT T a g = rvT T a false) := if_pos HI.out
        have hc0 := HC0.out
        have hc1 := HC1.out
        have hc0 := cell_keep hc0 HKC.out (by simp)
        have hc1 := cell_keep hc1 HKC.out (by simp)
        go_wp2_with fail
        refine (Revoke_c bt m (bt :: bx :: bl :: Y) T f a g w2 HTF.out H2.out.wf).mono ?_
        rintro e w4 ⟨rfl, ht4, k4⟩
        rw [HRV.out]
        rw [HRT.out] at ht4
        have HT4 := hid ht4
        have HK4 := hid k4
        have HR4 := hid (H2.out.rf.keep k4 HQT.out.2.2.1 HQT.out.2.2.2.1)
        have hq1 := cell_keep HQ1.out k4 HQT.out.1
        clear ht4 k4 hc0 hc1
        go_wp2_with fail
        refine (rRevoke_c bx bl m T a ha false w4 HR4.out H2.out.wf HGA.out).mono ?_
        rintro e w5 ⟨rfl, hr5, k5⟩
        rw [(rvB_count H2.out.wf ha).1]
        have HR5 := hid hr5
        have HK5 := hid k5
        clear hr5 k5 hq1
        go_wp2
        go_ret
        exact ⟨by simp, _, _, ⟨HT4.out.keep HK5.out HQT.out.2.2.2.2 (by simp), HR5.out, rv_wf H2.out.wf (by simp), HN12.out.1, HN12.out.2.1⟩, rv_stq H2.out.wf (by simp),
          but_more (but_more (HKW.out.any _) HK4.out (by simp)) HK5.out (by simp)⟩
      · have hk5 : ((K == 5) = false) := by simpa using h5
        clear h5
        by_cases h6 : K = 6
        · subst h6
          have hc0 := HC0.out
          have hc1 := HC1.out
          by_cases ha0 : a = 0
          · subst ha0
            have HDV : Hid (DrV T ((0 : Nat) : Int) g = .tuple #[.int .i64 0, .int .i64 2]) := by show _ = _; unfold DrV; rw [if_pos HI.out]; rfl
            have HDT : Hid (DrT T ((0 : Nat) : Int) g = T) := by show _ = _; unfold DrT; rw [if_pos HI.out]; rfl
            go_wp2_with fail
            refine (Drop_c bt m (bt :: bx :: bl :: Y) T f ((0 : Nat) : Int) g w2 HTF.out H2.out.wf).mono ?_
            rintro e w4 ⟨rfl, ht4, k4⟩
            rw [HDV.out]
            rw [HDT.out] at ht4
            have HT4 := hid ht4
            have HK4 := hid k4
            have HR4 := hid (H2.out.rf.keep k4 HQT.out.2.2.1 HQT.out.2.2.2.1)
            have hq1 := cell_keep HQ1.out k4 HQT.out.1
            clear ht4 k4 hc0 hc1
            go_wp2
            go_ret
            exact ⟨by simp, _, _, ⟨HT4.out, HR4.out, H2.out.wf, HN12.out.1, HN12.out.2.1⟩, Stq.refl T m, (HKW.out.any _).trans (HK4.out.wider (by simp))⟩
          · have ha0' : ¬ ((a : Int) = 0) := by omega
            have HDV : Hid (DrV T a g = .tuple #[.int .i64 (rvC T a + 1 : Nat), .int .i64 0]) := by show _ = _; unfold DrV; rw [if_pos HI.out, if_neg ha0']; rfl
            have HDT : Hid (DrT T a g = rvT T a true) := by show _ = _; unfold DrT; rw [if_pos HI.out, if_neg ha0']; rfl
            have hne : ((a : Int) == 0) = false := by simp; omega
            clear ha0'
            go_wp2_with fail
            refine (Drop_c bt m (bt :: bx :: bl :: Y) T f a g w2 HTF.out H2.out.wf).mono ?_
            rintro e w4 ⟨rfl, ht4, k4⟩
            rw [HDV.out]
            rw [HDT.out] at ht4
            have HT4 := hid ht4
            have HK4 := hid k4
            have HR4 := hid (H2.out.rf.keep k4 HQT.out.2.2.1 HQT.out.2.2.2.1)
            have hq1 := cell_keep HQ1.out k4 HQT.out.1
            clear ht4 k4 hc0 hc1
            go_wp2_with fail
            refine (rRevoke_c bx bl m T a ha true w4 HR4.out H2.out.wf HGA.out).mono ?_
            rintro e w5 ⟨rfl, hr5, k5⟩
            rw [(rvB_count H2.out.wf ha).2]
            have HR5 := hid hr5
            have HK5 := hid k5
            clear hr5 k5 hq1
            go_wp2
            go_ret
            exact ⟨by simp, _, _, ⟨HT4.out.keep HK5.out HQT.out.2.2.2.2 (by simp), HR5.out, rv_wf H2.out.wf (fun _ => ha0), HN12.out.1, HN12.out.2.1⟩, rv_stq H2.out.wf (fun _ => ha0),
              but_more (but_more (HKW.out.any _) HK4.out (by simp)) HK5.out (by simp)⟩
        · have hk6 : ((K == 6) = false) := by simpa using h6
          clear h6
          have HCV : Hid (CutV T a g (one F To) = .tuple #[.int .i64 (ctC T a (one F To) : Nat), .int .i64 0]) := if_pos HI.out
          have HCT : Hid (CutT T a g (one F To) = ctT T a (one F To)) := if_pos HI.out
          obtain ⟨n1, hn1⟩ : ∃ n1, ctC T a (one F To) = n1 := ⟨_, rfl⟩
          have HN1 := hid hn1
          rw [hn1] at HCV
          clear hn1
          have hTR : TrA w2.drew bt (bt :: bx :: bl :: Y) T m := ⟨f, HTF.out.keep0 (But.refl [] w2).drew⟩
          go_upto_region 10 with fail
          refine wp_region_noPanic ?_
          refine wp_region_held_drew (S := fun w' => But [bt] w2 w') (by kernel_rfl) (But.refl _ _).drew (fun hS0 => ?_)
          generalize w2.drew = wd at *
          refine held_take 0 (some 54) (.pointer (some ⟨bt, 0, none⟩)) rfl rfl (by kernel_rfl) (by kernel_rfl) (by kernel_rfl) (fun _ _ _ h => h) (Or.inl ⟨by rfl, fun w' hw' => by go_simp⟩) hS0 ?_
          simp only [Act.put, List.setIfInBounds_toArray, List.set_cons_zero, List.set_cons_succ]
          refine held_take 1 (some 55) (.agg #[.int .i64 a, .int .u64 g]) rfl rfl (by kernel_rfl) (by kernel_rfl) (by kernel_rfl) (fun _ _ _ h => h) (Or.inl ⟨by rfl, fun w' hw' => by have hq0 := cell_keep HC0.out hw' (by have := HQC.out; have := HNE.out; simp; omega); have hq1 := cell_keep HC1.out hw' (by have := HQC.out; have := HNE.out; simp; omega); go_simp⟩) hS0 ?_
          simp only [Act.put, List.setIfInBounds_toArray, List.set_cons_zero, List.set_cons_succ]
          refine held_take 2 (some 56) (.pointer (some ⟨q, 2, none⟩)) rfl rfl (by kernel_rfl) (by kernel_rfl) (by kernel_rfl) (fun _ _ _ h => h) (Or.inl ⟨by rfl, fun w' hw' => by go_simp⟩) hS0 ?_
          simp only [Act.put, List.setIfInBounds_toArray, List.set_cons_zero, List.set_cons_succ]
          refine held_take 3 (some 57) (.int .i64 F) rfl rfl (by kernel_rfl) (by kernel_rfl) (by kernel_rfl) (fun _ _ _ h => h) (Or.inl ⟨by rfl, fun w' hw' => by have hq0 := cell_keep HQ2.out hw' (by have := HQC.out; have := HNE.out; simp; omega); go_simp⟩) hS0 ?_
          simp only [Act.put, List.setIfInBounds_toArray, List.set_cons_zero, List.set_cons_succ]
          refine held_take 4 (some 58) (.pointer (some ⟨q, 3, none⟩)) rfl rfl (by kernel_rfl) (by kernel_rfl) (by kernel_rfl) (fun _ _ _ h => h) (Or.inl ⟨by rfl, fun w' hw' => by go_simp⟩) hS0 ?_
          simp only [Act.put, List.setIfInBounds_toArray, List.set_cons_zero, List.set_cons_succ]
          refine held_take 5 (some 59) (.int .i64 To) rfl rfl (by kernel_rfl) (by kernel_rfl) (by kernel_rfl) (fun _ _ _ h => h) (Or.inl ⟨by rfl, fun w' hw' => by have hq0 := cell_keep HQ3.out hw' (by have := HQC.out; have := HNE.out; simp; omega); go_simp⟩) hS0 ?_
          simp only [Act.put, List.setIfInBounds_toArray, List.set_cons_zero, List.set_cons_succ]
          refine held_one 6 rfl (by kernel_rfl) (by rfl) (fun K hK => ?_)
          go_simp
          refine (of_c' F To _).mono ?_
          rintro e w61 ⟨A1, n1x, c1, rfl, hs1, k61⟩
          go_wp2_with fail
          have hS1' : But [bt] w2 w61 := hS0.trans (k61.any _)
          have hoK := Off.of_lo hs1 hTR.low
          have hTR := hTR.keep0 k61
          refine hK.out _ _ hS1' (fun hS1 => ?_)
          clear hK K
          try simp only [Act.put, List.setIfInBounds_toArray, List.set_cons_zero, List.set_cons_succ]
          refine held_one 7 rfl (by kernel_rfl) (by rfl) (fun K hK => ?_)
          go_simp
          refine (Cut_c' bt m (bt :: bx :: bl :: Y) T a g A1 n1x c1 _ (one F To) _ hTR H2.out.wf hs1 hoK).mono ?_
          rintro e w62 ⟨rfl, hTR, k62⟩
          rw [HCV.out]
          go_wp2_with fail
          have hS2' : But [bt] w2 w62 := hS1.trans k62
          skip
          refine hK.out _ _ hS2' (fun hS2 => ?_)
          clear hK K
          try simp only [Act.put, List.setIfInBounds_toArray, List.set_cons_zero, List.set_cons_succ]
          refine held_take 8 (some 53) (.tuple #[.int .i64 n1, .int .i64 0]) rfl rfl (by kernel_rfl) (by kernel_rfl) (by kernel_rfl) (fun _ _ _ h => h) (Or.inl ⟨by rfl, fun w' hw' => by go_simp⟩) hS2 ?_
          simp only [Act.put, List.setIfInBounds_toArray, List.set_cons_zero, List.set_cons_succ]
          refine held_take 9 (some 62) (.int .i64 n1) rfl rfl (by kernel_rfl) (by kernel_rfl) (by kernel_rfl) (fun _ _ _ h => h) (Or.inl ⟨by rfl, fun w' hw' => by go_simp⟩) hS2 ?_
          simp only [Act.put, List.setIfInBounds_toArray, List.set_cons_zero, List.set_cons_succ]
          refine held_take 10 (some 63) (.int .i64 0) rfl rfl (by kernel_rfl) (by kernel_rfl) (by kernel_rfl) (fun _ _ _ h => h) (Or.inl ⟨by rfl, fun w' hw' => by go_simp⟩) hS2 ?_
          simp only [Act.put, List.setIfInBounds_toArray, List.set_cons_zero, List.set_cons_succ]
          refine held_take 11 (some 10) (.int .i64 n1) rfl rfl (by kernel_rfl) (by kernel_rfl) (by kernel_rfl) (fun _ _ _ h => h) (Or.inl ⟨by rfl, fun w' hw' => by go_simp⟩) hS2 ?_
          simp only [Act.put, List.setIfInBounds_toArray, List.set_cons_zero, List.set_cons_succ]
          refine held_take 12 (some 12) (.int .i64 0) rfl rfl (by kernel_rfl) (by kernel_rfl) (by kernel_rfl) (fun _ _ _ h => h) (Or.inl ⟨by rfl, fun w' hw' => by go_simp⟩) hS2 ?_
          simp only [Act.put, List.setIfInBounds_toArray, List.set_cons_zero, List.set_cons_succ]
          refine wpAnyH_done (by kernel_rfl) ?_ _
          refine NoPanic.normal ?_
          have hS9 := hS2
          clear hS2
          generalize w62 = w9 at *
          have HT4 := hid hTR
          have HK4 := hid hS9
          have HR4 := hid (H2.out.rf.keep hS9 HQT.out.2.2.1 HQT.out.2.2.2.1)
          rw [HCT.out] at HT4
          have HQ1 := hid (cell_keep HQ1.out hS9 HQT.out.1)
          have HQ2 := hid (cell_keep HQ2.out hS9 HQT.out.1)
          have HQ3 := hid (cell_keep HQ3.out hS9 HQT.out.1)
          have HQX : Hid (q ∉ [bl]) := by have := HNE.out; show _ ∉ _; simp; omega
          have hRF : RfAt w9.drew bx bl T m := HR4.out.keep0 (But.refl [] w9).drew
          clear hS9 hTR
          go_upto_region 12 with fail
          refine wp_region_noPanic ?_
          refine wp_region_held_drew (S := fun w' => But [bl] w9 w') (by kernel_rfl) (But.refl _ _).drew (fun hS0 => ?_)
          generalize w9.drew = wd at *
          refine held_take 0 (some 65) (.pointer (some ⟨bx, 0, none⟩)) rfl rfl (by kernel_rfl) (by kernel_rfl) (by kernel_rfl) (fun _ _ _ h => h) (Or.inl ⟨by rfl, fun w' hw' => by go_simp⟩) hS0 ?_
          simp only [Act.put, List.setIfInBounds_toArray, List.set_cons_zero, List.set_cons_succ]
          refine held_take 1 (some 66) (.pointer (some ⟨q, 1, none⟩)) rfl rfl (by kernel_rfl) (by kernel_rfl) (by kernel_rfl) (fun _ _ _ h => h) (Or.inl ⟨by rfl, fun w' hw' => by go_simp⟩) hS0 ?_
          simp only [Act.put, List.setIfInBounds_toArray, List.set_cons_zero, List.set_cons_succ]
          refine held_take 2 (some 67) (.int .i64 a) rfl rfl (by kernel_rfl) (by kernel_rfl) (by kernel_rfl) (fun _ _ _ h => h) (Or.inl ⟨by rfl, fun w' hw' => by have hq0 := cell_keep HQ1.out hw' HQX.out; go_simp⟩) hS0 ?_
          simp only [Act.put, List.setIfInBounds_toArray, List.set_cons_zero, List.set_cons_succ]
          refine held_take 3 (some 68) (.pointer (some ⟨q, 2, none⟩)) rfl rfl (by kernel_rfl) (by kernel_rfl) (by kernel_rfl) (fun _ _ _ h => h) (Or.inl ⟨by rfl, fun w' hw' => by go_simp⟩) hS0 ?_
          simp only [Act.put, List.setIfInBounds_toArray, List.set_cons_zero, List.set_cons_succ]
          refine held_take 4 (some 69) (.int .i64 F) rfl rfl (by kernel_rfl) (by kernel_rfl) (by kernel_rfl) (fun _ _ _ h => h) (Or.inl ⟨by rfl, fun w' hw' => by have hq0 := cell_keep HQ2.out hw' HQX.out; go_simp⟩) hS0 ?_
          simp only [Act.put, List.setIfInBounds_toArray, List.set_cons_zero, List.set_cons_succ]
          refine held_take 5 (some 70) (.pointer (some ⟨q, 3, none⟩)) rfl rfl (by kernel_rfl) (by kernel_rfl) (by kernel_rfl) (fun _ _ _ h => h) (Or.inl ⟨by rfl, fun w' hw' => by go_simp⟩) hS0 ?_
          simp only [Act.put, List.setIfInBounds_toArray, List.set_cons_zero, List.set_cons_succ]
          refine held_take 6 (some 71) (.int .i64 To) rfl rfl (by kernel_rfl) (by kernel_rfl) (by kernel_rfl) (fun _ _ _ h => h) (Or.inl ⟨by rfl, fun w' hw' => by have hq0 := cell_keep HQ3.out hw' HQX.out; go_simp⟩) hS0 ?_
          simp only [Act.put, List.setIfInBounds_toArray, List.set_cons_zero, List.set_cons_succ]
          refine held_one 7 rfl (by kernel_rfl) (by rfl) (fun K hK => ?_)
          go_simp
          refine (rof_c F To _).mono ?_
          rintro e w71 ⟨rfl, k71⟩
          go_wp2_with fail
          have hS1' : But [bl] w9 w71 := hS0.trans (k71.any _)
          have hRF := hRF.keep0 k71
          refine hK.out _ _ hS1' (fun hS1 => ?_)
          clear hK K
          try simp only [Act.put, List.setIfInBounds_toArray, List.set_cons_zero, List.set_cons_succ]
          refine held_one 8 rfl (by kernel_rfl) (by rfl) (fun K hK => ?_)
          go_simp
          refine (rCut_c bx bl m T a ha (one F To) _ hRF H2.out.wf HGA.out).mono ?_
          rintro e w72 ⟨rfl, hRF, k72⟩
          rw [HN1.out]
          go_wp2_with fail
          have hS2' : But [bl] w9 w72 := hS1.trans k72
          skip
          refine hK.out _ _ hS2' (fun hS2 => ?_)
          clear hK K
          try simp only [Act.put, List.setIfInBounds_toArray, List.set_cons_zero, List.set_cons_succ]
          refine held_take 9 (some 11) (.int .i64 n1) rfl rfl (by kernel_rfl) (by kernel_rfl) (by kernel_rfl) (fun _ _ _ h => h) (Or.inl ⟨by rfl, fun w' hw' => by go_simp⟩) hS2 ?_
          simp only [Act.put, List.setIfInBounds_toArray, List.set_cons_zero, List.set_cons_succ]
          refine wpAnyH_done (by kernel_rfl) ?_ _
          refine NoPanic.normal ?_
          have hS10 := hS2
          clear hS2
          generalize w72 = w10 at *
          have HK5 := hid hS10
          have HR5 := hid hRF
          clear hS10 hRF
          go_wp2
          go_ret
          exact ⟨by simp, _, _, ⟨HT4.out.keep HK5.out HQT.out.2.2.2.2 (by simp), HR5.out, ct_wf H2.out.wf, HN12.out.1, HN12.out.2.1⟩, ct_stq H2.out.wf,
            but_more (but_more (HKW.out.any _) HK4.out (by simp)) HK5.out (by simp)⟩
    · have hi : isB T at_ g = false := by simpa using hi
      have HI := hid hi
      rw [hi]
      clear hi
      obtain ⟨f, hf⟩ := H2.out.tr
      have HTF := hid hf
      clear hf
      by_cases h5 : K = 5
      · subst h5
        have HRV : Hid (RevV T at_ g = .tuple #[.int .i64 0, .int .i64 3]) := if_neg (by rw [HI.out]; simp)
        have HRT : Hid (RevT T at_ g = T) := if_neg (by rw [HI.out]; simp)
        have hc0 := HC0.out
        have hc1 := HC1.out
        go_wp2_with fail
        refine (Revoke_c bt m (bt :: bx :: bl :: Y) T f at_ g w2 HTF.out H2.out.wf).mono ?_
        rintro e w4 ⟨rfl, ht4, k4⟩
        rw [HRV.out]
        rw [HRT.out] at ht4
        have HT4 := hid ht4
        have HK4 := hid k4
        have HR4 := hid (H2.out.rf.keep k4 HQT.out.2.2.1 HQT.out.2.2.2.1)
        clear ht4 k4 hc0 hc1
        go_wp2
        go_ret
        exact ⟨by simp, _, _, ⟨HT4.out, HR4.out, H2.out.wf, HN12.out.1, HN12.out.2.1⟩, Stq.refl T m, (HKW.out.any _).trans (HK4.out.wider (by simp))⟩
      · have hk5 : ((K == 5) = false) := by simpa using h5
        clear h5
        by_cases h6 : K = 6
        · subst h6
          have HDV : Hid (DrV T at_ g = .tuple #[.int .i64 0, .int .i64 3]) := if_neg (by rw [HI.out]; simp)
          have HDT : Hid (DrT T at_ g = T) := if_neg (by rw [HI.out]; simp)
          have hc0 := HC0.out
          have hc1 := HC1.out
          go_wp2_with fail
          refine (Drop_c bt m (bt :: bx :: bl :: Y) T f at_ g w2 HTF.out H2.out.wf).mono ?_
          rintro e w4 ⟨rfl, ht4, k4⟩
          rw [HDV.out]
          rw [HDT.out] at ht4
          have HT4 := hid ht4
          have HK4 := hid k4
          have HR4 := hid (H2.out.rf.keep k4 HQT.out.2.2.1 HQT.out.2.2.2.1)
          clear ht4 k4 hc0 hc1
          go_wp2
          go_ret
          exact ⟨by simp, _, _, ⟨HT4.out, HR4.out, H2.out.wf, HN12.out.1, HN12.out.2.1⟩, Stq.refl T m, (HKW.out.any _).trans (HK4.out.wider (by simp))⟩
        · have hk6 : ((K == 6) = false) := by simpa using h6
          clear h6
          have HCV : Hid (CutV T at_ g (one F To) = .tuple #[.int .i64 0, .int .i64 3]) := if_neg (by rw [HI.out]; simp)
          have HCT : Hid (CutT T at_ g (one F To) = T) := if_neg (by rw [HI.out]; simp)
          have hTR : TrA w2.drew bt (bt :: bx :: bl :: Y) T m := ⟨f, HTF.out.keep0 (But.refl [] w2).drew⟩
          go_upto_region 10 with fail
          refine wp_region_noPanic ?_
          refine wp_region_held_drew (S := fun w' => But [bt] w2 w') (by kernel_rfl) (But.refl _ _).drew (fun hS0 => ?_)
          generalize w2.drew = wd at *
          refine held_take 0 (some 54) (.pointer (some ⟨bt, 0, none⟩)) rfl rfl (by kernel_rfl) (by kernel_rfl) (by kernel_rfl) (fun _ _ _ h => h) (Or.inl ⟨by rfl, fun w' hw' => by go_simp⟩) hS0 ?_
          simp only [Act.put, List.setIfInBounds_toArray, List.set_cons_zero, List.set_cons_succ]
          refine held_take 1 (some 55) (.agg #[.int .i64 at_, .int .u64 g]) rfl rfl (by kernel_rfl) (by kernel_rfl) (by kernel_rfl) (fun _ _ _ h => h) (Or.inl ⟨by rfl, fun w' hw' => by have hq0 := cell_keep HC0.out hw' (by have := HQC.out; have := HNE.out; simp; omega); have hq1 := cell_keep HC1.out hw' (by have := HQC.out; have := HNE.out; simp; omega); go_simp⟩) hS0 ?_
          simp only [Act.put, List.setIfInBounds_toArray, List.set_cons_zero, List.set_cons_succ]
          refine held_take 2 (some 56) (.pointer (some ⟨q, 2, none⟩)) rfl rfl (by kernel_rfl) (by kernel_rfl) (by kernel_rfl) (fun _ _ _ h => h) (Or.inl ⟨by rfl, fun w' hw' => by go_simp⟩) hS0 ?_
          simp only [Act.put, List.setIfInBounds_toArray, List.set_cons_zero, List.set_cons_succ]
          refine held_take 3 (some 57) (.int .i64 F) rfl rfl (by kernel_rfl) (by kernel_rfl) (by kernel_rfl) (fun _ _ _ h => h) (Or.inl ⟨by rfl, fun w' hw' => by have hq0 := cell_keep HQ2.out hw' (by have := HQC.out; have := HNE.out; simp; omega); go_simp⟩) hS0 ?_
          simp only [Act.put, List.setIfInBounds_toArray, List.set_cons_zero, List.set_cons_succ]
          refine held_take 4 (some 58) (.pointer (some ⟨q, 3, none⟩)) rfl rfl (by kernel_rfl) (by kernel_rfl) (by kernel_rfl) (fun _ _ _ h => h) (Or.inl ⟨by rfl, fun w' hw' => by go_simp⟩) hS0 ?_
          simp only [Act.put, List.setIfInBounds_toArray, List.set_cons_zero, List.set_cons_succ]
          refine held_take 5 (some 59) (.int .i64 To) rfl rfl (by kernel_rfl) (by kernel_rfl) (by kernel_rfl) (fun _ _ _ h => h) (Or.inl ⟨by rfl, fun w' hw' => by have hq0 := cell_keep HQ3.out hw' (by have := HQC.out; have := HNE.out; simp; omega); go_simp⟩) hS0 ?_
          simp only [Act.put, List.setIfInBounds_toArray, List.set_cons_zero, List.set_cons_succ]
          refine held_one 6 rfl (by kernel_rfl) (by rfl) (fun K hK => ?_)
          go_simp
          refine (of_c' F To _).mono ?_
          rintro e w61 ⟨A1, n1x, c1, rfl, hs1, k61⟩
          go_wp2_with fail
          have hS1' : But [bt] w2 w61 := hS0.trans (k61.any _)
          have hoK := Off.of_lo hs1 hTR.low
          have hTR := hTR.keep0 k61
          refine hK.out _ _ hS1' (fun hS1 => ?_)
          clear hK K
          try simp only [Act.put, List.setIfInBounds_toArray, List.set_cons_zero, List.set_cons_succ]
          refine held_one 7 rfl (by kernel_rfl) (by rfl) (fun K hK => ?_)
          go_simp
          refine (Cut_c' bt m (bt :: bx :: bl :: Y) T at_ g A1 n1x c1 _ (one F To) _ hTR H2.out.wf hs1 hoK).mono ?_
          rintro e w62 ⟨rfl, hTR, k62⟩
          rw [HCV.out]
          go_wp2_with fail
          have hS2' : But [bt] w2 w62 := hS1.trans k62
          skip
          refine hK.out _ _ hS2' (fun hS2 => ?_)
          clear hK K
          try simp only [Act.put, List.setIfInBounds_toArray, List.set_cons_zero, List.set_cons_succ]
          refine held_take 8 (some 53) (.tuple #[.int .i64 0, .int .i64 3]) rfl rfl (by kernel_rfl) (by kernel_rfl) (by kernel_rfl) (fun _ _ _ h => h) (Or.inl ⟨by rfl, fun w' hw' => by go_simp⟩) hS2 ?_
          simp only [Act.put, List.setIfInBounds_toArray, List.set_cons_zero, List.set_cons_succ]
          refine held_take 9 (some 62) (.int .i64 0) rfl rfl (by kernel_rfl) (by kernel_rfl) (by kernel_rfl) (fun _ _ _ h => h) (Or.inl ⟨by rfl, fun w' hw' => by go_simp⟩) hS2 ?_
          simp only [Act.put, List.setIfInBounds_toArray, List.set_cons_zero, List.set_cons_succ]
          refine held_take 10 (some 63) (.int .i64 3) rfl rfl (by kernel_rfl) (by kernel_rfl) (by kernel_rfl) (fun _ _ _ h => h) (Or.inl ⟨by rfl, fun w' hw' => by go_simp⟩) hS2 ?_
          simp only [Act.put, List.setIfInBounds_toArray, List.set_cons_zero, List.set_cons_succ]
          refine held_take 11 (some 10) (.int .i64 0) rfl rfl (by kernel_rfl) (by kernel_rfl) (by kernel_rfl) (fun _ _ _ h => h) (Or.inl ⟨by rfl, fun w' hw' => by go_simp⟩) hS2 ?_
          simp only [Act.put, List.setIfInBounds_toArray, List.set_cons_zero, List.set_cons_succ]
          refine held_take 12 (some 12) (.int .i64 3) rfl rfl (by kernel_rfl) (by kernel_rfl) (by kernel_rfl) (fun _ _ _ h => h) (Or.inl ⟨by rfl, fun w' hw' => by go_simp⟩) hS2 ?_
          simp only [Act.put, List.setIfInBounds_toArray, List.set_cons_zero, List.set_cons_succ]
          refine wpAnyH_done (by kernel_rfl) ?_ _
          refine NoPanic.normal ?_
          have hS9 := hS2
          clear hS2
          generalize w62 = w9 at *
          have HT4 := hid hTR
          have HK4 := hid hS9
          have HR4 := hid (H2.out.rf.keep hS9 HQT.out.2.2.1 HQT.out.2.2.2.1)
          rw [HCT.out] at HT4
          clear hS9 hTR
          go_wp2
          go_ret
          exact ⟨by simp, _, _, ⟨HT4.out, HR4.out, H2.out.wf, HN12.out.1, HN12.out.2.1⟩, Stq.refl T m, (HKW.out.any _).trans (HK4.out.wider (by simp))⟩
end Go.Proofs.Ytlppfcoclpdanaa.Cs
