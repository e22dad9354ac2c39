/-
  Layer 11 (names): contracts of meant (halves laid together) and Meant, over the translated program.
-/
import Derived.Test.YtfjkbfcfceckgaaNmThru
namespace Go.Proofs.Ytfjkbfcfceckgaa.Nm
open Go.ChangeShapes Go.WideShapes Go.ChangeAt Go.RowKit
open Wh Sn
set_option linter.unusedVariables false
set_option maxRecDepth 20000

/-- What so many names mean, from one on. -/
def mnS (T : Tf) (o L : Nat) : Nat → Bool := fun v => (List.range L).any fun i => T (o + i) == (v : Int)
theorem mnS_add (T : Tf) (o a b v : Nat) : mnS T o (a + b) v = (mnS T o a v || mnS T (o + a) b v) := by
  unfold mnS
  rw [List.range_add, List.any_append, List.any_map]
  congr 2
  funext i
  simp [Nat.add_assoc]
theorem mnS_one {T : Tf} (hT : Ok T) (o v : Nat) : mnS T o 1 v = one (T o) (T o + 1) v := by
  have h1 := hT.le o
  unfold mnS one
  show (T (o + 0) == (v : Int) || false) = _
  rw [Bool.or_false, Nat.add_zero]
  by_cases h : T o = v
  · rw [beq_iff_eq.2 h, decide_eq_true (by omega), decide_eq_true (by omega), decide_eq_true (by omega)]; rfl
  · rw [beq_eq_false_iff_ne.2 h]
    by_cases h2 : T o ≤ v
    · rw [decide_eq_false (p := (v : Int) < T o + 1) (by omega), Bool.and_false]
    · rw [decide_eq_false (p := T o ≤ v) h2, Bool.and_false, Bool.false_and]
theorem sliceHi (b o L c h : Nat) (hL : h ≤ L) (hc : L ≤ c) (w : World) : (Instr.sliceAt 67 (.slice (some ⟨b, o, none⟩) L c) none (some (.int .i64 h)) none).run Try.prog w = .ok (.slice (some ⟨b, o, none⟩) h c) w := by
  have hz : (sizeOf (Try.prog.elem 67)).run Try.prog w = .ok 1 w := by kernel_rfl
  rw [run_sliceAt_slice w 67 _ _ _ _ Try.underlying67, run_slice_h w 67 _ _ _ Try.underlying67 .i64 _ (by omega) (by omega), hz]
  simp [sliced, Addr.add_lit]
theorem sliceLo (b o L c h : Nat) (hL : h ≤ L) (hc : L ≤ c) (hlt : h < c) (w : World) : (Instr.sliceAt 67 (.slice (some ⟨b, o, none⟩) L c) (some (.int .i64 h)) none none).run Try.prog w = .ok (.slice (some ⟨b, o + h, none⟩) (L - h) (c - h)) w := by
  have hz : (sizeOf (Try.prog.elem 67)).run Try.prog w = .ok 1 w := by kernel_rfl
  have hne : ¬ c = h := by omega
  rw [run_sliceAt_slice w 67 _ _ _ _ Try.underlying67, run_slice_l w 67 _ _ _ Try.underlying67 .i64 _ (by omega) (by omega), hz]
  simp [sliced, Addr.add_lit, hne]
set_option maxHeartbeats 4000000 in
theorem meant_c (b : Nat) (T : Tf) (hT : Ok T) : ∀ (k L : Nat), L = 2 ^ k → ∀ (o c : Nat) (w : World), w.rangeAt b 0 (tv T) → o + L ≤ 512 → L ≤ c →
    Calls Try.prog 33 #[.slice (some ⟨b, o, none⟩) L c] w (Gives w (mnS T o L)) := by
  intro k
  induction k with
  | zero =>
    intro L hL o c w hr ho hc
    obtain rfl : L = 1 := hL
    obtain ⟨b2, hb2⟩ : ∃ b2, b2 = w.heap.size := ⟨_, rfl⟩
    obtain ⟨w0, hw0⟩ : ∃ w0, w0 = w.alloc (.cells #[.slice none 0 0] 51) := ⟨_, rfl⟩
    have HB0 : Hid (But [] w w0) := by show But _ _ _; rw [hw0]; exact (But.refl [] w).alloc _
    have hcz := cell_keep (range_tv hr (show o < 512 by omega)) HB0.out (by simp)
    have ht2 := there_new w #[.slice none 0 0] 51 1 rfl
    rw [← hw0, ← hb2] at ht2
    have HT := hid ht2
    have HLT := hid (lt_of_there ht2 (by omega))
    have HBW := hid hb2
    have HMN : Hid (∀ v, mnS T o 1 v = one (T o) (T o + 1) v) := mnS_one hT o
    have h1 := hT.ge o
    have h2 := hT.le o
    generalize T o = x at *
    have hx1 : x + 1 - 1 = x := by omega
    clear hr ht2
    go_enter Try.func33, Try.ntmps33
    go_upto_region 1 with fail
    rw [← hw0]
    rw [← hb2]
    clear hw0 hb2
    go_wp2_with fail
    refine (number_c (x + 1) (by omega) (by omega) _).mono ?_
    rintro e w4 ⟨rfl, rfl⟩
    rw [hx1]
    go_wp2_with fail
    refine (of_c x (x + 1) _).mono ?_
    rintro e w3 ⟨A3, n3, c3, rfl, s3, k3⟩
    have HS3 := hid s3
    have HK3 := hid k3
    have HTB : Hid (w3.there b2 0 1) := there_keep HT.out k3 HLT.out (by simp)
    obtain ⟨v3, hb6⟩ := Option.isSome_iff_exists.1 (HTB.out 0 (by omega)).1
    have hz6 := (HTB.out 0 (by omega)).2
    rw [Nat.zero_add] at hb6 hz6
    clear s3 k3 hcz
    go_wp2
    refine bodyPost_ret (results_range1 rfl _ _ b2 0 [.slice A3 n3 c3] _ rfl (range1 (World.cell?_setCell_same _ _ _ hb6)) Try.underlying51 rfl sizeSet) rfl ?_
    obtain ⟨A9, n9, c9, e9, s9, k9⟩ := gives_out (c := c3) HS3.out HB0.out HK3.out (b4 := b2) (by have := HBW.out; omega) HLT.out
    exact ⟨A9, n9, c9, e9, s9.congr (fun v => (HMN.out v).symm), k9⟩
  | succ k ih =>
    intro L hL o c w hr ho hc
    obtain ⟨h, hh⟩ : ∃ h, h = 2 ^ k := ⟨_, rfl⟩
    have hpos : 0 < h := by rw [hh]; exact Nat.two_pow_pos k
    obtain rfl : L = h + h := by rw [hL, hh, Nat.pow_succ]; omega
    have IH := ih h hh
    have HMN : Hid (∀ v, mnS T o (h + h) v = (mnS T o h v || mnS T (o + h) h v)) := mnS_add T o h h
    obtain ⟨L, hLL⟩ : ∃ L, L = h + h := ⟨_, rfl⟩
    obtain ⟨b2, hb2⟩ : ∃ b2, b2 = w.heap.size := ⟨_, rfl⟩
    obtain ⟨w0, hw0⟩ : ∃ w0, w0 = w.alloc (.cells #[.slice none 0 0] 51) := ⟨_, rfl⟩
    have HB0 : Hid (But [] w w0) := by show But _ _ _; rw [hw0]; exact (But.refl [] w).alloc _
    have HR := hid (range_keep hr HB0.out (by simp))
    have ht2 := there_new w #[.slice none 0 0] 51 1 rfl
    rw [← hw0, ← hb2] at ht2
    have HT := hid ht2
    have HLT := hid (lt_of_there ht2 (by omega))
    have HBW := hid hb2
    have hs1 := sliceHi b o L c h (by omega) (by omega)
    have hs2 := sliceLo b o L c h (by omega) (by omega) (by omega)
    rw [show L - h = h by omega] at hs2
    rw [← hLL] at ho hc HMN ⊢
    have he1 : ((L : Int) == 1) = false := by simp; omega
    have he2 : Int.tdiv (L : Int) 2 = (h : Nat) := by rw [Int.tdiv_eq_ediv_of_nonneg (by omega)]; omega
    clear hr hL ht2 hh ih
    have hn1 : ¬ c < h := by omega
    have hn2 : ¬ c = h := by omega
    have hn3 : (h : Int) ≤ (L : Int) := by omega
    have hn4 : L - h = h := by omega
    have hn5 : h ≤ 512 := by omega
    have hn6 : L ≤ 512 := by omega
    have HIH := hid IH
    have HLL := hid hLL
    clear IH
    go_enter Try.func33, Try.ntmps33
    go_upto_region 1 with fail
    rw [← hw0]
    rw [← hb2]
    clear hw0 hb2 hLL
    go_upto_region 5 with fail
    have IH := HIH.out
    refine wp_region_noPanic ?_
    refine till_begin (fun w' => But [] w0 w') 9 (by kernel_rfl) ?_
    have hS0 : But [] w0 w0.drew := (But.refl [] w0).drew
    refine till_take 0 (some 19) (.slice (some ⟨b, o, none⟩) L c) rfl rfl (by kernel_rfl) (by kernel_rfl) (by kernel_rfl) (by kernel_rfl) (by decide) (fun _ _ _ h => h) (Or.inl ⟨by rfl, fun w' hw' => by go_simp⟩) hS0 ?_
    simp only [Act.put, List.setIfInBounds_toArray, List.set_cons_zero, List.set_cons_succ]
    refine till_take 1 (some 20) (.int .i64 h) rfl rfl (by kernel_rfl) (by kernel_rfl) (by kernel_rfl) (by kernel_rfl) (by decide) (fun _ _ _ h => h) (Or.inl ⟨by rfl, fun w' hw' => by go_simp⟩) hS0 ?_
    simp only [Act.put, List.setIfInBounds_toArray, List.set_cons_zero, List.set_cons_succ]
    refine till_take 2 (some 21) (.slice (some ⟨b, o, none⟩) h c) rfl rfl (by kernel_rfl) (by kernel_rfl) (by kernel_rfl) (by kernel_rfl) (by decide) (fun _ _ _ h => h) (Or.inl ⟨by rfl, fun w' hw' => by go_simp⟩) hS0 ?_
    simp only [Act.put, List.setIfInBounds_toArray, List.set_cons_zero, List.set_cons_succ]
    refine till_take 4 (some 23) (.slice (some ⟨b, o, none⟩) L c) rfl rfl (by kernel_rfl) (by kernel_rfl) (by kernel_rfl) (by kernel_rfl) (by decide) (fun _ _ _ h => h) (Or.inl ⟨by rfl, fun w' hw' => by go_simp⟩) hS0 ?_
    simp only [Act.put, List.setIfInBounds_toArray, List.set_cons_zero, List.set_cons_succ]
    refine till_take 5 (some 24) (.int .i64 h) rfl rfl (by kernel_rfl) (by kernel_rfl) (by kernel_rfl) (by kernel_rfl) (by decide) (fun _ _ _ h => h) (Or.inl ⟨by rfl, fun w' hw' => by go_simp⟩) hS0 ?_
    simp only [Act.put, List.setIfInBounds_toArray, List.set_cons_zero, List.set_cons_succ]
    refine till_take 6 (some 25) (.slice (some ⟨b, o + h, none⟩) h (c - h)) rfl rfl (by kernel_rfl) (by kernel_rfl) (by kernel_rfl) (by kernel_rfl) (by decide) (fun _ _ _ h => h) (Or.inl ⟨by rfl, fun w' hw' => by go_simp⟩) hS0 ?_
    simp only [Act.put, List.setIfInBounds_toArray, List.set_cons_zero, List.set_cons_succ]
    refine till_one' 3 rfl (by kernel_rfl) (by rfl) (fun K hK => ?_)
    go_simp
    refine (IH o c _ (range_keep HR.out hS0 (by simp)) (by have := HLL.out; omega) (by omega)).mono ?_
    rintro e w1 ⟨A1, n1, c1, rfl, s1, k1⟩
    go_wp2_with fail
    have hS1 := hS0.trans k1
    refine hK.out _ _ ⟨fun _ => hS1, ?_⟩
    clear hK K hS0
    try simp only [Act.put, List.setIfInBounds_toArray, List.set_cons_zero, List.set_cons_succ]
    refine till_one' 7 rfl (by kernel_rfl) (by rfl) (fun K hK => ?_)
    go_simp
    refine (IH (o + h) (c - h) _ (range_keep HR.out hS1 (by simp)) (by have := HLL.out; omega) (by have := HLL.out; omega)).mono ?_
    rintro e w2 ⟨A2, n2, c2, rfl, s2, k2⟩
    go_wp2_with fail
    have hS2 := hS1.trans k2
    refine hK.out _ _ ⟨fun _ => hS2, ?_⟩
    clear hK K
    try simp only [Act.put, List.setIfInBounds_toArray, List.set_cons_zero, List.set_cons_succ]
    refine till_one' 8 rfl (by kernel_rfl) (by rfl) (fun K hK => ?_)
    go_simp
    refine (with_c A1 A2 n1 n2 c1 c2 _ _ _ _ _ (s1.keep0 k2) s2).mono ?_
    rintro e w3 ⟨A3, n3, c3, rfl, s3, k3⟩
    go_wp2_with fail
    have hS3 := hS2.trans k3
    refine hK.out _ _ ⟨fun _ => hS3, ?_⟩
    clear hK K
    try simp only [Act.put, List.setIfInBounds_toArray, List.set_cons_zero, List.set_cons_succ]
    refine till_one' 9 rfl (by kernel_rfl) (by rfl) (fun K hK => ?_)
    refine wp_store_mid _ _ _ rfl b2 0 #[.slice A3 n3 c3] rfl rfl (there_keep HT.out hS3 HLT.out (by simp)) sizeSet (all_oneCell_toArray (fun v hv => by simp at hv; subst hv; rfl)) ?_
    refine hK.out _ _ ⟨fun h => absurd rfl h, ?_⟩
    clear hK K
    refine till_done (by kernel_rfl) ?_ _
    refine NoPanic.normal ?_
    have HS3 := hid (s3.wider (Nat.le_trans hS2.size (Nat.le_refl _)))
    have HK3 := hid hS3
    clear s1 s2 s3 k1 k2 k3 hS1 hS2 hS3
    simp only [Act.put, List.setIfInBounds_toArray]
    go_wp2
    refine bodyPost_ret (results_range1 rfl _ _ b2 0 [.slice A3 n3 c3] _ rfl (World.rangeAt_setCells_same _ _ _ _ (there_keep HT.out HK3.out HLT.out (by simp))) Try.underlying51 rfl sizeSet) rfl ?_
    obtain ⟨A9, n9, c9, e9, s9, k9⟩ := gives_out (c := c3) HS3.out HB0.out HK3.out (b4 := b2) (by have := HBW.out; omega) HLT.out
    exact ⟨A9, n9, c9, e9, s9.congr (fun v => by rw [HMN.out]; rfl), k9⟩

/-- The set of all that is meant. -/
def mn (T : Tf) : Nat → Bool := mnS T 0 512
set_option maxHeartbeats 1000000 in
theorem Meant_c (T : Tf) (hT : Ok T) (w : World) :
    Calls Try.prog 19 #[.agg (tv T).toArray] w (Gives w (mn T)) := by
  obtain ⟨b, hb⟩ : ∃ b, b = w.heap.size := ⟨_, rfl⟩
  obtain ⟨w0, hw0⟩ : ∃ w0, w0 = (w.alloc (.cells (tv T).toArray 28)).alloc (.cells #[.slice none 0 0] 51) := ⟨_, rfl⟩
  have HB0 : Hid (But [] w w0) := by show But _ _ _; rw [hw0]; exact ((But.refl [] w).alloc _).alloc _
  have h1 := range_keep (l := []) (new_range w (tv T) 28) ((But.refl [] _).alloc (.cells #[.slice none 0 0] 51)) (by simp)
  have h2 := there_new (w.alloc (.cells (tv T).toArray 28)) #[.slice none 0 0] 51 1 rfl
  rw [show (w.alloc (.cells (tv T).toArray 28)).heap.size = w.heap.size + 1 by simp] at h2
  rw [← hw0, ← hb] at h1 h2
  have HR := hid h1
  have HT := hid h2
  have HLT := hid (lt_of_there h2 (by omega))
  have HBW := hid hb
  have HO := hid hT
  clear h1 h2 hT
  go_enter Try.func19, Try.ntmps19
  go_upto_region 1 with fail
  rw [← hw0, ← hb]
  clear hw0 hb
  go_wp2_with fail
  refine (meant_c b T HO.out 9 512 (by decide) 0 512 _ HR.out (by omega) (by omega)).mono ?_
  rintro e w3 ⟨A3, n3, c3, rfl, s3, k3⟩
  have HS3 := hid s3
  have HK3 := hid k3
  have HTB : Hid (w3.there (b + 1) 0 1) := there_keep HT.out k3 HLT.out (by simp)
  obtain ⟨v3, hb6⟩ := Option.isSome_iff_exists.1 (HTB.out 0 (by omega)).1
  have hz6 := (HTB.out 0 (by omega)).2
  rw [Nat.zero_add] at hb6 hz6
  clear s3 k3
  go_wp2
  refine bodyPost_ret (results_range1 rfl _ _ (b + 1) 0 [.slice A3 n3 c3] _ rfl (range1 (World.cell?_setCell_same _ _ _ hb6)) Try.underlying51 rfl sizeSet) rfl ?_
  exact gives_out HS3.out HB0.out HK3.out (by have := HBW.out; omega) HLT.out
end Go.Proofs.Ytfjkbfcfceckgaa.Nm
