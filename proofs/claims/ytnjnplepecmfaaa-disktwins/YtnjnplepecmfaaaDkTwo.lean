/-
  Layer 8 (disk): contracts of Write, over the translated program.
-/
import Derived.Test.YtnjnplepecmfaaaDkOne
import Derived.Test.YtnjnplepecmfaaaLast
namespace Go.Proofs.Ytnjnplepecmfaaa.Dk
open Go.ChangeShapes Go.WideShapes Go.ChangeAt Go.RowKit
set_option linter.unusedVariables false
set_option maxRecDepth 20000

theorem write_nil (k : Int) (x : Dat) (w : World) :
    Calls Try.prog 17 #[.pointer none, .int .i64 k, .agg (dv x).toArray] w fun e w' => e = .returned (.bool false) ∧ But [] w w' := by
  go_enter Try.func17, Try.ntmps17
  go_wp2_with fail
  refine (has_nil k _).mono ?_
  rintro e w1 ⟨rfl, rfl⟩
  go_wp2
  go_ret
  exact ⟨rfl, (But.refl [] w).alloc _⟩
theorem s_keep {w w' : World} {b g0 : Nat} {v : Value} {cs : List Value} (h : w.cell? ⟨b, 1, none⟩ = some v ∧ w.rangeAt g0 0 cs) (hk : But [] w w') : w'.cell? ⟨b, 1, none⟩ = some v ∧ w'.rangeAt g0 0 cs :=
  ⟨cell_keep h.1 hk (by simp), range_keep h.2 hk (by simp)⟩
section
variable {lo b bl cl n : Nat} {v : Value} {L : Nat → Dat} {W : List Wr} {w : World}
theorem write_no (k : Int) (x : Dat) (h : DkAt tP w lo b bl cl n v L W) (hk : inB n k = false) :
    Calls Try.prog 17 #[.pointer (some ⟨b, 0, none⟩), .int .i64 k, .agg (dv x).toArray] w fun e w' => e = .returned (.bool false) ∧ But [] w w' := by
  have H : Hid (DkAt tP w lo b bl cl n v L W) := h
  have HK : Hid (inB n k = false) := hk
  clear h hk
  go_enter Try.func17, Try.ntmps17
  go_wp2_with fail
  refine (has_c k (H.out.keep0 ((But.refl [] w).alloc _))).mono ?_
  rintro e w1 ⟨rfl, rfl⟩
  rw [HK.out]
  go_wp2
  go_ret
  exact ⟨rfl, (But.refl [] w).alloc _⟩
/-- A write was put behind those that wait, and the disk told so. -/
theorem push_done {tw : TypeId} {w w1 w3 : World} {lo b bl cl n : Nat} {v : Value} {L : Nat → Dat} {W : List Wr} {k : Nat} {x : Dat} {g cap : Nat} (H : DkAt tw w lo b bl cl n v L W) (hB : But [] w w1) (hk : k < n) (hG : But v.ownBlock.toList w1 w3)
    (hO : w3.ownsRow lo tw 65 (.slice (some ⟨g, 0, none⟩) (W.length + 1) cap) (W ++ [(k, x)]).length (cat (W ++ [(k, x)]))) (hA : v.ownBlock = some g ∨ g = w1.heap.size + 1) :
    ∃ v', DkAt tw (w3.setCell ⟨b, 1, none⟩ (.slice (some ⟨g, 0, none⟩) (W.length + 1) cap)) lo b bl cl n v' L (W ++ [(k, x)]) ∧ But (fp b bl v) w (w3.setCell ⟨b, 1, none⟩ (.slice (some ⟨g, 0, none⟩) (W.length + 1) cap)) ∧ (∀ g ∈ fp b bl v', g ∈ fp b bl v ∨ w.heap.size ≤ g) := by
  have hs := hB.size
  have hb := H.lt fp_b
  have hbl := H.lt fp_bl
  have hg : g ≠ b ∧ g ≠ bl := by
    rcases hA with h | h
    · exact H.vne g h
    · omega
  have hbn : b ∉ v.ownBlock.toList := fun hm => (H.vne b (by simpa using hm)).1 rfl
  have hbln : bl ∉ v.ownBlock.toList := fun hm => (H.vne bl (by simpa using hm)).2 rfl
  have H1 := H.keep0 hB
  have D3 : DkAt tw (w3.setCell ⟨b, 1, none⟩ (.slice (some ⟨g, 0, none⟩) (W.length + 1) cap)) lo b bl cl n (.slice (some ⟨g, 0, none⟩) (W.length + 1) cap) L (W ++ [(k, x)]) := by
    have hB3 : But [b] w3 (w3.setCell ⟨b, 1, none⟩ (.slice (some ⟨g, 0, none⟩) (W.length + 1) cap)) := (But.refl _ _).setCell (by simp) _
    refine ⟨H.lob, H.lol, H.ne, VB.congr ((H1.hd.keep hG hbn).set (k := 1) _) (fun j hj => ?_), (H1.rows.keep hG hbln).keep hB3 (by simpa using fun e => H.ne e.symm), own_keep hO hB3 (fun k e => ?_), fun k e => ?_, fun p hp => ?_, H.pos, H.most⟩
    · show (if j = 1 then _ else hdF bl n cl v j) = hdF bl n cl _ j
      unfold hdF
      have : j = 0 ∨ j = 1 := by omega
      rcases this with rfl | rfl <;> simp
    · obtain rfl : g = k := by simpa [Value.ownBlock] using e
      simpa using hg.1
    · obtain rfl : g = k := by simpa [Value.ownBlock] using e
      exact hg
    · rcases List.mem_append.1 hp with hp | hp
      · exact H.inn p hp
      · obtain rfl : p = (k, x) := by simpa using hp
        exact hk
  have hB2 : But (fp b bl v) w w3 := (hB.wider (by simp)).trans (hG.wider (fun k hm => fp_v (by simpa using hm)))
  refine ⟨_, D3, hB2.setCell (p := ⟨b, 1, none⟩) (.inl fp_b) _, fun k hm => ?_⟩
  rcases mem_fp hm with rfl | rfl | e
  · exact .inl fp_b
  · exact .inl fp_bl
  · obtain rfl : g = k := by simpa [Value.ownBlock] using e
    rcases hA with h | h
    · exact .inl (fp_v h)
    · right; omega
set_option maxHeartbeats 2000000 in
theorem write_c (k : Nat) (x : Dat) (h : DkAt tP w lo b bl cl n v L W) (hk : k < n) (hW : W.length ≤ 1000) (hlo : lo ≤ w.heap.size) :
    Calls Try.prog 17 #[.pointer (some ⟨b, 0, none⟩), .int .i64 k, .agg (dv x).toArray] w fun e w' =>
      e = .returned (.bool true) ∧ ∃ v', DkAt tP w' lo b bl cl n v' L (W ++ [(k, x)]) ∧ But (fp b bl v) w w' ∧ (∀ g ∈ fp b bl v', g ∈ fp b bl v ∨ w.heap.size ≤ g) := by
  have H : Hid (DkAt tP w lo b bl cl n v L W) := h
  obtain ⟨g0, hg0⟩ : ∃ g0, g0 = w.heap.size := ⟨_, rfl⟩
  have hB0 : But [] w (w.alloc (.cells (dv x).toArray 34)) := (But.refl [] w).alloc _
  have hR0 : (w.alloc (.cells (dv x).toArray 34)).rangeAt w.heap.size 0 (dv x) := new_range _ _ _
  clear h
  go_enter Try.func17, Try.ntmps17
  go_wp2_with fail
  refine (has_c k (H.out.keep0 ((But.refl [] w).alloc _))).mono ?_
  rintro e w1 ⟨rfl, hw⟩
  rw [inB_yes hk]
  rw [hw] at hB0 hR0
  rw [← hg0] at hR0 ⊢
  have HK : Hid (k < n) := hk
  have HG : Hid (g0 = w.heap.size) := hg0
  clear hw hg0 hk
  have H1 : Hid (DkAt tP w1 lo b bl cl n v L W) := H.out.keep0 hB0
  have hc1 := H1.out.c1
  have hf1 := H1.out.f1
  have HR : Hid (w1.rangeAt g0 0 (dv x)) := hR0
  clear hR0
  have HB0 : Hid (But [] w w1) := hB0
  have HGL : Hid (g0 < w1.heap.size) := lt_of_cell (range_cells HR.out 0 _ (dv_get x 0 (by omega)))
  have HLO : Hid (lo ≤ w1.heap.size) := Nat.le_trans hlo hB0.size
  have HWL : Hid (W.length ≤ 1000) := hW
  have HGB : Hid (b < g0) := by
    have h1 := H.out.lt (k := b) fp_b
    have h2 := HG.out
    show b < g0
    omega
  have HNE : Hid (¬ v.ownBlock = some g0) := fun e => by
    have := (own_lt H.out.own e).2
    have := HG.out
    omega
  clear hB0 hlo hW
  go_wp2
  refine till_begin (fun w' => w'.cell? ⟨b, 1, none⟩ = some v ∧ w'.rangeAt g0 0 (dv x)) 12 (by kernel_rfl) ?_
  have hS := s_keep ⟨hc1, HR.out⟩ (But.refl [] w1).drew
  refine till_take 0 (some 11) (.pointer (some ⟨b, 0, none⟩)) rfl rfl (by kernel_rfl) (by kernel_rfl) (by kernel_rfl) (by kernel_rfl) (by decide) (fun _ _ _ h => h) (Or.inl ⟨by rfl, fun w' hw' => by go_simp⟩) hS ?_
  simp only [Act.put, List.setIfInBounds_toArray, List.set_cons_zero, List.set_cons_succ]
  refine till_take 1 (some 12) (.pointer (some ⟨b, 0, none⟩)) rfl rfl (by kernel_rfl) (by kernel_rfl) (by kernel_rfl) (by kernel_rfl) (by decide) (fun _ _ _ h => h) (Or.inl ⟨by rfl, fun w' hw' => by go_simp⟩) hS ?_
  simp only [Act.put, List.setIfInBounds_toArray, List.set_cons_zero, List.set_cons_succ]
  refine till_take 2 (some 13) (.pointer (some ⟨b, 0, none⟩)) rfl rfl (by kernel_rfl) (by kernel_rfl) (by kernel_rfl) (by kernel_rfl) (by decide) (fun _ _ _ h => h) (Or.inl ⟨by rfl, fun w' hw' => by go_simp⟩) hS ?_
  simp only [Act.put, List.setIfInBounds_toArray, List.set_cons_zero, List.set_cons_succ]
  refine till_take 3 (some 14) (.pointer (some ⟨b, 1, none⟩)) rfl rfl (by kernel_rfl) (by kernel_rfl) (by kernel_rfl) (by kernel_rfl) (by decide) (fun _ _ _ h => h) (Or.inl ⟨by rfl, fun w' hw' => by go_simp⟩) hS ?_
  simp only [Act.put, List.setIfInBounds_toArray, List.set_cons_zero, List.set_cons_succ]
  refine till_take 4 (some 15) (v) rfl rfl (by kernel_rfl) (by kernel_rfl) (by kernel_rfl) (by kernel_rfl) (by decide) (fun _ _ _ h => h) (Or.inl ⟨by rfl, fun w' hw' => by obtain ⟨hw1, -⟩ := hw'; go_simp⟩) hS ?_
  simp only [Act.put, List.setIfInBounds_toArray, List.set_cons_zero, List.set_cons_succ]
  refine till_take 5 (some 16) (.int .i64 k) rfl rfl (by kernel_rfl) (by kernel_rfl) (by kernel_rfl) (by kernel_rfl) (by decide) (fun _ _ _ h => h) (Or.inl ⟨by rfl, fun w' hw' => by go_simp⟩) hS ?_
  simp only [Act.put, List.setIfInBounds_toArray, List.set_cons_zero, List.set_cons_succ]
  refine till_take 6 (some 17) (.agg (dv x).toArray) rfl rfl (by kernel_rfl) (by kernel_rfl) (by kernel_rfl) (by kernel_rfl) (by decide) (fun _ _ _ h => h) (yieldsIf_load_mid (by rfl) _ _ rfl g0 0 rfl (dv x) _ (fun w' h => h.2) Try.underlying34 rfl (iData x)) hS ?_
  simp only [Act.put, List.setIfInBounds_toArray, List.set_cons_zero, List.set_cons_succ]
  refine till_take 7 (some 18) (.agg (wv (k, x)).toArray) rfl rfl (by kernel_rfl) (by kernel_rfl) (by kernel_rfl) (by kernel_rfl) (by decide) (fun _ _ _ h => h) (yieldsIf_build (by rfl) 71 [(0, .tmp 16), (1, .tmp 17)] rfl _ [(0, .int .i64 k), (1, .agg (dv x).toArray)] rfl (bWriteP k x)) hS ?_
  simp only [Act.put, List.setIfInBounds_toArray, List.set_cons_zero, List.set_cons_succ]
  refine till_one 8 rfl (by kernel_rfl) (by rfl) ?_
  refine wp_lit1 _ _ _ rfl (some 19) rfl (wv (k, x)) rfl (lWrite (k, x)) ⟨fun _ => s_keep ⟨hc1, HR.out⟩ ((But.refl [] w1).drew.alloc _), ?_⟩
  simp only [Act.put, List.setIfInBounds_toArray, List.set_cons_zero, List.set_cons_succ]
  refine till_one 9 rfl (by kernel_rfl) (by rfl) ?_
  refine push_wp _ _ _ _ rfl (some 20) rfl tP Try.underlying57 infWrite lo v W rfl (own_keep H1.out.own ((But.refl [] w1).drew.alloc _) (by simp)) w1.heap.size (k, x) rfl (new_range _ _ _) HWL.out (by have := HLO.out; simp; omega) ?_
  intro g cap w3 hown hgrow hat
  have HO : Hid (w3.ownsRow lo tP 65 (.slice (some ⟨g, 0, none⟩) (W.length + 1) cap) (W ++ [(k, x)]).length (cat (W ++ [(k, x)]))) := hown
  have HGR : Hid (But v.ownBlock.toList w1 w3) := ((But.refl _ w1).drew.alloc _).trans (But.of_grown hgrow)
  have HAT : Hid (v.ownBlock = some g ∨ g = w1.heap.size + 1) := by (show _ ∨ _; simpa using hat)
  have hbn : b ∉ v.ownBlock.toList := fun hm => (H1.out.vne b (by simpa using hm)).1 rfl
  have hc3 : w3.cell? ⟨b, 1, none⟩ = some v := cell_keep hc1 HGR.out hbn
  have hf3 : w3.frozen? ⟨b, 1, none⟩ = false := (HGR.out.frozen (p := ⟨b, 1, none⟩) (lt_of_cell hc1) hbn).trans hf1
  have hS3 : w3.cell? ⟨b, 1, none⟩ = some v ∧ w3.rangeAt g0 0 (dv x) := ⟨hc3, range_keep HR.out HGR.out (fun hm => HNE.out (by simpa using hm))⟩
  clear hown hgrow hat hS
  refine ⟨fun _ => hS3, ?_⟩
  simp only [Act.put, List.setIfInBounds_toArray, List.set_cons_zero, List.set_cons_succ]
  refine till_read 10 (some 21) (.pointer (some ⟨b, 0, none⟩)) rfl rfl (by kernel_rfl) (Or.inl ⟨by rfl, fun w' hw' => by go_simp⟩) hS3 ?_
  simp only [Act.put, List.setIfInBounds_toArray, List.set_cons_zero, List.set_cons_succ]
  refine till_read 11 (some 22) (.pointer (some ⟨b, 1, none⟩)) rfl rfl (by kernel_rfl) (Or.inl ⟨by rfl, fun w' hw' => by go_simp⟩) hS3 ?_
  simp only [Act.put, List.setIfInBounds_toArray, List.set_cons_zero, List.set_cons_succ]
  refine till_one 12 rfl (by kernel_rfl) (by rfl) ?_
  go_simp
  refine ⟨by kernel_rfl, ?_⟩
  clear hS3 hbn
  go_wp2
  go_ret
  exact ⟨rfl, push_done H.out HB0.out HK.out HGR.out HO.out HAT.out⟩
end
end Go.Proofs.Ytnjnplepecmfaaa.Dk
