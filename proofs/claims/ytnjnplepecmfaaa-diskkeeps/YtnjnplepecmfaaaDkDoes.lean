/-
  Layer 8 (disk): contract of the statements' does (a deed in both disks), over the translated program.
-/
import Derived.Test.YtnjnplepecmfaaaDkLaw
import Derived.Test.YtnjnplepecmfaaaDkFlat
namespace Go.Proofs.Ytnjnplepecmfaaa.Dk
open Go.ChangeShapes Go.WideShapes Go.ChangeAt Go.RowKit
set_option linter.unusedVariables false
set_option maxRecDepth 20000

/-- What a deed leaves: both disks are the same again. -/
def Did (w : World) (lo b bl cl b' bl' cl' n m : Nat) (w' : World) : Prop := ∃ v v' L W, St w' lo b bl cl v b' bl' cl' v' n L W ∧ W.length ≤ m ∧ Below lo w w'
/-- A slice of bools whose memory lies below lo. -/
def BlL (w : World) (lo : Nat) (A : Option Addr) (ks : List Bool) : Prop := ks = [] ∨ ∃ g off, A = some ⟨g, off, none⟩ ∧ g < lo ∧ ∀ j, j < ks.length → w.cell? ⟨g, off + j, none⟩ = some (.bool (ks.getD j false))
theorem BlL.keep {w w' : World} {lo : Nat} {A : Option Addr} {ks : List Bool} (h : BlL w lo A ks) (hb : Below lo w w') : BlL w' lo A ks := by
  rcases h with h | ⟨g, off, e, h1, h2⟩
  · exact .inl h
  · exact .inr ⟨g, off, e, h1, fun j hj => (hb.cell (p := ⟨g, off + j, none⟩) h1).trans (h2 j hj)⟩
theorem BlL.bl {w : World} {lo : Nat} {A : Option Addr} {ks : List Bool} (h : BlL w lo A ks) (hl : lo ≤ w.heap.size) : Bl w A ks := by
  rcases h with h | ⟨g, off, e, h1, h2⟩
  · exact .inl h
  · exact .inr ⟨g, off, e, by omega, h2⟩
theorem BlL.far {w : World} {lo : Nat} {A : Option Addr} {ks : List Bool} (h : BlL w lo A ks) : ∀ g off, A = some ⟨g, off, none⟩ → ks ≠ [] → g < lo := fun g off e hn => by
  rcases h with h | ⟨g', off', e', h1, h2⟩
  · exact absurd h hn
  · rw [e] at e'
    injection e' with e'
    injection e' with e1 e2
    omega
/-- A deed's box. -/
structure Box (w : World) (q : Nat) (K B : Int) (AX : Option Addr) (lX cX : Nat) (AK : Option Addr) (lK cK : Nat) : Prop where
  k : w.cell? ⟨q, 0, none⟩ = some (.int .i64 K)
  b : w.cell? ⟨q, 1, none⟩ = some (.int .i64 B)
  x : w.cell? ⟨q, 2, none⟩ = some (.slice AX lX cX)
  p : w.cell? ⟨q, 3, none⟩ = some (.slice AK lK cK)
theorem Box.new (w : World) (K B : Int) (AX : Option Addr) (lX cX : Nat) (AK : Option Addr) (lK cK : Nat) : Box (w.alloc (.cells #[.int .i64 K, .int .i64 B, .slice AX lX cX, .slice AK lK cK] 31)) w.heap.size K B AX lX cX AK lK cK := by
  have hc : ∀ j, (w.alloc (.cells #[.int .i64 K, .int .i64 B, .slice AX lX cX, .slice AK lK cK] 31)).cell? ⟨w.heap.size, j, none⟩ = (#[.int .i64 K, .int .i64 B, .slice AX lX cX, .slice AK lK cK] : Array Value)[j]? := fun j => cell_of_row _ _ j _ _ (0, 0) (heap_alloc_last w _)
  exact ⟨(hc 0).trans rfl, (hc 1).trans rfl, (hc 2).trans rfl, (hc 3).trans rfl⟩
theorem Box.keep {w w' : World} {q : Nat} {K B : Int} {AX : Option Addr} {lX cX : Nat} {AK : Option Addr} {lK cK : Nat} {l : List Nat} (h : Box w q K B AX lX cX AK lK cK) (hk : But l w w') (hn : q ∉ l) : Box w' q K B AX lX cX AK lK cK :=
  ⟨cell_keep h.k hk hn, cell_keep h.b hk hn, cell_keep h.x hk hn, cell_keep h.p hk hn⟩
theorem s3_keep {w w' : World} {b' q : Nat} {v' u1 u2 : Value} {l : List Nat} (h : w.cell? ⟨b', 1, none⟩ = some v' ∧ w.cell? ⟨q, 1, none⟩ = some u1 ∧ w.cell? ⟨q, 2, none⟩ = some u2) (hk : But l w w') (h1 : b' ∉ l) (h2 : q ∉ l) :
    w'.cell? ⟨b', 1, none⟩ = some v' ∧ w'.cell? ⟨q, 1, none⟩ = some u1 ∧ w'.cell? ⟨q, 2, none⟩ = some u2 := ⟨cell_keep h.1 hk h1, cell_keep h.2.1 hk h2, cell_keep h.2.2 hk h2⟩
theorem s2_keep {w w' : World} {q : Nat} {u1 u2 : Value} {l : List Nat} (h : w.cell? ⟨q, 1, none⟩ = some u1 ∧ w.cell? ⟨q, 2, none⟩ = some u2) (hk : But l w w') (h2 : q ∉ l) :
    w'.cell? ⟨q, 1, none⟩ = some u1 ∧ w'.cell? ⟨q, 2, none⟩ = some u2 := ⟨cell_keep h.1 hk h2, cell_keep h.2 hk h2⟩
theorem rd_below {w w' : World} {lo : Nat} {A : Option Addr} {xs : List Int} (h : Rd .u8 w 0 lo A xs) (hb : Below lo w w') (hl : lo ≤ w.heap.size) : Rd .u8 w' 0 w'.heap.size A xs := (h.keep hb).wider (Nat.le_refl _) (Nat.le_trans hl hb.size)
theorem nil_apart {w : World} {lo b bl cl : Nat} {v : Value} {b' bl' cl' : Nat} {v' : Value} {n : Nat} {L : Nat → Dat} {W : List Wr} (h : St w lo b bl cl v b' bl' cl' v' n L W) : ∀ k ∈ fp b bl (.slice none 0 0), k ∉ fp b' bl' (.slice none 0 0) := fun k h1 h2 => by
  refine h.ap k ?_ ?_
  · rcases mem_fp h1 with rfl | rfl | e
    · exact fp_b
    · exact fp_bl
    · cases e
  · rcases mem_fp h2 with rfl | rfl | e
    · exact fp_b
    · exact fp_bl
    · cases e
section
variable {w : World} {lo b bl cl : Nat} {v : Value} {b' bl' cl' : Nat} {v' : Value} {n : Nat} {L : Nat → Dat} {W : List Wr}
set_option maxHeartbeats 4000000 in
theorem does_w0 (B : Int) (AX : Option Addr) (cX : Nat) (xs : List Int) (AK : Option Addr) (lK cK : Nat) (h : St w lo b bl cl v b' bl' cl' v' n L W) (hW : W.length ≤ 900) (hX : Rd .u8 w 0 lo AX xs) (hxl : xs.length ≤ 9223372036854775807) :
    Calls Try.prog 10 #[.pointer (some ⟨b, 0, none⟩), .pointer (some ⟨b', 0, none⟩), .agg #[.int .i64 0, .int .i64 B, .slice AX xs.length cX, .slice AK lK cK]] w fun e w' => e = .returned (.bool true) ∧ Did w lo b bl cl b' bl' cl' n (W.length + 1) w' := by
  have HX : Hid (Rd .u8 w 0 lo AX xs) := hX
  have HST : Hid (St w lo b bl cl v b' bl' cl' v' n L W) := h
  have HW : Hid (W.length ≤ 900) := hW
  have HXL : Hid (xs.length ≤ 9223372036854775807) := hxl
  have HLO : Hid (lo ≤ w.heap.size) := h.lo_le
  have hbx := Box.new w 0 B AX xs.length cX AK lK cK
  have HB1 : Hid (But [] w (w.alloc (.cells #[.int .i64 0, .int .i64 B, .slice AX xs.length cX, .slice AK lK cK] 31))) := (But.refl [] w).alloc _
  obtain ⟨q, hq⟩ : ∃ q, q = w.heap.size := ⟨_, rfl⟩
  have HQ : Hid (q = w.heap.size) := hq
  have HQN : Hid (q ∉ fp b bl v ∧ q ∉ fp b' bl' v') := ⟨fun hm => by have := h.d.lt hm; omega, fun hm => by have := h.x.lt hm; omega⟩
  obtain ⟨lx, hlx⟩ : ∃ lx, lx = xs.length := ⟨_, rfl⟩
  have HLX : Hid (lx = xs.length) := hlx
  rw [← hq] at hbx
  rw [← hlx] at hbx HB1 ⊢
  clear h hX hW hxl hlx
  go_enter Try.func10, Try.ntmps10
  go_upto_region 1 with fail
  rw [← hq]
  generalize w.alloc (.cells #[.int .i64 0, .int .i64 B, .slice AX lx cX, .slice AK lK cK] 31) = w1 at hbx HB1 ⊢
  have HBX : Hid (Box w1 q 0 B AX lx cX AK lK cK) := hbx
  have hbk := hbx.k
  have HS1 : Hid (St w1 lo b bl cl v b' bl' cl' v' n L W) := HST.out.keep0 HB1.out
  clear hbx hq
  go_upto_region 7 with fail
  clear hbk
  have hbb := HBX.out.b
  go_wp2_with fail
  refine (rin_c B HS1.out.x).mono ?_
  rintro e w2 ⟨rfl, rfl⟩
  have HBO : Hid (Below lo w w1.drew) := (HB1.out.below HLO.out (by simp)).drew
  cases hin : inB n B with
  | true =>
    obtain ⟨k, rfl, hk⟩ := inB_of hin
    have HK : Hid (k < n) := hk
    clear hin hk
    go_wp2
    refine till_begin (fun w' => w'.cell? ⟨b', 1, none⟩ = some v' ∧ w'.cell? ⟨q, 1, none⟩ = some (.int .i64 k) ∧ w'.cell? ⟨q, 2, none⟩ = some (.slice AX lx cX)) 15 (by kernel_rfl) ?_
    have hS := s3_keep (w' := w1.drew) (l := []) ⟨HS1.out.x.c1, HBX.out.b, HBX.out.x⟩ (But.refl [] w1).drew (by simp) (by simp)
    refine till_take 0 (some 19) (.pointer (some ⟨b', 0, none⟩)) rfl rfl (by kernel_rfl) (by kernel_rfl) (by kernel_rfl) (by kernel_rfl) (by decide) (fun _ _ _ h => h) (Or.inl ⟨by rfl, fun w' hw' => by go_simp⟩) hS ?_
    simp only [Act.put, List.setIfInBounds_toArray, List.set_cons_zero, List.set_cons_succ]
    refine till_take 1 (some 20) (.pointer (some ⟨b', 0, none⟩)) rfl rfl (by kernel_rfl) (by kernel_rfl) (by kernel_rfl) (by kernel_rfl) (by decide) (fun _ _ _ h => h) (Or.inl ⟨by rfl, fun w' hw' => by go_simp⟩) hS ?_
    simp only [Act.put, List.setIfInBounds_toArray, List.set_cons_zero, List.set_cons_succ]
    refine till_take 2 (some 21) (.pointer (some ⟨b', 0, none⟩)) rfl rfl (by kernel_rfl) (by kernel_rfl) (by kernel_rfl) (by kernel_rfl) (by decide) (fun _ _ _ h => h) (Or.inl ⟨by rfl, fun w' hw' => by go_simp⟩) hS ?_
    simp only [Act.put, List.setIfInBounds_toArray, List.set_cons_zero, List.set_cons_succ]
    refine till_take 3 (some 22) (.pointer (some ⟨b', 1, none⟩)) rfl rfl (by kernel_rfl) (by kernel_rfl) (by kernel_rfl) (by kernel_rfl) (by decide) (fun _ _ _ h => h) (Or.inl ⟨by rfl, fun w' hw' => by go_simp⟩) hS ?_
    simp only [Act.put, List.setIfInBounds_toArray, List.set_cons_zero, List.set_cons_succ]
    refine till_take 4 (some 23) (v') rfl rfl (by kernel_rfl) (by kernel_rfl) (by kernel_rfl) (by kernel_rfl) (by decide) (fun _ _ _ h => h) (Or.inl ⟨by rfl, fun w' hw' => by obtain ⟨hw1, -⟩ := hw'; go_simp⟩) hS ?_
    simp only [Act.put, List.setIfInBounds_toArray, List.set_cons_zero, List.set_cons_succ]
    refine till_take 5 (some 24) (.pointer (some ⟨q, 1, none⟩)) rfl rfl (by kernel_rfl) (by kernel_rfl) (by kernel_rfl) (by kernel_rfl) (by decide) (fun _ _ _ h => h) (Or.inl ⟨by rfl, fun w' hw' => by go_simp⟩) hS ?_
    simp only [Act.put, List.setIfInBounds_toArray, List.set_cons_zero, List.set_cons_succ]
    refine till_take 6 (some 25) (.int .i64 k) rfl rfl (by kernel_rfl) (by kernel_rfl) (by kernel_rfl) (by kernel_rfl) (by decide) (fun _ _ _ h => h) (Or.inl ⟨by rfl, fun w' hw' => by obtain ⟨-, hw1, -⟩ := hw'; go_simp⟩) hS ?_
    simp only [Act.put, List.setIfInBounds_toArray, List.set_cons_zero, List.set_cons_succ]
    refine till_take 7 (some 26) (.pointer (some ⟨q, 2, none⟩)) rfl rfl (by kernel_rfl) (by kernel_rfl) (by kernel_rfl) (by kernel_rfl) (by decide) (fun _ _ _ h => h) (Or.inl ⟨by rfl, fun w' hw' => by go_simp⟩) hS ?_
    simp only [Act.put, List.setIfInBounds_toArray, List.set_cons_zero, List.set_cons_succ]
    refine till_take 8 (some 27) (.slice AX lx cX) rfl rfl (by kernel_rfl) (by kernel_rfl) (by kernel_rfl) (by kernel_rfl) (by decide) (fun _ _ _ h => h) (Or.inl ⟨by rfl, fun w' hw' => by obtain ⟨-, -, hw1⟩ := hw'; go_simp⟩) hS ?_
    simp only [Act.put, List.setIfInBounds_toArray, List.set_cons_zero, List.set_cons_succ]
    refine till_one 9 rfl (by kernel_rfl) (by rfl) ?_
    go_simp
    go_at_call 18
    rw [HLX.out]
    refine (of_c AX cX xs _ (rd_below HX.out HBO.out HLO.out) HXL.out).mono ?_
    rw [← HLX.out]
    rintro e w2 ⟨rfl, hb2⟩
    have HB2 : Hid (But [] w1 w2) := (But.refl [] w1).drew.trans hb2
    have hS2 := s3_keep hS hb2 (by simp) (by simp)
    obtain ⟨x, hx⟩ : ∃ x, x = ofD xs := ⟨_, rfl⟩
    rw [← hx]
    have HXE : Hid (ofD xs = x) := hx.symm
    clear hb2 hS hx
    refine ⟨hS2, ?_⟩
    refine till_read 10 (some 29) (.agg (wv (k, x)).toArray) rfl rfl (by kernel_rfl) (yieldsIf_build (by rfl) 65 [(0, .tmp 25), (1, .tmp 28)] rfl _ [(0, .int .i64 k), (1, .agg (dv x).toArray)] rfl (bRWriteP k x)) hS2 ?_
    simp only [Act.put, List.setIfInBounds_toArray, List.set_cons_zero, List.set_cons_succ]
    refine till_one 11 rfl (by kernel_rfl) (by rfl) ?_
    refine wp_lit1 _ _ _ rfl (some 30) rfl (wv (k, x)) rfl (lRWrite (k, x)) ⟨fun _ => s3_keep hS2 ((But.refl [] w2).alloc _) (by simp) (by simp), ?_⟩
    simp only [Act.put, List.setIfInBounds_toArray, List.set_cons_zero, List.set_cons_succ]
    refine till_one 12 rfl (by kernel_rfl) (by rfl) ?_
    refine push_wp _ _ _ _ rfl (some 31) rfl tR Try.underlying61 infRWrite lo v' W rfl (own_keep (HS1.out.x.keep0 HB2.out).own ((But.refl [] w2).alloc _) (by simp)) w2.heap.size (k, x) rfl (new_range _ _ _) (by have := HW.out; omega) (by have h1 := HLO.out; have h2 := HB1.out.size; have h3 := HB2.out.size; simp; omega) ?_
    intro g cap w3 hown hgrow hat
    have HO : Hid (w3.ownsRow lo tR 65 (.slice (some ⟨g, 0, none⟩) (W.length + 1) cap) (W ++ [(k, x)]).length (cat (W ++ [(k, x)]))) := hown
    have HGR : Hid (But v'.ownBlock.toList w2 w3) := ((But.refl _ w2).alloc _).trans (But.of_grown hgrow)
    have HAT : Hid (v'.ownBlock = some g ∨ g = w2.heap.size + 1) := by (show _ ∨ _; simpa using hat)
    have hbn : b' ∉ v'.ownBlock.toList := fun hm => (HS1.out.x.vne b' (by simpa using hm)).1 rfl
    have hqn : q ∉ v'.ownBlock.toList := fun hm => HQN.out.2 (fp_v (by simpa using hm))
    have hf2 := (HS1.out.x.keep0 HB2.out).f1
    have hc2 := (HS1.out.x.keep0 HB2.out).c1
    have hc3 : w3.cell? ⟨b', 1, none⟩ = some v' := cell_keep hc2 HGR.out hbn
    have hf3 : w3.frozen? ⟨b', 1, none⟩ = false := (HGR.out.frozen (p := ⟨b', 1, none⟩) (lt_of_cell hc2) hbn).trans hf2
    have hS3 := s3_keep hS2 HGR.out hbn hqn
    clear hown hgrow hat hS2 hf2 hc2
    refine ⟨fun _ => hS3, ?_⟩
    simp only [Act.put, List.setIfInBounds_toArray, List.set_cons_zero, List.set_cons_succ]
    refine till_read 13 (some 32) (.pointer (some ⟨b', 0, none⟩)) rfl rfl (by kernel_rfl) (Or.inl ⟨by rfl, fun w' hw' => by go_simp⟩) hS3 ?_
    simp only [Act.put, List.setIfInBounds_toArray, List.set_cons_zero, List.set_cons_succ]
    refine till_read 14 (some 33) (.pointer (some ⟨b', 1, none⟩)) rfl rfl (by kernel_rfl) (Or.inl ⟨by rfl, fun w' hw' => by go_simp⟩) hS3 ?_
    simp only [Act.put, List.setIfInBounds_toArray, List.set_cons_zero, List.set_cons_succ]
    refine till_one 15 rfl (by kernel_rfl) (by rfl) ?_
    go_simp
    refine ⟨by kernel_rfl, ?_⟩
    have HB12 : Hid (But [] w w2) := HB1.out.trans HB2.out
    obtain ⟨u', hX4, hk4, hf4⟩ := push_done HST.out.x HB12.out HK.out HGR.out HO.out HAT.out
    have HS3 : Hid (w3.cell? ⟨q, 1, none⟩ = some (.int .i64 k) ∧ w3.cell? ⟨q, 2, none⟩ = some (.slice AX lx cX)) := hS3.2
    obtain ⟨w4, hw4⟩ : ∃ w4, w4 = w3.setCell ⟨b', 1, none⟩ (.slice (some ⟨g, 0, none⟩) (W.length + 1) cap) := ⟨_, rfl⟩
    rw [← hw4] at hX4 hk4 ⊢
    have HX4 : Hid (DkAt tR w4 lo b' bl' cl' n u' L (W ++ [(k, x)])) := hX4
    have HK4 : Hid (But (fp b' bl' v') w w4) := hk4
    have HF4 : Hid (∀ g ∈ fp b' bl' u', g ∈ fp b' bl' v' ∨ w.heap.size ≤ g) := hf4
    have HD4 : Hid (DkAt tP w4 lo b bl cl n v L W) := HST.out.d.keep hk4 (fun i hi => HST.out.ap i hi)
    have hcc : w4.cell? ⟨q, 1, none⟩ = some (.int .i64 k) ∧ w4.cell? ⟨q, 2, none⟩ = some (.slice AX lx cX) := by rw [hw4]; exact s2_keep (l := [b']) HS3.out ((But.refl _ _).setCell (by simp) _) (fun hm => HQN.out.2 (by simp at hm; rw [hm]; exact fp_b))
    clear hS3 hbn hqn hc3 hf3 hX4 hk4 hf4 hw4
    have HBO4 : Hid (Below lo w w4.drew) := (HK4.out.below HLO.out (fun i hi => HST.out.x.low hi)).drew
    go_wp2
    go_region_held3 (fun w' => w'.cell? ⟨q, 1, none⟩ = some (.int .i64 k) ∧ w'.cell? ⟨q, 2, none⟩ = some (.slice AX lx cX))
      (first | assumption | exact s2_keep (l := []) hcc (But.refl [] w4).drew (by simp) | exact hS5 | exact hS6)
      (first
        | (go_at_call 18
           rw [HLX.out]
           refine (of_c AX cX xs _ (rd_below HX.out HBO4.out HLO.out) HXL.out).mono ?_
           rw [← HLX.out]
           rintro e w5 ⟨rfl, hb5⟩
           rw [HXE.out]
           have HB5 : Hid (But [] w4 w5) := (But.refl [] w4).drew.trans hb5
           have hS5 := s2_keep (l := []) hcc HB5.out (by simp)
           clear hb5)
        | (go_at_call 17
           refine (write_c k x (HD4.out.keep0 HB5.out) HK.out (by have := HW.out; omega) (by have h1 := HLO.out; have h2 := HK4.out.size; have h3 := HB5.out.size; omega)).mono ?_
           rintro e w6 ⟨rfl, u, hD6, hk6, hf6⟩
           have HD6 : Hid (DkAt tP w6 lo b bl cl n u L (W ++ [(k, x)])) := hD6
           have HK6 : Hid (But (fp b bl v) w5 w6) := hk6
           have HF6 : Hid (∀ g ∈ fp b bl u, g ∈ fp b bl v ∨ w5.heap.size ≤ g) := hf6
           have HX6 : Hid (DkAt tR w6 lo b' bl' cl' n u' L (W ++ [(k, x)])) := (HX4.out.keep0 HB5.out).keep hk6 (fun i hi hm => by
             rcases HF4.out i hi with h1 | h1
             · exact HST.out.ap i hm h1
             · have := HST.out.d.lt hm
               omega)
           have hS6 := s2_keep hS5 hk6 HQN.out.1
           clear hD6 hk6 hf6)
        | (go_at_call 13
           refine (rin_c k HX6.out).mono ?_
           rintro e w7 ⟨rfl, rfl⟩
           rw [inB_yes HK.out]))
    clear hcc hS5 hS6
    go_wp2
    go_ret
    refine ⟨rfl, u, u', L, W ++ [(k, x)], ⟨HD6.out, HX6.out, fun i hi hm => ?_⟩, by simp, ?_⟩
    · have h5 := HB5.out.size
      have h4 := HK4.out.size
      rcases HF6.out i hi with h1 | h1
      · rcases HF4.out i hm with h2 | h2
        · exact HST.out.ap i h1 h2
        · have := HST.out.d.lt h1
          omega
      · have := HX4.out.lt hm
        omega
    · have h5 := HB5.out.size
      have h4 := HK4.out.size
      have h0 := HLO.out
      exact ((HK4.out.below HLO.out (fun i hi => HST.out.x.low hi)).trans (HB5.out.below (by omega) (by simp))).trans (HK6.out.below (by omega) (fun i hi => HST.out.d.low hi))
  | false =>
    have HIN : Hid (inB n B = false) := hin
    clear hin
    have hcc : w1.cell? ⟨q, 1, none⟩ = some (.int .i64 B) ∧ w1.cell? ⟨q, 2, none⟩ = some (.slice AX lx cX) := ⟨HBX.out.b, HBX.out.x⟩
    clear hbb
    go_wp2
    go_region_held3 (fun w' => w'.cell? ⟨q, 1, none⟩ = some (.int .i64 B) ∧ w'.cell? ⟨q, 2, none⟩ = some (.slice AX lx cX))
      (first | assumption | exact s2_keep (l := []) hcc (But.refl [] w1).drew (by simp) | exact hS5 | exact hS6)
      (first
        | (go_at_call 18
           rw [HLX.out]
           refine (of_c AX cX xs _ (rd_below HX.out HBO.out HLO.out) HXL.out).mono ?_
           rw [← HLX.out]
           rintro e w5 ⟨rfl, hb5⟩
           have HB5 : Hid (But [] w1 w5) := (But.refl [] w1).drew.trans hb5
           have hS5 := s2_keep (l := []) hcc HB5.out (by simp)
           clear hb5)
        | (go_at_call 17
           refine (write_no B _ (HS1.out.d.keep0 HB5.out) HIN.out).mono ?_
           rintro e w6 ⟨rfl, hk6⟩
           have HK6 : Hid (But [] w5 w6) := hk6
           have hS6 := s2_keep hS5 hk6 (by simp)
           clear hk6)
        | (go_at_call 13
           refine (rin_c B ((HS1.out.x.keep0 HB5.out).keep0 HK6.out)).mono ?_
           rintro e w7 ⟨rfl, rfl⟩
           rw [HIN.out]))
    clear hcc hS5 hS6
    go_wp2
    go_ret
    exact ⟨rfl, v, v', L, W, (HS1.out.keep0 HB5.out).keep0 HK6.out, by omega, (((HB1.out.trans HB5.out).trans HK6.out)).below HLO.out (by simp)⟩
set_option maxHeartbeats 4000000 in
theorem does_w1 (B : Int) (AX : Option Addr) (cX : Nat) (xs : List Int) (AK : Option Addr) (lK cK : Nat) (h : St w lo b bl cl v b' bl' cl' v' n L W) (hW : W.length ≤ 900) (hX : Rd .u8 w 0 lo AX xs) (hxl : xs.length ≤ 9223372036854775807) :
    Calls Try.prog 10 #[.pointer (some ⟨b, 0, none⟩), .pointer (some ⟨b', 0, none⟩), .agg #[.int .i64 1, .int .i64 B, .slice AX xs.length cX, .slice AK lK cK]] w fun e w' => e = .returned (.bool true) ∧ Did w lo b bl cl b' bl' cl' n (W.length + 1) w' := by
  have HX : Hid (Rd .u8 w 0 lo AX xs) := hX
  have HST : Hid (St w lo b bl cl v b' bl' cl' v' n L W) := h
  have HW : Hid (W.length ≤ 900) := hW
  have HXL : Hid (xs.length ≤ 9223372036854775807) := hxl
  have HLO : Hid (lo ≤ w.heap.size) := h.lo_le
  have hbx := Box.new w 1 B AX xs.length cX AK lK cK
  have HB1 : Hid (But [] w (w.alloc (.cells #[.int .i64 1, .int .i64 B, .slice AX xs.length cX, .slice AK lK cK] 31))) := (But.refl [] w).alloc _
  obtain ⟨q, hq⟩ : ∃ q, q = w.heap.size := ⟨_, rfl⟩
  have HQ : Hid (q = w.heap.size) := hq
  have HQN : Hid (q ∉ fp b bl v ∧ q ∉ fp b' bl' v') := ⟨fun hm => by have := h.d.lt hm; omega, fun hm => by have := h.x.lt hm; omega⟩
  obtain ⟨lx, hlx⟩ : ∃ lx, lx = xs.length := ⟨_, rfl⟩
  have HLX : Hid (lx = xs.length) := hlx
  rw [← hq] at hbx
  rw [← hlx] at hbx HB1 ⊢
  clear h hX hW hxl hlx
  go_enter Try.func10, Try.ntmps10
  go_upto_region 1 with fail
  rw [← hq]
  generalize w.alloc (.cells #[.int .i64 1, .int .i64 B, .slice AX lx cX, .slice AK lK cK] 31) = w1 at hbx HB1 ⊢
  have HBX : Hid (Box w1 q 1 B AX lx cX AK lK cK) := hbx
  have hbk := hbx.k
  have HS1 : Hid (St w1 lo b bl cl v b' bl' cl' v' n L W) := HST.out.keep0 HB1.out
  clear hbx hq
  go_upto_region 7 with fail
  clear hbk
  have hbb := HBX.out.b
  go_wp2_with fail
  refine (rin_c B HS1.out.x).mono ?_
  rintro e w2 ⟨rfl, rfl⟩
  have HBO : Hid (Below lo w w1.drew) := (HB1.out.below HLO.out (by simp)).drew
  cases hin : inB n B with
  | true =>
    obtain ⟨k, rfl, hk⟩ := inB_of hin
    have HK : Hid (k < n) := hk
    clear hin hk
    go_wp2
    refine till_begin (fun w' => w'.cell? ⟨b', 1, none⟩ = some v' ∧ w'.cell? ⟨q, 1, none⟩ = some (.int .i64 k) ∧ w'.cell? ⟨q, 2, none⟩ = some (.slice AX lx cX)) 15 (by kernel_rfl) ?_
    have hS := s3_keep (w' := w1.drew) (l := []) ⟨HS1.out.x.c1, HBX.out.b, HBX.out.x⟩ (But.refl [] w1).drew (by simp) (by simp)
    refine till_take 0 (some 19) (.pointer (some ⟨b', 0, none⟩)) rfl rfl (by kernel_rfl) (by kernel_rfl) (by kernel_rfl) (by kernel_rfl) (by decide) (fun _ _ _ h => h) (Or.inl ⟨by rfl, fun w' hw' => by go_simp⟩) hS ?_
    simp only [Act.put, List.setIfInBounds_toArray, List.set_cons_zero, List.set_cons_succ]
    refine till_take 1 (some 20) (.pointer (some ⟨b', 0, none⟩)) rfl rfl (by kernel_rfl) (by kernel_rfl) (by kernel_rfl) (by kernel_rfl) (by decide) (fun _ _ _ h => h) (Or.inl ⟨by rfl, fun w' hw' => by go_simp⟩) hS ?_
    simp only [Act.put, List.setIfInBounds_toArray, List.set_cons_zero, List.set_cons_succ]
    refine till_take 2 (some 21) (.pointer (some ⟨b', 0, none⟩)) rfl rfl (by kernel_rfl) (by kernel_rfl) (by kernel_rfl) (by kernel_rfl) (by decide) (fun _ _ _ h => h) (Or.inl ⟨by rfl, fun w' hw' => by go_simp⟩) hS ?_
    simp only [Act.put, List.setIfInBounds_toArray, List.set_cons_zero, List.set_cons_succ]
    refine till_take 3 (some 22) (.pointer (some ⟨b', 1, none⟩)) rfl rfl (by kernel_rfl) (by kernel_rfl) (by kernel_rfl) (by kernel_rfl) (by decide) (fun _ _ _ h => h) (Or.inl ⟨by rfl, fun w' hw' => by go_simp⟩) hS ?_
    simp only [Act.put, List.setIfInBounds_toArray, List.set_cons_zero, List.set_cons_succ]
    refine till_take 4 (some 23) (v') rfl rfl (by kernel_rfl) (by kernel_rfl) (by kernel_rfl) (by kernel_rfl) (by decide) (fun _ _ _ h => h) (Or.inl ⟨by rfl, fun w' hw' => by obtain ⟨hw1, -⟩ := hw'; go_simp⟩) hS ?_
    simp only [Act.put, List.setIfInBounds_toArray, List.set_cons_zero, List.set_cons_succ]
    refine till_take 5 (some 24) (.pointer (some ⟨q, 1, none⟩)) rfl rfl (by kernel_rfl) (by kernel_rfl) (by kernel_rfl) (by kernel_rfl) (by decide) (fun _ _ _ h => h) (Or.inl ⟨by rfl, fun w' hw' => by go_simp⟩) hS ?_
    simp only [Act.put, List.setIfInBounds_toArray, List.set_cons_zero, List.set_cons_succ]
    refine till_take 6 (some 25) (.int .i64 k) rfl rfl (by kernel_rfl) (by kernel_rfl) (by kernel_rfl) (by kernel_rfl) (by decide) (fun _ _ _ h => h) (Or.inl ⟨by rfl, fun w' hw' => by obtain ⟨-, hw1, -⟩ := hw'; go_simp⟩) hS ?_
    simp only [Act.put, List.setIfInBounds_toArray, List.set_cons_zero, List.set_cons_succ]
    refine till_take 7 (some 26) (.pointer (some ⟨q, 2, none⟩)) rfl rfl (by kernel_rfl) (by kernel_rfl) (by kernel_rfl) (by kernel_rfl) (by decide) (fun _ _ _ h => h) (Or.inl ⟨by rfl, fun w' hw' => by go_simp⟩) hS ?_
    simp only [Act.put, List.setIfInBounds_toArray, List.set_cons_zero, List.set_cons_succ]
    refine till_take 8 (some 27) (.slice AX lx cX) rfl rfl (by kernel_rfl) (by kernel_rfl) (by kernel_rfl) (by kernel_rfl) (by decide) (fun _ _ _ h => h) (Or.inl ⟨by rfl, fun w' hw' => by obtain ⟨-, -, hw1⟩ := hw'; go_simp⟩) hS ?_
    simp only [Act.put, List.setIfInBounds_toArray, List.set_cons_zero, List.set_cons_succ]
    refine till_one 9 rfl (by kernel_rfl) (by rfl) ?_
    go_simp
    go_at_call 18
    rw [HLX.out]
    refine (of_c AX cX xs _ (rd_below HX.out HBO.out HLO.out) HXL.out).mono ?_
    rw [← HLX.out]
    rintro e w2 ⟨rfl, hb2⟩
    have HB2 : Hid (But [] w1 w2) := (But.refl [] w1).drew.trans hb2
    have hS2 := s3_keep hS hb2 (by simp) (by simp)
    obtain ⟨x, hx⟩ : ∃ x, x = ofD xs := ⟨_, rfl⟩
    rw [← hx]
    have HXE : Hid (ofD xs = x) := hx.symm
    clear hb2 hS hx
    refine ⟨hS2, ?_⟩
    refine till_read 10 (some 29) (.agg (wv (k, x)).toArray) rfl rfl (by kernel_rfl) (yieldsIf_build (by rfl) 65 [(0, .tmp 25), (1, .tmp 28)] rfl _ [(0, .int .i64 k), (1, .agg (dv x).toArray)] rfl (bRWriteP k x)) hS2 ?_
    simp only [Act.put, List.setIfInBounds_toArray, List.set_cons_zero, List.set_cons_succ]
    refine till_one 11 rfl (by kernel_rfl) (by rfl) ?_
    refine wp_lit1 _ _ _ rfl (some 30) rfl (wv (k, x)) rfl (lRWrite (k, x)) ⟨fun _ => s3_keep hS2 ((But.refl [] w2).alloc _) (by simp) (by simp), ?_⟩
    simp only [Act.put, List.setIfInBounds_toArray, List.set_cons_zero, List.set_cons_succ]
    refine till_one 12 rfl (by kernel_rfl) (by rfl) ?_
    refine push_wp _ _ _ _ rfl (some 31) rfl tR Try.underlying61 infRWrite lo v' W rfl (own_keep (HS1.out.x.keep0 HB2.out).own ((But.refl [] w2).alloc _) (by simp)) w2.heap.size (k, x) rfl (new_range _ _ _) (by have := HW.out; omega) (by have h1 := HLO.out; have h2 := HB1.out.size; have h3 := HB2.out.size; simp; omega) ?_
    intro g cap w3 hown hgrow hat
    have HO : Hid (w3.ownsRow lo tR 65 (.slice (some ⟨g, 0, none⟩) (W.length + 1) cap) (W ++ [(k, x)]).length (cat (W ++ [(k, x)]))) := hown
    have HGR : Hid (But v'.ownBlock.toList w2 w3) := ((But.refl _ w2).alloc _).trans (But.of_grown hgrow)
    have HAT : Hid (v'.ownBlock = some g ∨ g = w2.heap.size + 1) := by (show _ ∨ _; simpa using hat)
    have hbn : b' ∉ v'.ownBlock.toList := fun hm => (HS1.out.x.vne b' (by simpa using hm)).1 rfl
    have hqn : q ∉ v'.ownBlock.toList := fun hm => HQN.out.2 (fp_v (by simpa using hm))
    have hf2 := (HS1.out.x.keep0 HB2.out).f1
    have hc2 := (HS1.out.x.keep0 HB2.out).c1
    have hc3 : w3.cell? ⟨b', 1, none⟩ = some v' := cell_keep hc2 HGR.out hbn
    have hf3 : w3.frozen? ⟨b', 1, none⟩ = false := (HGR.out.frozen (p := ⟨b', 1, none⟩) (lt_of_cell hc2) hbn).trans hf2
    have hS3 := s3_keep hS2 HGR.out hbn hqn
    clear hown hgrow hat hS2 hf2 hc2
    refine ⟨fun _ => hS3, ?_⟩
    simp only [Act.put, List.setIfInBounds_toArray, List.set_cons_zero, List.set_cons_succ]
    refine till_read 13 (some 32) (.pointer (some ⟨b', 0, none⟩)) rfl rfl (by kernel_rfl) (Or.inl ⟨by rfl, fun w' hw' => by go_simp⟩) hS3 ?_
    simp only [Act.put, List.setIfInBounds_toArray, List.set_cons_zero, List.set_cons_succ]
    refine till_read 14 (some 33) (.pointer (some ⟨b', 1, none⟩)) rfl rfl (by kernel_rfl) (Or.inl ⟨by rfl, fun w' hw' => by go_simp⟩) hS3 ?_
    simp only [Act.put, List.setIfInBounds_toArray, List.set_cons_zero, List.set_cons_succ]
    refine till_one 15 rfl (by kernel_rfl) (by rfl) ?_
    go_simp
    refine ⟨by kernel_rfl, ?_⟩
    have HB12 : Hid (But [] w w2) := HB1.out.trans HB2.out
    obtain ⟨u', hX4, hk4, hf4⟩ := push_done HST.out.x HB12.out HK.out HGR.out HO.out HAT.out
    have HS3 : Hid (w3.cell? ⟨q, 1, none⟩ = some (.int .i64 k) ∧ w3.cell? ⟨q, 2, none⟩ = some (.slice AX lx cX)) := hS3.2
    obtain ⟨w4, hw4⟩ : ∃ w4, w4 = w3.setCell ⟨b', 1, none⟩ (.slice (some ⟨g, 0, none⟩) (W.length + 1) cap) := ⟨_, rfl⟩
    rw [← hw4] at hX4 hk4 ⊢
    have HX4 : Hid (DkAt tR w4 lo b' bl' cl' n u' L (W ++ [(k, x)])) := hX4
    have HK4 : Hid (But (fp b' bl' v') w w4) := hk4
    have HF4 : Hid (∀ g ∈ fp b' bl' u', g ∈ fp b' bl' v' ∨ w.heap.size ≤ g) := hf4
    have HD4 : Hid (DkAt tP w4 lo b bl cl n v L W) := HST.out.d.keep hk4 (fun i hi => HST.out.ap i hi)
    have hcc : w4.cell? ⟨q, 1, none⟩ = some (.int .i64 k) ∧ w4.cell? ⟨q, 2, none⟩ = some (.slice AX lx cX) := by rw [hw4]; exact s2_keep (l := [b']) HS3.out ((But.refl _ _).setCell (by simp) _) (fun hm => HQN.out.2 (by simp at hm; rw [hm]; exact fp_b))
    clear hS3 hbn hqn hc3 hf3 hX4 hk4 hf4 hw4
    have HBO4 : Hid (Below lo w w4.drew) := (HK4.out.below HLO.out (fun i hi => HST.out.x.low hi)).drew
    go_wp2
    go_region_held3 (fun w' => w'.cell? ⟨q, 1, none⟩ = some (.int .i64 k) ∧ w'.cell? ⟨q, 2, none⟩ = some (.slice AX lx cX))
      (first | assumption | exact s2_keep (l := []) hcc (But.refl [] w4).drew (by simp) | exact hS5 | exact hS6)
      (first
        | (go_at_call 18
           rw [HLX.out]
           refine (of_c AX cX xs _ (rd_below HX.out HBO4.out HLO.out) HXL.out).mono ?_
           rw [← HLX.out]
           rintro e w5 ⟨rfl, hb5⟩
           rw [HXE.out]
           have HB5 : Hid (But [] w4 w5) := (But.refl [] w4).drew.trans hb5
           have hS5 := s2_keep (l := []) hcc HB5.out (by simp)
           clear hb5)
        | (go_at_call 17
           refine (write_c k x (HD4.out.keep0 HB5.out) HK.out (by have := HW.out; omega) (by have h1 := HLO.out; have h2 := HK4.out.size; have h3 := HB5.out.size; omega)).mono ?_
           rintro e w6 ⟨rfl, u, hD6, hk6, hf6⟩
           have HD6 : Hid (DkAt tP w6 lo b bl cl n u L (W ++ [(k, x)])) := hD6
           have HK6 : Hid (But (fp b bl v) w5 w6) := hk6
           have HF6 : Hid (∀ g ∈ fp b bl u, g ∈ fp b bl v ∨ w5.heap.size ≤ g) := hf6
           have HX6 : Hid (DkAt tR w6 lo b' bl' cl' n u' L (W ++ [(k, x)])) := (HX4.out.keep0 HB5.out).keep hk6 (fun i hi hm => by
             rcases HF4.out i hi with h1 | h1
             · exact HST.out.ap i hm h1
             · have := HST.out.d.lt hm
               omega)
           have hS6 := s2_keep hS5 hk6 HQN.out.1
           clear hD6 hk6 hf6)
        | (go_at_call 13
           refine (rin_c k HX6.out).mono ?_
           rintro e w7 ⟨rfl, rfl⟩
           rw [inB_yes HK.out]))
    clear hcc hS5 hS6
    go_wp2
    go_ret
    refine ⟨rfl, u, u', L, W ++ [(k, x)], ⟨HD6.out, HX6.out, fun i hi hm => ?_⟩, by simp, ?_⟩
    · have h5 := HB5.out.size
      have h4 := HK4.out.size
      rcases HF6.out i hi with h1 | h1
      · rcases HF4.out i hm with h2 | h2
        · exact HST.out.ap i h1 h2
        · have := HST.out.d.lt h1
          omega
      · have := HX4.out.lt hm
        omega
    · have h5 := HB5.out.size
      have h4 := HK4.out.size
      have h0 := HLO.out
      exact ((HK4.out.below HLO.out (fun i hi => HST.out.x.low hi)).trans (HB5.out.below (by omega) (by simp))).trans (HK6.out.below (by omega) (fun i hi => HST.out.d.low hi))
  | false =>
    have HIN : Hid (inB n B = false) := hin
    clear hin
    have hcc : w1.cell? ⟨q, 1, none⟩ = some (.int .i64 B) ∧ w1.cell? ⟨q, 2, none⟩ = some (.slice AX lx cX) := ⟨HBX.out.b, HBX.out.x⟩
    clear hbb
    go_wp2
    go_region_held3 (fun w' => w'.cell? ⟨q, 1, none⟩ = some (.int .i64 B) ∧ w'.cell? ⟨q, 2, none⟩ = some (.slice AX lx cX))
      (first | assumption | exact s2_keep (l := []) hcc (But.refl [] w1).drew (by simp) | exact hS5 | exact hS6)
      (first
        | (go_at_call 18
           rw [HLX.out]
           refine (of_c AX cX xs _ (rd_below HX.out HBO.out HLO.out) HXL.out).mono ?_
           rw [← HLX.out]
           rintro e w5 ⟨rfl, hb5⟩
           have HB5 : Hid (But [] w1 w5) := (But.refl [] w1).drew.trans hb5
           have hS5 := s2_keep (l := []) hcc HB5.out (by simp)
           clear hb5)
        | (go_at_call 17
           refine (write_no B _ (HS1.out.d.keep0 HB5.out) HIN.out).mono ?_
           rintro e w6 ⟨rfl, hk6⟩
           have HK6 : Hid (But [] w5 w6) := hk6
           have hS6 := s2_keep hS5 hk6 (by simp)
           clear hk6)
        | (go_at_call 13
           refine (rin_c B ((HS1.out.x.keep0 HB5.out).keep0 HK6.out)).mono ?_
           rintro e w7 ⟨rfl, rfl⟩
           rw [HIN.out]))
    clear hcc hS5 hS6
    go_wp2
    go_ret
    exact ⟨rfl, v, v', L, W, (HS1.out.keep0 HB5.out).keep0 HK6.out, by omega, (((HB1.out.trans HB5.out).trans HK6.out)).below HLO.out (by simp)⟩
set_option maxHeartbeats 4000000 in
theorem does_w2 (B : Int) (AX : Option Addr) (cX : Nat) (xs : List Int) (AK : Option Addr) (lK cK : Nat) (h : St w lo b bl cl v b' bl' cl' v' n L W) (hW : W.length ≤ 900) (hX : Rd .u8 w 0 lo AX xs) (hxl : xs.length ≤ 9223372036854775807) :
    Calls Try.prog 10 #[.pointer (some ⟨b, 0, none⟩), .pointer (some ⟨b', 0, none⟩), .agg #[.int .i64 2, .int .i64 B, .slice AX xs.length cX, .slice AK lK cK]] w fun e w' => e = .returned (.bool true) ∧ Did w lo b bl cl b' bl' cl' n (W.length + 1) w' := by
  have HX : Hid (Rd .u8 w 0 lo AX xs) := hX
  have HST : Hid (St w lo b bl cl v b' bl' cl' v' n L W) := h
  have HW : Hid (W.length ≤ 900) := hW
  have HXL : Hid (xs.length ≤ 9223372036854775807) := hxl
  have HLO : Hid (lo ≤ w.heap.size) := h.lo_le
  have hbx := Box.new w 2 B AX xs.length cX AK lK cK
  have HB1 : Hid (But [] w (w.alloc (.cells #[.int .i64 2, .int .i64 B, .slice AX xs.length cX, .slice AK lK cK] 31))) := (But.refl [] w).alloc _
  obtain ⟨q, hq⟩ : ∃ q, q = w.heap.size := ⟨_, rfl⟩
  have HQ : Hid (q = w.heap.size) := hq
  have HQN : Hid (q ∉ fp b bl v ∧ q ∉ fp b' bl' v') := ⟨fun hm => by have := h.d.lt hm; omega, fun hm => by have := h.x.lt hm; omega⟩
  obtain ⟨lx, hlx⟩ : ∃ lx, lx = xs.length := ⟨_, rfl⟩
  have HLX : Hid (lx = xs.length) := hlx
  rw [← hq] at hbx
  rw [← hlx] at hbx HB1 ⊢
  clear h hX hW hxl hlx
  go_enter Try.func10, Try.ntmps10
  go_upto_region 1 with fail
  rw [← hq]
  generalize w.alloc (.cells #[.int .i64 2, .int .i64 B, .slice AX lx cX, .slice AK lK cK] 31) = w1 at hbx HB1 ⊢
  have HBX : Hid (Box w1 q 2 B AX lx cX AK lK cK) := hbx
  have hbk := hbx.k
  have HS1 : Hid (St w1 lo b bl cl v b' bl' cl' v' n L W) := HST.out.keep0 HB1.out
  clear hbx hq
  go_upto_region 7 with fail
  clear hbk
  have hbb := HBX.out.b
  go_wp2_with fail
  refine (rin_c B HS1.out.x).mono ?_
  rintro e w2 ⟨rfl, rfl⟩
  have HBO : Hid (Below lo w w1.drew) := (HB1.out.below HLO.out (by simp)).drew
  cases hin : inB n B with
  | true =>
    obtain ⟨k, rfl, hk⟩ := inB_of hin
    have HK : Hid (k < n) := hk
    clear hin hk
    go_wp2
    refine till_begin (fun w' => w'.cell? ⟨b', 1, none⟩ = some v' ∧ w'.cell? ⟨q, 1, none⟩ = some (.int .i64 k) ∧ w'.cell? ⟨q, 2, none⟩ = some (.slice AX lx cX)) 15 (by kernel_rfl) ?_
    have hS := s3_keep (w' := w1.drew) (l := []) ⟨HS1.out.x.c1, HBX.out.b, HBX.out.x⟩ (But.refl [] w1).drew (by simp) (by simp)
    refine till_take 0 (some 19) (.pointer (some ⟨b', 0, none⟩)) rfl rfl (by kernel_rfl) (by kernel_rfl) (by kernel_rfl) (by kernel_rfl) (by decide) (fun _ _ _ h => h) (Or.inl ⟨by rfl, fun w' hw' => by go_simp⟩) hS ?_
    simp only [Act.put, List.setIfInBounds_toArray, List.set_cons_zero, List.set_cons_succ]
    refine till_take 1 (some 20) (.pointer (some ⟨b', 0, none⟩)) rfl rfl (by kernel_rfl) (by kernel_rfl) (by kernel_rfl) (by kernel_rfl) (by decide) (fun _ _ _ h => h) (Or.inl ⟨by rfl, fun w' hw' => by go_simp⟩) hS ?_
    simp only [Act.put, List.setIfInBounds_toArray, List.set_cons_zero, List.set_cons_succ]
    refine till_take 2 (some 21) (.pointer (some ⟨b', 0, none⟩)) rfl rfl (by kernel_rfl) (by kernel_rfl) (by kernel_rfl) (by kernel_rfl) (by decide) (fun _ _ _ h => h) (Or.inl ⟨by rfl, fun w' hw' => by go_simp⟩) hS ?_
    simp only [Act.put, List.setIfInBounds_toArray, List.set_cons_zero, List.set_cons_succ]
    refine till_take 3 (some 22) (.pointer (some ⟨b', 1, none⟩)) rfl rfl (by kernel_rfl) (by kernel_rfl) (by kernel_rfl) (by kernel_rfl) (by decide) (fun _ _ _ h => h) (Or.inl ⟨by rfl, fun w' hw' => by go_simp⟩) hS ?_
    simp only [Act.put, List.setIfInBounds_toArray, List.set_cons_zero, List.set_cons_succ]
    refine till_take 4 (some 23) (v') rfl rfl (by kernel_rfl) (by kernel_rfl) (by kernel_rfl) (by kernel_rfl) (by decide) (fun _ _ _ h => h) (Or.inl ⟨by rfl, fun w' hw' => by obtain ⟨hw1, -⟩ := hw'; go_simp⟩) hS ?_
    simp only [Act.put, List.setIfInBounds_toArray, List.set_cons_zero, List.set_cons_succ]
    refine till_take 5 (some 24) (.pointer (some ⟨q, 1, none⟩)) rfl rfl (by kernel_rfl) (by kernel_rfl) (by kernel_rfl) (by kernel_rfl) (by decide) (fun _ _ _ h => h) (Or.inl ⟨by rfl, fun w' hw' => by go_simp⟩) hS ?_
    simp only [Act.put, List.setIfInBounds_toArray, List.set_cons_zero, List.set_cons_succ]
    refine till_take 6 (some 25) (.int .i64 k) rfl rfl (by kernel_rfl) (by kernel_rfl) (by kernel_rfl) (by kernel_rfl) (by decide) (fun _ _ _ h => h) (Or.inl ⟨by rfl, fun w' hw' => by obtain ⟨-, hw1, -⟩ := hw'; go_simp⟩) hS ?_
    simp only [Act.put, List.setIfInBounds_toArray, List.set_cons_zero, List.set_cons_succ]
    refine till_take 7 (some 26) (.pointer (some ⟨q, 2, none⟩)) rfl rfl (by kernel_rfl) (by kernel_rfl) (by kernel_rfl) (by kernel_rfl) (by decide) (fun _ _ _ h => h) (Or.inl ⟨by rfl, fun w' hw' => by go_simp⟩) hS ?_
    simp only [Act.put, List.setIfInBounds_toArray, List.set_cons_zero, List.set_cons_succ]
    refine till_take 8 (some 27) (.slice AX lx cX) rfl rfl (by kernel_rfl) (by kernel_rfl) (by kernel_rfl) (by kernel_rfl) (by decide) (fun _ _ _ h => h) (Or.inl ⟨by rfl, fun w' hw' => by obtain ⟨-, -, hw1⟩ := hw'; go_simp⟩) hS ?_
    simp only [Act.put, List.setIfInBounds_toArray, List.set_cons_zero, List.set_cons_succ]
    refine till_one 9 rfl (by kernel_rfl) (by rfl) ?_
    go_simp
    go_at_call 18
    rw [HLX.out]
    refine (of_c AX cX xs _ (rd_below HX.out HBO.out HLO.out) HXL.out).mono ?_
    rw [← HLX.out]
    rintro e w2 ⟨rfl, hb2⟩
    have HB2 : Hid (But [] w1 w2) := (But.refl [] w1).drew.trans hb2
    have hS2 := s3_keep hS hb2 (by simp) (by simp)
    obtain ⟨x, hx⟩ : ∃ x, x = ofD xs := ⟨_, rfl⟩
    rw [← hx]
    have HXE : Hid (ofD xs = x) := hx.symm
    clear hb2 hS hx
    refine ⟨hS2, ?_⟩
    refine till_read 10 (some 29) (.agg (wv (k, x)).toArray) rfl rfl (by kernel_rfl) (yieldsIf_build (by rfl) 65 [(0, .tmp 25), (1, .tmp 28)] rfl _ [(0, .int .i64 k), (1, .agg (dv x).toArray)] rfl (bRWriteP k x)) hS2 ?_
    simp only [Act.put, List.setIfInBounds_toArray, List.set_cons_zero, List.set_cons_succ]
    refine till_one 11 rfl (by kernel_rfl) (by rfl) ?_
    refine wp_lit1 _ _ _ rfl (some 30) rfl (wv (k, x)) rfl (lRWrite (k, x)) ⟨fun _ => s3_keep hS2 ((But.refl [] w2).alloc _) (by simp) (by simp), ?_⟩
    simp only [Act.put, List.setIfInBounds_toArray, List.set_cons_zero, List.set_cons_succ]
    refine till_one 12 rfl (by kernel_rfl) (by rfl) ?_
    refine push_wp _ _ _ _ rfl (some 31) rfl tR Try.underlying61 infRWrite lo v' W rfl (own_keep (HS1.out.x.keep0 HB2.out).own ((But.refl [] w2).alloc _) (by simp)) w2.heap.size (k, x) rfl (new_range _ _ _) (by have := HW.out; omega) (by have h1 := HLO.out; have h2 := HB1.out.size; have h3 := HB2.out.size; simp; omega) ?_
    intro g cap w3 hown hgrow hat
    have HO : Hid (w3.ownsRow lo tR 65 (.slice (some ⟨g, 0, none⟩) (W.length + 1) cap) (W ++ [(k, x)]).length (cat (W ++ [(k, x)]))) := hown
    have HGR : Hid (But v'.ownBlock.toList w2 w3) := ((But.refl _ w2).alloc _).trans (But.of_grown hgrow)
    have HAT : Hid (v'.ownBlock = some g ∨ g = w2.heap.size + 1) := by (show _ ∨ _; simpa using hat)
    have hbn : b' ∉ v'.ownBlock.toList := fun hm => (HS1.out.x.vne b' (by simpa using hm)).1 rfl
    have hqn : q ∉ v'.ownBlock.toList := fun hm => HQN.out.2 (fp_v (by simpa using hm))
    have hf2 := (HS1.out.x.keep0 HB2.out).f1
    have hc2 := (HS1.out.x.keep0 HB2.out).c1
    have hc3 : w3.cell? ⟨b', 1, none⟩ = some v' := cell_keep hc2 HGR.out hbn
    have hf3 : w3.frozen? ⟨b', 1, none⟩ = false := (HGR.out.frozen (p := ⟨b', 1, none⟩) (lt_of_cell hc2) hbn).trans hf2
    have hS3 := s3_keep hS2 HGR.out hbn hqn
    clear hown hgrow hat hS2 hf2 hc2
    refine ⟨fun _ => hS3, ?_⟩
    simp only [Act.put, List.setIfInBounds_toArray, List.set_cons_zero, List.set_cons_succ]
    refine till_read 13 (some 32) (.pointer (some ⟨b', 0, none⟩)) rfl rfl (by kernel_rfl) (Or.inl ⟨by rfl, fun w' hw' => by go_simp⟩) hS3 ?_
    simp only [Act.put, List.setIfInBounds_toArray, List.set_cons_zero, List.set_cons_succ]
    refine till_read 14 (some 33) (.pointer (some ⟨b', 1, none⟩)) rfl rfl (by kernel_rfl) (Or.inl ⟨by rfl, fun w' hw' => by go_simp⟩) hS3 ?_
    simp only [Act.put, List.setIfInBounds_toArray, List.set_cons_zero, List.set_cons_succ]
    refine till_one 15 rfl (by kernel_rfl) (by rfl) ?_
    go_simp
    refine ⟨by kernel_rfl, ?_⟩
    have HB12 : Hid (But [] w w2) := HB1.out.trans HB2.out
    obtain ⟨u', hX4, hk4, hf4⟩ := push_done HST.out.x HB12.out HK.out HGR.out HO.out HAT.out
    have HS3 : Hid (w3.cell? ⟨q, 1, none⟩ = some (.int .i64 k) ∧ w3.cell? ⟨q, 2, none⟩ = some (.slice AX lx cX)) := hS3.2
    obtain ⟨w4, hw4⟩ : ∃ w4, w4 = w3.setCell ⟨b', 1, none⟩ (.slice (some ⟨g, 0, none⟩) (W.length + 1) cap) := ⟨_, rfl⟩
    rw [← hw4] at hX4 hk4 ⊢
    have HX4 : Hid (DkAt tR w4 lo b' bl' cl' n u' L (W ++ [(k, x)])) := hX4
    have HK4 : Hid (But (fp b' bl' v') w w4) := hk4
    have HF4 : Hid (∀ g ∈ fp b' bl' u', g ∈ fp b' bl' v' ∨ w.heap.size ≤ g) := hf4
    have HD4 : Hid (DkAt tP w4 lo b bl cl n v L W) := HST.out.d.keep hk4 (fun i hi => HST.out.ap i hi)
    have hcc : w4.cell? ⟨q, 1, none⟩ = some (.int .i64 k) ∧ w4.cell? ⟨q, 2, none⟩ = some (.slice AX lx cX) := by rw [hw4]; exact s2_keep (l := [b']) HS3.out ((But.refl _ _).setCell (by simp) _) (fun hm => HQN.out.2 (by simp at hm; rw [hm]; exact fp_b))
    clear hS3 hbn hqn hc3 hf3 hX4 hk4 hf4 hw4
    have HBO4 : Hid (Below lo w w4.drew) := (HK4.out.below HLO.out (fun i hi => HST.out.x.low hi)).drew
    go_wp2
    go_region_held3 (fun w' => w'.cell? ⟨q, 1, none⟩ = some (.int .i64 k) ∧ w'.cell? ⟨q, 2, none⟩ = some (.slice AX lx cX))
      (first | assumption | exact s2_keep (l := []) hcc (But.refl [] w4).drew (by simp) | exact hS5 | exact hS6)
      (first
        | (go_at_call 18
           rw [HLX.out]
           refine (of_c AX cX xs _ (rd_below HX.out HBO4.out HLO.out) HXL.out).mono ?_
           rw [← HLX.out]
           rintro e w5 ⟨rfl, hb5⟩
           rw [HXE.out]
           have HB5 : Hid (But [] w4 w5) := (But.refl [] w4).drew.trans hb5
           have hS5 := s2_keep (l := []) hcc HB5.out (by simp)
           clear hb5)
        | (go_at_call 17
           refine (write_c k x (HD4.out.keep0 HB5.out) HK.out (by have := HW.out; omega) (by have h1 := HLO.out; have h2 := HK4.out.size; have h3 := HB5.out.size; omega)).mono ?_
           rintro e w6 ⟨rfl, u, hD6, hk6, hf6⟩
           have HD6 : Hid (DkAt tP w6 lo b bl cl n u L (W ++ [(k, x)])) := hD6
           have HK6 : Hid (But (fp b bl v) w5 w6) := hk6
           have HF6 : Hid (∀ g ∈ fp b bl u, g ∈ fp b bl v ∨ w5.heap.size ≤ g) := hf6
           have HX6 : Hid (DkAt tR w6 lo b' bl' cl' n u' L (W ++ [(k, x)])) := (HX4.out.keep0 HB5.out).keep hk6 (fun i hi hm => by
             rcases HF4.out i hi with h1 | h1
             · exact HST.out.ap i hm h1
             · have := HST.out.d.lt hm
               omega)
           have hS6 := s2_keep hS5 hk6 HQN.out.1
           clear hD6 hk6 hf6)
        | (go_at_call 13
           refine (rin_c k HX6.out).mono ?_
           rintro e w7 ⟨rfl, rfl⟩
           rw [inB_yes HK.out]))
    clear hcc hS5 hS6
    go_wp2
    go_ret
    refine ⟨rfl, u, u', L, W ++ [(k, x)], ⟨HD6.out, HX6.out, fun i hi hm => ?_⟩, by simp, ?_⟩
    · have h5 := HB5.out.size
      have h4 := HK4.out.size
      rcases HF6.out i hi with h1 | h1
      · rcases HF4.out i hm with h2 | h2
        · exact HST.out.ap i h1 h2
        · have := HST.out.d.lt h1
          omega
      · have := HX4.out.lt hm
        omega
    · have h5 := HB5.out.size
      have h4 := HK4.out.size
      have h0 := HLO.out
      exact ((HK4.out.below HLO.out (fun i hi => HST.out.x.low hi)).trans (HB5.out.below (by omega) (by simp))).trans (HK6.out.below (by omega) (fun i hi => HST.out.d.low hi))
  | false =>
    have HIN : Hid (inB n B = false) := hin
    clear hin
    have hcc : w1.cell? ⟨q, 1, none⟩ = some (.int .i64 B) ∧ w1.cell? ⟨q, 2, none⟩ = some (.slice AX lx cX) := ⟨HBX.out.b, HBX.out.x⟩
    clear hbb
    go_wp2
    go_region_held3 (fun w' => w'.cell? ⟨q, 1, none⟩ = some (.int .i64 B) ∧ w'.cell? ⟨q, 2, none⟩ = some (.slice AX lx cX))
      (first | assumption | exact s2_keep (l := []) hcc (But.refl [] w1).drew (by simp) | exact hS5 | exact hS6)
      (first
        | (go_at_call 18
           rw [HLX.out]
           refine (of_c AX cX xs _ (rd_below HX.out HBO.out HLO.out) HXL.out).mono ?_
           rw [← HLX.out]
           rintro e w5 ⟨rfl, hb5⟩
           have HB5 : Hid (But [] w1 w5) := (But.refl [] w1).drew.trans hb5
           have hS5 := s2_keep (l := []) hcc HB5.out (by simp)
           clear hb5)
        | (go_at_call 17
           refine (write_no B _ (HS1.out.d.keep0 HB5.out) HIN.out).mono ?_
           rintro e w6 ⟨rfl, hk6⟩
           have HK6 : Hid (But [] w5 w6) := hk6
           have hS6 := s2_keep hS5 hk6 (by simp)
           clear hk6)
        | (go_at_call 13
           refine (rin_c B ((HS1.out.x.keep0 HB5.out).keep0 HK6.out)).mono ?_
           rintro e w7 ⟨rfl, rfl⟩
           rw [HIN.out]))
    clear hcc hS5 hS6
    go_wp2
    go_ret
    exact ⟨rfl, v, v', L, W, (HS1.out.keep0 HB5.out).keep0 HK6.out, by omega, (((HB1.out.trans HB5.out).trans HK6.out)).below HLO.out (by simp)⟩
set_option maxHeartbeats 4000000 in
theorem does_w3 (B : Int) (AX : Option Addr) (cX : Nat) (xs : List Int) (AK : Option Addr) (lK cK : Nat) (h : St w lo b bl cl v b' bl' cl' v' n L W) (hW : W.length ≤ 900) (hX : Rd .u8 w 0 lo AX xs) (hxl : xs.length ≤ 9223372036854775807) :
    Calls Try.prog 10 #[.pointer (some ⟨b, 0, none⟩), .pointer (some ⟨b', 0, none⟩), .agg #[.int .i64 3, .int .i64 B, .slice AX xs.length cX, .slice AK lK cK]] w fun e w' => e = .returned (.bool true) ∧ Did w lo b bl cl b' bl' cl' n (W.length + 1) w' := by
  have HX : Hid (Rd .u8 w 0 lo AX xs) := hX
  have HST : Hid (St w lo b bl cl v b' bl' cl' v' n L W) := h
  have HW : Hid (W.length ≤ 900) := hW
  have HXL : Hid (xs.length ≤ 9223372036854775807) := hxl
  have HLO : Hid (lo ≤ w.heap.size) := h.lo_le
  have hbx := Box.new w 3 B AX xs.length cX AK lK cK
  have HB1 : Hid (But [] w (w.alloc (.cells #[.int .i64 3, .int .i64 B, .slice AX xs.length cX, .slice AK lK cK] 31))) := (But.refl [] w).alloc _
  obtain ⟨q, hq⟩ : ∃ q, q = w.heap.size := ⟨_, rfl⟩
  have HQ : Hid (q = w.heap.size) := hq
  have HQN : Hid (q ∉ fp b bl v ∧ q ∉ fp b' bl' v') := ⟨fun hm => by have := h.d.lt hm; omega, fun hm => by have := h.x.lt hm; omega⟩
  obtain ⟨lx, hlx⟩ : ∃ lx, lx = xs.length := ⟨_, rfl⟩
  have HLX : Hid (lx = xs.length) := hlx
  rw [← hq] at hbx
  rw [← hlx] at hbx HB1 ⊢
  clear h hX hW hxl hlx
  go_enter Try.func10, Try.ntmps10
  go_upto_region 1 with fail
  rw [← hq]
  generalize w.alloc (.cells #[.int .i64 3, .int .i64 B, .slice AX lx cX, .slice AK lK cK] 31) = w1 at hbx HB1 ⊢
  have HBX : Hid (Box w1 q 3 B AX lx cX AK lK cK) := hbx
  have hbk := hbx.k
  have HS1 : Hid (St w1 lo b bl cl v b' bl' cl' v' n L W) := HST.out.keep0 HB1.out
  clear hbx hq
  go_upto_region 7 with fail
  clear hbk
  have hbb := HBX.out.b
  go_wp2_with fail
  refine (rin_c B HS1.out.x).mono ?_
  rintro e w2 ⟨rfl, rfl⟩
  have HBO : Hid (Below lo w w1.drew) := (HB1.out.below HLO.out (by simp)).drew
  cases hin : inB n B with
  | true =>
    obtain ⟨k, rfl, hk⟩ := inB_of hin
    have HK : Hid (k < n) := hk
    clear hin hk
    go_wp2
    refine till_begin (fun w' => w'.cell? ⟨b', 1, none⟩ = some v' ∧ w'.cell? ⟨q, 1, none⟩ = some (.int .i64 k) ∧ w'.cell? ⟨q, 2, none⟩ = some (.slice AX lx cX)) 15 (by kernel_rfl) ?_
    have hS := s3_keep (w' := w1.drew) (l := []) ⟨HS1.out.x.c1, HBX.out.b, HBX.out.x⟩ (But.refl [] w1).drew (by simp) (by simp)
    refine till_take 0 (some 19) (.pointer (some ⟨b', 0, none⟩)) rfl rfl (by kernel_rfl) (by kernel_rfl) (by kernel_rfl) (by kernel_rfl) (by decide) (fun _ _ _ h => h) (Or.inl ⟨by rfl, fun w' hw' => by go_simp⟩) hS ?_
    simp only [Act.put, List.setIfInBounds_toArray, List.set_cons_zero, List.set_cons_succ]
    refine till_take 1 (some 20) (.pointer (some ⟨b', 0, none⟩)) rfl rfl (by kernel_rfl) (by kernel_rfl) (by kernel_rfl) (by kernel_rfl) (by decide) (fun _ _ _ h => h) (Or.inl ⟨by rfl, fun w' hw' => by go_simp⟩) hS ?_
    simp only [Act.put, List.setIfInBounds_toArray, List.set_cons_zero, List.set_cons_succ]
    refine till_take 2 (some 21) (.pointer (some ⟨b', 0, none⟩)) rfl rfl (by kernel_rfl) (by kernel_rfl) (by kernel_rfl) (by kernel_rfl) (by decide) (fun _ _ _ h => h) (Or.inl ⟨by rfl, fun w' hw' => by go_simp⟩) hS ?_
    simp only [Act.put, List.setIfInBounds_toArray, List.set_cons_zero, List.set_cons_succ]
    refine till_take 3 (some 22) (.pointer (some ⟨b', 1, none⟩)) rfl rfl (by kernel_rfl) (by kernel_rfl) (by kernel_rfl) (by kernel_rfl) (by decide) (fun _ _ _ h => h) (Or.inl ⟨by rfl, fun w' hw' => by go_simp⟩) hS ?_
    simp only [Act.put, List.setIfInBounds_toArray, List.set_cons_zero, List.set_cons_succ]
    refine till_take 4 (some 23) (v') rfl rfl (by kernel_rfl) (by kernel_rfl) (by kernel_rfl) (by kernel_rfl) (by decide) (fun _ _ _ h => h) (Or.inl ⟨by rfl, fun w' hw' => by obtain ⟨hw1, -⟩ := hw'; go_simp⟩) hS ?_
    simp only [Act.put, List.setIfInBounds_toArray, List.set_cons_zero, List.set_cons_succ]
    refine till_take 5 (some 24) (.pointer (some ⟨q, 1, none⟩)) rfl rfl (by kernel_rfl) (by kernel_rfl) (by kernel_rfl) (by kernel_rfl) (by decide) (fun _ _ _ h => h) (Or.inl ⟨by rfl, fun w' hw' => by go_simp⟩) hS ?_
    simp only [Act.put, List.setIfInBounds_toArray, List.set_cons_zero, List.set_cons_succ]
    refine till_take 6 (some 25) (.int .i64 k) rfl rfl (by kernel_rfl) (by kernel_rfl) (by kernel_rfl) (by kernel_rfl) (by decide) (fun _ _ _ h => h) (Or.inl ⟨by rfl, fun w' hw' => by obtain ⟨-, hw1, -⟩ := hw'; go_simp⟩) hS ?_
    simp only [Act.put, List.setIfInBounds_toArray, List.set_cons_zero, List.set_cons_succ]
    refine till_take 7 (some 26) (.pointer (some ⟨q, 2, none⟩)) rfl rfl (by kernel_rfl) (by kernel_rfl) (by kernel_rfl) (by kernel_rfl) (by decide) (fun _ _ _ h => h) (Or.inl ⟨by rfl, fun w' hw' => by go_simp⟩) hS ?_
    simp only [Act.put, List.setIfInBounds_toArray, List.set_cons_zero, List.set_cons_succ]
    refine till_take 8 (some 27) (.slice AX lx cX) rfl rfl (by kernel_rfl) (by kernel_rfl) (by kernel_rfl) (by kernel_rfl) (by decide) (fun _ _ _ h => h) (Or.inl ⟨by rfl, fun w' hw' => by obtain ⟨-, -, hw1⟩ := hw'; go_simp⟩) hS ?_
    simp only [Act.put, List.setIfInBounds_toArray, List.set_cons_zero, List.set_cons_succ]
    refine till_one 9 rfl (by kernel_rfl) (by rfl) ?_
    go_simp
    go_at_call 18
    rw [HLX.out]
    refine (of_c AX cX xs _ (rd_below HX.out HBO.out HLO.out) HXL.out).mono ?_
    rw [← HLX.out]
    rintro e w2 ⟨rfl, hb2⟩
    have HB2 : Hid (But [] w1 w2) := (But.refl [] w1).drew.trans hb2
    have hS2 := s3_keep hS hb2 (by simp) (by simp)
    obtain ⟨x, hx⟩ : ∃ x, x = ofD xs := ⟨_, rfl⟩
    rw [← hx]
    have HXE : Hid (ofD xs = x) := hx.symm
    clear hb2 hS hx
    refine ⟨hS2, ?_⟩
    refine till_read 10 (some 29) (.agg (wv (k, x)).toArray) rfl rfl (by kernel_rfl) (yieldsIf_build (by rfl) 65 [(0, .tmp 25), (1, .tmp 28)] rfl _ [(0, .int .i64 k), (1, .agg (dv x).toArray)] rfl (bRWriteP k x)) hS2 ?_
    simp only [Act.put, List.setIfInBounds_toArray, List.set_cons_zero, List.set_cons_succ]
    refine till_one 11 rfl (by kernel_rfl) (by rfl) ?_
    refine wp_lit1 _ _ _ rfl (some 30) rfl (wv (k, x)) rfl (lRWrite (k, x)) ⟨fun _ => s3_keep hS2 ((But.refl [] w2).alloc _) (by simp) (by simp), ?_⟩
    simp only [Act.put, List.setIfInBounds_toArray, List.set_cons_zero, List.set_cons_succ]
    refine till_one 12 rfl (by kernel_rfl) (by rfl) ?_
    refine push_wp _ _ _ _ rfl (some 31) rfl tR Try.underlying61 infRWrite lo v' W rfl (own_keep (HS1.out.x.keep0 HB2.out).own ((But.refl [] w2).alloc _) (by simp)) w2.heap.size (k, x) rfl (new_range _ _ _) (by have := HW.out; omega) (by have h1 := HLO.out; have h2 := HB1.out.size; have h3 := HB2.out.size; simp; omega) ?_
    intro g cap w3 hown hgrow hat
    have HO : Hid (w3.ownsRow lo tR 65 (.slice (some ⟨g, 0, none⟩) (W.length + 1) cap) (W ++ [(k, x)]).length (cat (W ++ [(k, x)]))) := hown
    have HGR : Hid (But v'.ownBlock.toList w2 w3) := ((But.refl _ w2).alloc _).trans (But.of_grown hgrow)
    have HAT : Hid (v'.ownBlock = some g ∨ g = w2.heap.size + 1) := by (show _ ∨ _; simpa using hat)
    have hbn : b' ∉ v'.ownBlock.toList := fun hm => (HS1.out.x.vne b' (by simpa using hm)).1 rfl
    have hqn : q ∉ v'.ownBlock.toList := fun hm => HQN.out.2 (fp_v (by simpa using hm))
    have hf2 := (HS1.out.x.keep0 HB2.out).f1
    have hc2 := (HS1.out.x.keep0 HB2.out).c1
    have hc3 : w3.cell? ⟨b', 1, none⟩ = some v' := cell_keep hc2 HGR.out hbn
    have hf3 : w3.frozen? ⟨b', 1, none⟩ = false := (HGR.out.frozen (p := ⟨b', 1, none⟩) (lt_of_cell hc2) hbn).trans hf2
    have hS3 := s3_keep hS2 HGR.out hbn hqn
    clear hown hgrow hat hS2 hf2 hc2
    refine ⟨fun _ => hS3, ?_⟩
    simp only [Act.put, List.setIfInBounds_toArray, List.set_cons_zero, List.set_cons_succ]
    refine till_read 13 (some 32) (.pointer (some ⟨b', 0, none⟩)) rfl rfl (by kernel_rfl) (Or.inl ⟨by rfl, fun w' hw' => by go_simp⟩) hS3 ?_
    simp only [Act.put, List.setIfInBounds_toArray, List.set_cons_zero, List.set_cons_succ]
    refine till_read 14 (some 33) (.pointer (some ⟨b', 1, none⟩)) rfl rfl (by kernel_rfl) (Or.inl ⟨by rfl, fun w' hw' => by go_simp⟩) hS3 ?_
    simp only [Act.put, List.setIfInBounds_toArray, List.set_cons_zero, List.set_cons_succ]
    refine till_one 15 rfl (by kernel_rfl) (by rfl) ?_
    go_simp
    refine ⟨by kernel_rfl, ?_⟩
    have HB12 : Hid (But [] w w2) := HB1.out.trans HB2.out
    obtain ⟨u', hX4, hk4, hf4⟩ := push_done HST.out.x HB12.out HK.out HGR.out HO.out HAT.out
    have HS3 : Hid (w3.cell? ⟨q, 1, none⟩ = some (.int .i64 k) ∧ w3.cell? ⟨q, 2, none⟩ = some (.slice AX lx cX)) := hS3.2
    obtain ⟨w4, hw4⟩ : ∃ w4, w4 = w3.setCell ⟨b', 1, none⟩ (.slice (some ⟨g, 0, none⟩) (W.length + 1) cap) := ⟨_, rfl⟩
    rw [← hw4] at hX4 hk4 ⊢
    have HX4 : Hid (DkAt tR w4 lo b' bl' cl' n u' L (W ++ [(k, x)])) := hX4
    have HK4 : Hid (But (fp b' bl' v') w w4) := hk4
    have HF4 : Hid (∀ g ∈ fp b' bl' u', g ∈ fp b' bl' v' ∨ w.heap.size ≤ g) := hf4
    have HD4 : Hid (DkAt tP w4 lo b bl cl n v L W) := HST.out.d.keep hk4 (fun i hi => HST.out.ap i hi)
    have hcc : w4.cell? ⟨q, 1, none⟩ = some (.int .i64 k) ∧ w4.cell? ⟨q, 2, none⟩ = some (.slice AX lx cX) := by rw [hw4]; exact s2_keep (l := [b']) HS3.out ((But.refl _ _).setCell (by simp) _) (fun hm => HQN.out.2 (by simp at hm; rw [hm]; exact fp_b))
    clear hS3 hbn hqn hc3 hf3 hX4 hk4 hf4 hw4
    have HBO4 : Hid (Below lo w w4.drew) := (HK4.out.below HLO.out (fun i hi => HST.out.x.low hi)).drew
    go_wp2
    go_region_held3 (fun w' => w'.cell? ⟨q, 1, none⟩ = some (.int .i64 k) ∧ w'.cell? ⟨q, 2, none⟩ = some (.slice AX lx cX))
      (first | assumption | exact s2_keep (l := []) hcc (But.refl [] w4).drew (by simp) | exact hS5 | exact hS6)
      (first
        | (go_at_call 18
           rw [HLX.out]
           refine (of_c AX cX xs _ (rd_below HX.out HBO4.out HLO.out) HXL.out).mono ?_
           rw [← HLX.out]
           rintro e w5 ⟨rfl, hb5⟩
           rw [HXE.out]
           have HB5 : Hid (But [] w4 w5) := (But.refl [] w4).drew.trans hb5
           have hS5 := s2_keep (l := []) hcc HB5.out (by simp)
           clear hb5)
        | (go_at_call 17
           refine (write_c k x (HD4.out.keep0 HB5.out) HK.out (by have := HW.out; omega) (by have h1 := HLO.out; have h2 := HK4.out.size; have h3 := HB5.out.size; omega)).mono ?_
           rintro e w6 ⟨rfl, u, hD6, hk6, hf6⟩
           have HD6 : Hid (DkAt tP w6 lo b bl cl n u L (W ++ [(k, x)])) := hD6
           have HK6 : Hid (But (fp b bl v) w5 w6) := hk6
           have HF6 : Hid (∀ g ∈ fp b bl u, g ∈ fp b bl v ∨ w5.heap.size ≤ g) := hf6
           have HX6 : Hid (DkAt tR w6 lo b' bl' cl' n u' L (W ++ [(k, x)])) := (HX4.out.keep0 HB5.out).keep hk6 (fun i hi hm => by
             rcases HF4.out i hi with h1 | h1
             · exact HST.out.ap i hm h1
             · have := HST.out.d.lt hm
               omega)
           have hS6 := s2_keep hS5 hk6 HQN.out.1
           clear hD6 hk6 hf6)
        | (go_at_call 13
           refine (rin_c k HX6.out).mono ?_
           rintro e w7 ⟨rfl, rfl⟩
           rw [inB_yes HK.out]))
    clear hcc hS5 hS6
    go_wp2
    go_ret
    refine ⟨rfl, u, u', L, W ++ [(k, x)], ⟨HD6.out, HX6.out, fun i hi hm => ?_⟩, by simp, ?_⟩
    · have h5 := HB5.out.size
      have h4 := HK4.out.size
      rcases HF6.out i hi with h1 | h1
      · rcases HF4.out i hm with h2 | h2
        · exact HST.out.ap i h1 h2
        · have := HST.out.d.lt h1
          omega
      · have := HX4.out.lt hm
        omega
    · have h5 := HB5.out.size
      have h4 := HK4.out.size
      have h0 := HLO.out
      exact ((HK4.out.below HLO.out (fun i hi => HST.out.x.low hi)).trans (HB5.out.below (by omega) (by simp))).trans (HK6.out.below (by omega) (fun i hi => HST.out.d.low hi))
  | false =>
    have HIN : Hid (inB n B = false) := hin
    clear hin
    have hcc : w1.cell? ⟨q, 1, none⟩ = some (.int .i64 B) ∧ w1.cell? ⟨q, 2, none⟩ = some (.slice AX lx cX) := ⟨HBX.out.b, HBX.out.x⟩
    clear hbb
    go_wp2
    go_region_held3 (fun w' => w'.cell? ⟨q, 1, none⟩ = some (.int .i64 B) ∧ w'.cell? ⟨q, 2, none⟩ = some (.slice AX lx cX))
      (first | assumption | exact s2_keep (l := []) hcc (But.refl [] w1).drew (by simp) | exact hS5 | exact hS6)
      (first
        | (go_at_call 18
           rw [HLX.out]
           refine (of_c AX cX xs _ (rd_below HX.out HBO.out HLO.out) HXL.out).mono ?_
           rw [← HLX.out]
           rintro e w5 ⟨rfl, hb5⟩
           have HB5 : Hid (But [] w1 w5) := (But.refl [] w1).drew.trans hb5
           have hS5 := s2_keep (l := []) hcc HB5.out (by simp)
           clear hb5)
        | (go_at_call 17
           refine (write_no B _ (HS1.out.d.keep0 HB5.out) HIN.out).mono ?_
           rintro e w6 ⟨rfl, hk6⟩
           have HK6 : Hid (But [] w5 w6) := hk6
           have hS6 := s2_keep hS5 hk6 (by simp)
           clear hk6)
        | (go_at_call 13
           refine (rin_c B ((HS1.out.x.keep0 HB5.out).keep0 HK6.out)).mono ?_
           rintro e w7 ⟨rfl, rfl⟩
           rw [HIN.out]))
    clear hcc hS5 hS6
    go_wp2
    go_ret
    exact ⟨rfl, v, v', L, W, (HS1.out.keep0 HB5.out).keep0 HK6.out, by omega, (((HB1.out.trans HB5.out).trans HK6.out)).below HLO.out (by simp)⟩
set_option maxHeartbeats 4000000 in
theorem does_w4 (B : Int) (AX : Option Addr) (cX : Nat) (xs : List Int) (AK : Option Addr) (lK cK : Nat) (h : St w lo b bl cl v b' bl' cl' v' n L W) (hW : W.length ≤ 900) (hX : Rd .u8 w 0 lo AX xs) (hxl : xs.length ≤ 9223372036854775807) :
    Calls Try.prog 10 #[.pointer (some ⟨b, 0, none⟩), .pointer (some ⟨b', 0, none⟩), .agg #[.int .i64 4, .int .i64 B, .slice AX xs.length cX, .slice AK lK cK]] w fun e w' => e = .returned (.bool true) ∧ Did w lo b bl cl b' bl' cl' n (W.length + 1) w' := by
  have HX : Hid (Rd .u8 w 0 lo AX xs) := hX
  have HST : Hid (St w lo b bl cl v b' bl' cl' v' n L W) := h
  have HW : Hid (W.length ≤ 900) := hW
  have HXL : Hid (xs.length ≤ 9223372036854775807) := hxl
  have HLO : Hid (lo ≤ w.heap.size) := h.lo_le
  have hbx := Box.new w 4 B AX xs.length cX AK lK cK
  have HB1 : Hid (But [] w (w.alloc (.cells #[.int .i64 4, .int .i64 B, .slice AX xs.length cX, .slice AK lK cK] 31))) := (But.refl [] w).alloc _
  obtain ⟨q, hq⟩ : ∃ q, q = w.heap.size := ⟨_, rfl⟩
  have HQ : Hid (q = w.heap.size) := hq
  have HQN : Hid (q ∉ fp b bl v ∧ q ∉ fp b' bl' v') := ⟨fun hm => by have := h.d.lt hm; omega, fun hm => by have := h.x.lt hm; omega⟩
  obtain ⟨lx, hlx⟩ : ∃ lx, lx = xs.length := ⟨_, rfl⟩
  have HLX : Hid (lx = xs.length) := hlx
  rw [← hq] at hbx
  rw [← hlx] at hbx HB1 ⊢
  clear h hX hW hxl hlx
  go_enter Try.func10, Try.ntmps10
  go_upto_region 1 with fail
  rw [← hq]
  generalize w.alloc (.cells #[.int .i64 4, .int .i64 B, .slice AX lx cX, .slice AK lK cK] 31) = w1 at hbx HB1 ⊢
  have HBX : Hid (Box w1 q 4 B AX lx cX AK lK cK) := hbx
  have hbk := hbx.k
  have HS1 : Hid (St w1 lo b bl cl v b' bl' cl' v' n L W) := HST.out.keep0 HB1.out
  clear hbx hq
  go_upto_region 7 with fail
  clear hbk
  have hbb := HBX.out.b
  go_wp2_with fail
  refine (rin_c B HS1.out.x).mono ?_
  rintro e w2 ⟨rfl, rfl⟩
  have HBO : Hid (Below lo w w1.drew) := (HB1.out.below HLO.out (by simp)).drew
  cases hin : inB n B with
  | true =>
    obtain ⟨k, rfl, hk⟩ := inB_of hin
    have HK : Hid (k < n) := hk
    clear hin hk
    go_wp2
    refine till_begin (fun w' => w'.cell? ⟨b', 1, none⟩ = some v' ∧ w'.cell? ⟨q, 1, none⟩ = some (.int .i64 k) ∧ w'.cell? ⟨q, 2, none⟩ = some (.slice AX lx cX)) 15 (by kernel_rfl) ?_
    have hS := s3_keep (w' := w1.drew) (l := []) ⟨HS1.out.x.c1, HBX.out.b, HBX.out.x⟩ (But.refl [] w1).drew (by simp) (by simp)
    refine till_take 0 (some 19) (.pointer (some ⟨b', 0, none⟩)) rfl rfl (by kernel_rfl) (by kernel_rfl) (by kernel_rfl) (by kernel_rfl) (by decide) (fun _ _ _ h => h) (Or.inl ⟨by rfl, fun w' hw' => by go_simp⟩) hS ?_
    simp only [Act.put, List.setIfInBounds_toArray, List.set_cons_zero, List.set_cons_succ]
    refine till_take 1 (some 20) (.pointer (some ⟨b', 0, none⟩)) rfl rfl (by kernel_rfl) (by kernel_rfl) (by kernel_rfl) (by kernel_rfl) (by decide) (fun _ _ _ h => h) (Or.inl ⟨by rfl, fun w' hw' => by go_simp⟩) hS ?_
    simp only [Act.put, List.setIfInBounds_toArray, List.set_cons_zero, List.set_cons_succ]
    refine till_take 2 (some 21) (.pointer (some ⟨b', 0, none⟩)) rfl rfl (by kernel_rfl) (by kernel_rfl) (by kernel_rfl) (by kernel_rfl) (by decide) (fun _ _ _ h => h) (Or.inl ⟨by rfl, fun w' hw' => by go_simp⟩) hS ?_
    simp only [Act.put, List.setIfInBounds_toArray, List.set_cons_zero, List.set_cons_succ]
    refine till_take 3 (some 22) (.pointer (some ⟨b', 1, none⟩)) rfl rfl (by kernel_rfl) (by kernel_rfl) (by kernel_rfl) (by kernel_rfl) (by decide) (fun _ _ _ h => h) (Or.inl ⟨by rfl, fun w' hw' => by go_simp⟩) hS ?_
    simp only [Act.put, List.setIfInBounds_toArray, List.set_cons_zero, List.set_cons_succ]
    refine till_take 4 (some 23) (v') rfl rfl (by kernel_rfl) (by kernel_rfl) (by kernel_rfl) (by kernel_rfl) (by decide) (fun _ _ _ h => h) (Or.inl ⟨by rfl, fun w' hw' => by obtain ⟨hw1, -⟩ := hw'; go_simp⟩) hS ?_
    simp only [Act.put, List.setIfInBounds_toArray, List.set_cons_zero, List.set_cons_succ]
    refine till_take 5 (some 24) (.pointer (some ⟨q, 1, none⟩)) rfl rfl (by kernel_rfl) (by kernel_rfl) (by kernel_rfl) (by kernel_rfl) (by decide) (fun _ _ _ h => h) (Or.inl ⟨by rfl, fun w' hw' => by go_simp⟩) hS ?_
    simp only [Act.put, List.setIfInBounds_toArray, List.set_cons_zero, List.set_cons_succ]
    refine till_take 6 (some 25) (.int .i64 k) rfl rfl (by kernel_rfl) (by kernel_rfl) (by kernel_rfl) (by kernel_rfl) (by decide) (fun _ _ _ h => h) (Or.inl ⟨by rfl, fun w' hw' => by obtain ⟨-, hw1, -⟩ := hw'; go_simp⟩) hS ?_
    simp only [Act.put, List.setIfInBounds_toArray, List.set_cons_zero, List.set_cons_succ]
    refine till_take 7 (some 26) (.pointer (some ⟨q, 2, none⟩)) rfl rfl (by kernel_rfl) (by kernel_rfl) (by kernel_rfl) (by kernel_rfl) (by decide) (fun _ _ _ h => h) (Or.inl ⟨by rfl, fun w' hw' => by go_simp⟩) hS ?_
    simp only [Act.put, List.setIfInBounds_toArray, List.set_cons_zero, List.set_cons_succ]
    refine till_take 8 (some 27) (.slice AX lx cX) rfl rfl (by kernel_rfl) (by kernel_rfl) (by kernel_rfl) (by kernel_rfl) (by decide) (fun _ _ _ h => h) (Or.inl ⟨by rfl, fun w' hw' => by obtain ⟨-, -, hw1⟩ := hw'; go_simp⟩) hS ?_
    simp only [Act.put, List.setIfInBounds_toArray, List.set_cons_zero, List.set_cons_succ]
    refine till_one 9 rfl (by kernel_rfl) (by rfl) ?_
    go_simp
    go_at_call 18
    rw [HLX.out]
    refine (of_c AX cX xs _ (rd_below HX.out HBO.out HLO.out) HXL.out).mono ?_
    rw [← HLX.out]
    rintro e w2 ⟨rfl, hb2⟩
    have HB2 : Hid (But [] w1 w2) := (But.refl [] w1).drew.trans hb2
    have hS2 := s3_keep hS hb2 (by simp) (by simp)
    obtain ⟨x, hx⟩ : ∃ x, x = ofD xs := ⟨_, rfl⟩
    rw [← hx]
    have HXE : Hid (ofD xs = x) := hx.symm
    clear hb2 hS hx
    refine ⟨hS2, ?_⟩
    refine till_read 10 (some 29) (.agg (wv (k, x)).toArray) rfl rfl (by kernel_rfl) (yieldsIf_build (by rfl) 65 [(0, .tmp 25), (1, .tmp 28)] rfl _ [(0, .int .i64 k), (1, .agg (dv x).toArray)] rfl (bRWriteP k x)) hS2 ?_
    simp only [Act.put, List.setIfInBounds_toArray, List.set_cons_zero, List.set_cons_succ]
    refine till_one 11 rfl (by kernel_rfl) (by rfl) ?_
    refine wp_lit1 _ _ _ rfl (some 30) rfl (wv (k, x)) rfl (lRWrite (k, x)) ⟨fun _ => s3_keep hS2 ((But.refl [] w2).alloc _) (by simp) (by simp), ?_⟩
    simp only [Act.put, List.setIfInBounds_toArray, List.set_cons_zero, List.set_cons_succ]
    refine till_one 12 rfl (by kernel_rfl) (by rfl) ?_
    refine push_wp _ _ _ _ rfl (some 31) rfl tR Try.underlying61 infRWrite lo v' W rfl (own_keep (HS1.out.x.keep0 HB2.out).own ((But.refl [] w2).alloc _) (by simp)) w2.heap.size (k, x) rfl (new_range _ _ _) (by have := HW.out; omega) (by have h1 := HLO.out; have h2 := HB1.out.size; have h3 := HB2.out.size; simp; omega) ?_
    intro g cap w3 hown hgrow hat
    have HO : Hid (w3.ownsRow lo tR 65 (.slice (some ⟨g, 0, none⟩) (W.length + 1) cap) (W ++ [(k, x)]).length (cat (W ++ [(k, x)]))) := hown
    have HGR : Hid (But v'.ownBlock.toList w2 w3) := ((But.refl _ w2).alloc _).trans (But.of_grown hgrow)
    have HAT : Hid (v'.ownBlock = some g ∨ g = w2.heap.size + 1) := by (show _ ∨ _; simpa using hat)
    have hbn : b' ∉ v'.ownBlock.toList := fun hm => (HS1.out.x.vne b' (by simpa using hm)).1 rfl
    have hqn : q ∉ v'.ownBlock.toList := fun hm => HQN.out.2 (fp_v (by simpa using hm))
    have hf2 := (HS1.out.x.keep0 HB2.out).f1
    have hc2 := (HS1.out.x.keep0 HB2.out).c1
    have hc3 : w3.cell? ⟨b', 1, none⟩ = some v' := cell_keep hc2 HGR.out hbn
    have hf3 : w3.frozen? ⟨b', 1, none⟩ = false := (HGR.out.frozen (p := ⟨b', 1, none⟩) (lt_of_cell hc2) hbn).trans hf2
    have hS3 := s3_keep hS2 HGR.out hbn hqn
    clear hown hgrow hat hS2 hf2 hc2
    refine ⟨fun _ => hS3, ?_⟩
    simp only [Act.put, List.setIfInBounds_toArray, List.set_cons_zero, List.set_cons_succ]
    refine till_read 13 (some 32) (.pointer (some ⟨b', 0, none⟩)) rfl rfl (by kernel_rfl) (Or.inl ⟨by rfl, fun w' hw' => by go_simp⟩) hS3 ?_
    simp only [Act.put, List.setIfInBounds_toArray, List.set_cons_zero, List.set_cons_succ]
    refine till_read 14 (some 33) (.pointer (some ⟨b', 1, none⟩)) rfl rfl (by kernel_rfl) (Or.inl ⟨by rfl, fun w' hw' => by go_simp⟩) hS3 ?_
    simp only [Act.put, List.setIfInBounds_toArray, List.set_cons_zero, List.set_cons_succ]
    refine till_one 15 rfl (by kernel_rfl) (by rfl) ?_
    go_simp
    refine ⟨by kernel_rfl, ?_⟩
    have HB12 : Hid (But [] w w2) := HB1.out.trans HB2.out
    obtain ⟨u', hX4, hk4, hf4⟩ := push_done HST.out.x HB12.out HK.out HGR.out HO.out HAT.out
    have HS3 : Hid (w3.cell? ⟨q, 1, none⟩ = some (.int .i64 k) ∧ w3.cell? ⟨q, 2, none⟩ = some (.slice AX lx cX)) := hS3.2
    obtain ⟨w4, hw4⟩ : ∃ w4, w4 = w3.setCell ⟨b', 1, none⟩ (.slice (some ⟨g, 0, none⟩) (W.length + 1) cap) := ⟨_, rfl⟩
    rw [← hw4] at hX4 hk4 ⊢
    have HX4 : Hid (DkAt tR w4 lo b' bl' cl' n u' L (W ++ [(k, x)])) := hX4
    have HK4 : Hid (But (fp b' bl' v') w w4) := hk4
    have HF4 : Hid (∀ g ∈ fp b' bl' u', g ∈ fp b' bl' v' ∨ w.heap.size ≤ g) := hf4
    have HD4 : Hid (DkAt tP w4 lo b bl cl n v L W) := HST.out.d.keep hk4 (fun i hi => HST.out.ap i hi)
    have hcc : w4.cell? ⟨q, 1, none⟩ = some (.int .i64 k) ∧ w4.cell? ⟨q, 2, none⟩ = some (.slice AX lx cX) := by rw [hw4]; exact s2_keep (l := [b']) HS3.out ((But.refl _ _).setCell (by simp) _) (fun hm => HQN.out.2 (by simp at hm; rw [hm]; exact fp_b))
    clear hS3 hbn hqn hc3 hf3 hX4 hk4 hf4 hw4
    have HBO4 : Hid (Below lo w w4.drew) := (HK4.out.below HLO.out (fun i hi => HST.out.x.low hi)).drew
    go_wp2
    go_region_held3 (fun w' => w'.cell? ⟨q, 1, none⟩ = some (.int .i64 k) ∧ w'.cell? ⟨q, 2, none⟩ = some (.slice AX lx cX))
      (first | assumption | exact s2_keep (l := []) hcc (But.refl [] w4).drew (by simp) | exact hS5 | exact hS6)
      (first
        | (go_at_call 18
           rw [HLX.out]
           refine (of_c AX cX xs _ (rd_below HX.out HBO4.out HLO.out) HXL.out).mono ?_
           rw [← HLX.out]
           rintro e w5 ⟨rfl, hb5⟩
           rw [HXE.out]
           have HB5 : Hid (But [] w4 w5) := (But.refl [] w4).drew.trans hb5
           have hS5 := s2_keep (l := []) hcc HB5.out (by simp)
           clear hb5)
        | (go_at_call 17
           refine (write_c k x (HD4.out.keep0 HB5.out) HK.out (by have := HW.out; omega) (by have h1 := HLO.out; have h2 := HK4.out.size; have h3 := HB5.out.size; omega)).mono ?_
           rintro e w6 ⟨rfl, u, hD6, hk6, hf6⟩
           have HD6 : Hid (DkAt tP w6 lo b bl cl n u L (W ++ [(k, x)])) := hD6
           have HK6 : Hid (But (fp b bl v) w5 w6) := hk6
           have HF6 : Hid (∀ g ∈ fp b bl u, g ∈ fp b bl v ∨ w5.heap.size ≤ g) := hf6
           have HX6 : Hid (DkAt tR w6 lo b' bl' cl' n u' L (W ++ [(k, x)])) := (HX4.out.keep0 HB5.out).keep hk6 (fun i hi hm => by
             rcases HF4.out i hi with h1 | h1
             · exact HST.out.ap i hm h1
             · have := HST.out.d.lt hm
               omega)
           have hS6 := s2_keep hS5 hk6 HQN.out.1
           clear hD6 hk6 hf6)
        | (go_at_call 13
           refine (rin_c k HX6.out).mono ?_
           rintro e w7 ⟨rfl, rfl⟩
           rw [inB_yes HK.out]))
    clear hcc hS5 hS6
    go_wp2
    go_ret
    refine ⟨rfl, u, u', L, W ++ [(k, x)], ⟨HD6.out, HX6.out, fun i hi hm => ?_⟩, by simp, ?_⟩
    · have h5 := HB5.out.size
      have h4 := HK4.out.size
      rcases HF6.out i hi with h1 | h1
      · rcases HF4.out i hm with h2 | h2
        · exact HST.out.ap i h1 h2
        · have := HST.out.d.lt h1
          omega
      · have := HX4.out.lt hm
        omega
    · have h5 := HB5.out.size
      have h4 := HK4.out.size
      have h0 := HLO.out
      exact ((HK4.out.below HLO.out (fun i hi => HST.out.x.low hi)).trans (HB5.out.below (by omega) (by simp))).trans (HK6.out.below (by omega) (fun i hi => HST.out.d.low hi))
  | false =>
    have HIN : Hid (inB n B = false) := hin
    clear hin
    have hcc : w1.cell? ⟨q, 1, none⟩ = some (.int .i64 B) ∧ w1.cell? ⟨q, 2, none⟩ = some (.slice AX lx cX) := ⟨HBX.out.b, HBX.out.x⟩
    clear hbb
    go_wp2
    go_region_held3 (fun w' => w'.cell? ⟨q, 1, none⟩ = some (.int .i64 B) ∧ w'.cell? ⟨q, 2, none⟩ = some (.slice AX lx cX))
      (first | assumption | exact s2_keep (l := []) hcc (But.refl [] w1).drew (by simp) | exact hS5 | exact hS6)
      (first
        | (go_at_call 18
           rw [HLX.out]
           refine (of_c AX cX xs _ (rd_below HX.out HBO.out HLO.out) HXL.out).mono ?_
           rw [← HLX.out]
           rintro e w5 ⟨rfl, hb5⟩
           have HB5 : Hid (But [] w1 w5) := (But.refl [] w1).drew.trans hb5
           have hS5 := s2_keep (l := []) hcc HB5.out (by simp)
           clear hb5)
        | (go_at_call 17
           refine (write_no B _ (HS1.out.d.keep0 HB5.out) HIN.out).mono ?_
           rintro e w6 ⟨rfl, hk6⟩
           have HK6 : Hid (But [] w5 w6) := hk6
           have hS6 := s2_keep hS5 hk6 (by simp)
           clear hk6)
        | (go_at_call 13
           refine (rin_c B ((HS1.out.x.keep0 HB5.out).keep0 HK6.out)).mono ?_
           rintro e w7 ⟨rfl, rfl⟩
           rw [HIN.out]))
    clear hcc hS5 hS6
    go_wp2
    go_ret
    exact ⟨rfl, v, v', L, W, (HS1.out.keep0 HB5.out).keep0 HK6.out, by omega, (((HB1.out.trans HB5.out).trans HK6.out)).below HLO.out (by simp)⟩
set_option maxHeartbeats 2000000 in
theorem does_5 (B : Int) (AX : Option Addr) (cX : Nat) (xs : List Int) (AK : Option Addr) (lK cK : Nat) (h : St w lo b bl cl v b' bl' cl' v' n L W) (hW : W.length ≤ 900) (hX : Rd .u8 w 0 lo AX xs) (hxl : xs.length ≤ 9223372036854775807) :
    Calls Try.prog 10 #[.pointer (some ⟨b, 0, none⟩), .pointer (some ⟨b', 0, none⟩), .agg #[.int .i64 5, .int .i64 B, .slice AX xs.length cX, .slice AK lK cK]] w fun e w' => e = .returned (.bool true) ∧ Did w lo b bl cl b' bl' cl' n (W.length + 1) w' := by
  have HX : Hid (Rd .u8 w 0 lo AX xs) := hX
  have HST : Hid (St w lo b bl cl v b' bl' cl' v' n L W) := h
  have HW : Hid (W.length ≤ 900) := hW
  have HXL : Hid (xs.length ≤ 9223372036854775807) := hxl
  have HLO : Hid (lo ≤ w.heap.size) := h.lo_le
  have hbx := Box.new w 5 B AX xs.length cX AK lK cK
  have HB1 : Hid (But [] w (w.alloc (.cells #[.int .i64 5, .int .i64 B, .slice AX xs.length cX, .slice AK lK cK] 31))) := (But.refl [] w).alloc _
  obtain ⟨q, hq⟩ : ∃ q, q = w.heap.size := ⟨_, rfl⟩
  have HQ : Hid (q = w.heap.size) := hq
  have HQN : Hid (q ∉ fp b bl v ∧ q ∉ fp b' bl' v') := ⟨fun hm => by have := h.d.lt hm; omega, fun hm => by have := h.x.lt hm; omega⟩
  obtain ⟨lx, hlx⟩ : ∃ lx, lx = xs.length := ⟨_, rfl⟩
  have HLX : Hid (lx = xs.length) := hlx
  rw [← hq] at hbx
  rw [← hlx] at hbx HB1 ⊢
  clear h hX hW hxl hlx
  go_enter Try.func10, Try.ntmps10
  go_upto_region 1 with fail
  rw [← hq]
  generalize w.alloc (.cells #[.int .i64 5, .int .i64 B, .slice AX lx cX, .slice AK lK cK] 31) = w1 at hbx HB1 ⊢
  have HBX : Hid (Box w1 q 5 B AX lx cX AK lK cK) := hbx
  have hbk := hbx.k
  have HS1 : Hid (St w1 lo b bl cl v b' bl' cl' v' n L W) := HST.out.keep0 HB1.out
  clear hbx hq
  go_wp2_with fail
  refine (flush_c HS1.out.d (by have := HW.out; omega)).mono ?_
  rintro e w2 ⟨rfl, hD2, hk2⟩
  have HD2 : Hid (DkAt tP w2 lo b bl cl n (.slice none 0 0) (setAll L W) []) := hD2
  have HK2 : Hid (But [b, bl] w1 w2) := hk2
  have HX2 : Hid (DkAt tR w2 lo b' bl' cl' n v' L W) := HS1.out.x.keep hk2 (fun i hi hm => HST.out.pa i hi (by simp at hm; rcases hm with rfl | rfl; exact fp_b; exact fp_bl))
  clear hbk hD2 hk2
  go_wp2_with fail
  refine (rcrash_all HX2.out (by have := HW.out; omega)).mono ?_
  rintro e w3 ⟨rfl, hX3, hk3⟩
  rw [kp_all] at hX3
  have HX3 : Hid (DkAt tR w3 lo b' bl' cl' n (.slice none 0 0) (setAll L W) []) := hX3
  have HK3 : Hid (But [b', bl'] w2 w3) := hk3
  have HD3 : Hid (DkAt tP w3 lo b bl cl n (.slice none 0 0) (setAll L W) []) := HD2.out.keep hk3 (fun i hi hm => by
    have h1 : i ∈ fp b bl v := by rcases mem_fp hi with rfl | rfl | e; exact fp_b; exact fp_bl; cases e
    exact HST.out.ap i h1 (by simp at hm; rcases hm with rfl | rfl; exact fp_b; exact fp_bl))
  clear hX3 hk3
  go_wp2
  go_ret
  have e1 := HB1.out.below HLO.out (by simp)
  have e2 : Below lo w1 w2 := HK2.out.below (by have h1 := HLO.out; have h2 := HB1.out.size; omega) (fun i hi => by have h1 := HST.out.d.lob; have h2 := HST.out.d.lol; simp at hi; omega)
  have e3 : Below lo w2 w3 := HK3.out.below (by have h1 := HLO.out; have h2 := HB1.out.size; have h3 := HK2.out.size; omega) (fun i hi => by have h1 := HST.out.x.lob; have h2 := HST.out.x.lol; simp at hi; omega)
  refine ⟨rfl, .slice none 0 0, .slice none 0 0, setAll L W, [], ⟨HD3.out, HX3.out, fun i hi hm => ?_⟩, by simp, (e1.trans e2).trans e3⟩
  exact nil_apart HST.out i hi hm
set_option maxHeartbeats 2000000 in
theorem does_6 (B : Int) (AX : Option Addr) (cX : Nat) (xs : List Int) (AK : Option Addr) (cK : Nat) (ks : List Bool) (h : St w lo b bl cl v b' bl' cl' v' n L W) (hW : W.length ≤ 900) (hX : Rd .u8 w 0 lo AX xs) (hxl : xs.length ≤ 9223372036854775807) (hK : BlL w lo AK ks) (hkl : ks.length ≤ maxLen) :
    Calls Try.prog 10 #[.pointer (some ⟨b, 0, none⟩), .pointer (some ⟨b', 0, none⟩), .agg #[.int .i64 6, .int .i64 B, .slice AX xs.length cX, .slice AK ks.length cK]] w fun e w' => e = .returned (.bool true) ∧ Did w lo b bl cl b' bl' cl' n (W.length + 1) w' := by
  have HBK : Hid (BlL w lo AK ks) := hK
  have HKL : Hid (ks.length ≤ maxLen) := hkl
  obtain ⟨lK, hlK⟩ : ∃ lK, lK = ks.length := ⟨_, rfl⟩
  have HLK : Hid (lK = ks.length) := hlK
  rw [← hlK]
  clear hK hkl hlK
  have HX : Hid (Rd .u8 w 0 lo AX xs) := hX
  have HST : Hid (St w lo b bl cl v b' bl' cl' v' n L W) := h
  have HW : Hid (W.length ≤ 900) := hW
  have HXL : Hid (xs.length ≤ 9223372036854775807) := hxl
  have HLO : Hid (lo ≤ w.heap.size) := h.lo_le
  have hbx := Box.new w 6 B AX xs.length cX AK lK cK
  have HB1 : Hid (But [] w (w.alloc (.cells #[.int .i64 6, .int .i64 B, .slice AX xs.length cX, .slice AK lK cK] 31))) := (But.refl [] w).alloc _
  obtain ⟨q, hq⟩ : ∃ q, q = w.heap.size := ⟨_, rfl⟩
  have HQ : Hid (q = w.heap.size) := hq
  have HQN : Hid (q ∉ fp b bl v ∧ q ∉ fp b' bl' v') := ⟨fun hm => by have := h.d.lt hm; omega, fun hm => by have := h.x.lt hm; omega⟩
  obtain ⟨lx, hlx⟩ : ∃ lx, lx = xs.length := ⟨_, rfl⟩
  have HLX : Hid (lx = xs.length) := hlx
  rw [← hq] at hbx
  rw [← hlx] at hbx HB1 ⊢
  clear h hX hW hxl hlx
  go_enter Try.func10, Try.ntmps10
  go_upto_region 1 with fail
  rw [← hq]
  generalize w.alloc (.cells #[.int .i64 6, .int .i64 B, .slice AX lx cX, .slice AK lK cK] 31) = w1 at hbx HB1 ⊢
  have HBX : Hid (Box w1 q 6 B AX lx cX AK lK cK) := hbx
  have hbk := hbx.k
  have HS1 : Hid (St w1 lo b bl cl v b' bl' cl' v' n L W) := HST.out.keep0 HB1.out
  clear hbx hq
  have hcp : w1.cell? ⟨q, 3, none⟩ = some (.slice AK lK cK) := HBX.out.p
  have HBO : Hid (Below lo w w1.drew) := (HB1.out.below HLO.out (by simp)).drew
  have HSD : Hid (St w1.drew lo b bl cl v b' bl' cl' v' n L W) := HS1.out.keep0 (But.refl [] w1).drew
  go_wp2
  clear hbk
  go_region_held3 (fun w' => w'.cell? ⟨q, 3, none⟩ = some (.slice AK lK cK))
    (first | assumption | exact cell_keep (l := []) hcp (But.refl [] w1).drew (by simp) | exact hS2 | exact hS3)
    (first
      | (go_at_call 19
         rw [HLK.out]
         refine (crash_c AK cK ks HSD.out.d (by have := HW.out; omega) ((HBK.out.keep HBO.out).bl (Nat.le_trans HLO.out HBO.out.size)) HKL.out (Nat.le_trans HLO.out HBO.out.size)).mono ?_
         rw [← HLK.out]
         rintro e w2 ⟨rfl, hD2, hk2⟩
         have HD2 : Hid (DkAt tP w2 lo b bl cl n (.slice none 0 0) (setAll L (kp (fun j => ks.getD j false) W)) []) := hD2
         have HK2 : Hid (But [b, bl] w1 w2) := ((But.refl _ w1).drew).trans hk2
         have HX2 : Hid (DkAt tR w2 lo b' bl' cl' n v' L W) := HSD.out.x.keep hk2 (fun i hi hm => HST.out.pa i hi (by simp at hm; rcases hm with rfl | rfl; exact fp_b; exact fp_bl))
         have HBO2 : Hid (Below lo w w2) := HBO.out.trans (hk2.below (Nat.le_trans HLO.out HBO.out.size) (fun i hi => by have h1 := HST.out.d.lob; have h2 := HST.out.d.lol; simp at hi; omega))
         have hS2 := cell_keep hcp HK2.out (fun hm => HQN.out.1 (by simp at hm; rcases hm with rfl | rfl; exact fp_b; exact fp_bl))
         clear hD2 hk2)
      | (go_at_call 25
         rw [HLK.out]
         refine (rcrash_c AK cK ks HX2.out (by have := HW.out; omega) ((HBK.out.keep HBO2.out).bl (Nat.le_trans HLO.out HBO2.out.size)) HKL.out (fun g off e hn => by have h1 := HBK.out.far g off e hn; have h2 := HST.out.x.lol; omega)).mono ?_
         rw [← HLK.out]
         rintro e w3 ⟨rfl, hX3, hk3⟩
         have HX3 : Hid (DkAt tR w3 lo b' bl' cl' n (.slice none 0 0) (setAll L (kp (fun j => ks.getD j false) W)) []) := hX3
         have HD3 : Hid (DkAt tP w3 lo b bl cl n (.slice none 0 0) (setAll L (kp (fun j => ks.getD j false) W)) []) := HD2.out.keep hk3 (fun i hi hm => by
           have h1 : i ∈ fp b bl v := by rcases mem_fp hi with rfl | rfl | e; exact fp_b; exact fp_bl; cases e
           exact HST.out.ap i h1 (by simp at hm; rcases hm with rfl | rfl; exact fp_b; exact fp_bl))
         have HBO3 : Hid (Below lo w w3) := HBO2.out.trans (hk3.below (Nat.le_trans HLO.out HBO2.out.size) (fun i hi => by have h1 := HST.out.x.lob; have h2 := HST.out.x.lol; simp at hi; omega))
         have hS3 := cell_keep hS2 hk3 (fun hm => HQN.out.2 (by simp at hm; rcases hm with rfl | rfl; exact fp_b; exact fp_bl))
         clear hX3 hk3))
  clear hS2 hS3 hcp
  go_wp2
  go_ret
  refine ⟨rfl, .slice none 0 0, .slice none 0 0, _, [], ⟨HD3.out, HX3.out, nil_apart HST.out⟩, by simp, HBO3.out⟩
set_option maxHeartbeats 2000000 in
theorem does_no (K : Int) (B : Int) (AX : Option Addr) (cX : Nat) (xs : List Int) (AK : Option Addr) (lK cK : Nat) (h : St w lo b bl cl v b' bl' cl' v' n L W) (hW : W.length ≤ 900) (hX : Rd .u8 w 0 lo AX xs) (hxl : xs.length ≤ 9223372036854775807) (hK : ¬ K = 0 ∧ ¬ K = 1 ∧ ¬ K = 2 ∧ ¬ K = 3 ∧ ¬ K = 4 ∧ ¬ K = 5 ∧ ¬ K = 6) :
    Calls Try.prog 10 #[.pointer (some ⟨b, 0, none⟩), .pointer (some ⟨b', 0, none⟩), .agg #[.int .i64 K, .int .i64 B, .slice AX xs.length cX, .slice AK lK cK]] w fun e w' => e = .returned (.bool true) ∧ Did w lo b bl cl b' bl' cl' n (W.length + 1) w' := by
  obtain ⟨k0, k1, k2, k3, k4, k5, k6⟩ := hK
  have HX : Hid (Rd .u8 w 0 lo AX xs) := hX
  have HST : Hid (St w lo b bl cl v b' bl' cl' v' n L W) := h
  have HW : Hid (W.length ≤ 900) := hW
  have HXL : Hid (xs.length ≤ 9223372036854775807) := hxl
  have HLO : Hid (lo ≤ w.heap.size) := h.lo_le
  have hbx := Box.new w K B AX xs.length cX AK lK cK
  have HB1 : Hid (But [] w (w.alloc (.cells #[.int .i64 K, .int .i64 B, .slice AX xs.length cX, .slice AK lK cK] 31))) := (But.refl [] w).alloc _
  obtain ⟨q, hq⟩ : ∃ q, q = w.heap.size := ⟨_, rfl⟩
  have HQ : Hid (q = w.heap.size) := hq
  have HQN : Hid (q ∉ fp b bl v ∧ q ∉ fp b' bl' v') := ⟨fun hm => by have := h.d.lt hm; omega, fun hm => by have := h.x.lt hm; omega⟩
  obtain ⟨lx, hlx⟩ : ∃ lx, lx = xs.length := ⟨_, rfl⟩
  have HLX : Hid (lx = xs.length) := hlx
  rw [← hq] at hbx
  rw [← hlx] at hbx HB1 ⊢
  clear h hX hW hxl hlx
  go_enter Try.func10, Try.ntmps10
  go_upto_region 1 with fail
  rw [← hq]
  generalize w.alloc (.cells #[.int .i64 K, .int .i64 B, .slice AX lx cX, .slice AK lK cK] 31) = w1 at hbx HB1 ⊢
  have HBX : Hid (Box w1 q K B AX lx cX AK lK cK) := hbx
  have hbk := hbx.k
  have HS1 : Hid (St w1 lo b bl cl v b' bl' cl' v' n L W) := HST.out.keep0 HB1.out
  clear hbx hq
  go_wp2
  go_ret
  exact ⟨rfl, v, v', L, W, HS1.out, by omega, HB1.out.below HLO.out (by simp)⟩
/-- A deed is done in both disks alike. -/
theorem does_c (K B : Int) (AX : Option Addr) (cX : Nat) (xs : List Int) (AK : Option Addr) (cK : Nat) (ks : List Bool) (h : St w lo b bl cl v b' bl' cl' v' n L W) (hW : W.length ≤ 900) (hX : Rd .u8 w 0 lo AX xs) (hxl : xs.length ≤ 9223372036854775807) (hK : BlL w lo AK ks) (hkl : ks.length ≤ maxLen) :
    Calls Try.prog 10 #[.pointer (some ⟨b, 0, none⟩), .pointer (some ⟨b', 0, none⟩), .agg #[.int .i64 K, .int .i64 B, .slice AX xs.length cX, .slice AK ks.length cK]] w fun e w' => e = .returned (.bool true) ∧ Did w lo b bl cl b' bl' cl' n (W.length + 1) w' := by
  by_cases k0 : K = 0
  · subst k0; exact does_w0 B AX cX xs AK ks.length cK h hW hX hxl
  by_cases k1 : K = 1
  · subst k1; exact does_w1 B AX cX xs AK ks.length cK h hW hX hxl
  by_cases k2 : K = 2
  · subst k2; exact does_w2 B AX cX xs AK ks.length cK h hW hX hxl
  by_cases k3 : K = 3
  · subst k3; exact does_w3 B AX cX xs AK ks.length cK h hW hX hxl
  by_cases k4 : K = 4
  · subst k4; exact does_w4 B AX cX xs AK ks.length cK h hW hX hxl
  by_cases k5 : K = 5
  · subst k5; exact does_5 B AX cX xs AK ks.length cK h hW hX hxl
  by_cases k6 : K = 6
  · subst k6; exact does_6 B AX cX xs AK cK ks h hW hX hxl hK hkl
  exact does_no K B AX cX xs AK ks.length cK h hW hX hxl ⟨k0, k1, k2, k3, k4, k5, k6⟩
end
end Go.Proofs.Ytnjnplepecmfaaa.Dk
