/-
  Layer 12 (caps): contracts of lent, Lent, lentTo, over the translated program.
-/
import Derived.Test.YtlppfcoclpdanaaCsKids
import Derived.Test.YtlppfcoclpdanaaLast
namespace Go.Proofs.Ytlppfcoclpdanaa.Cs
open Go.ChangeShapes Go.WideShapes Go.ChangeAt Go.RowKit
open Wh Sn
set_option linter.unusedVariables false
set_option maxRecDepth 20000

theorem Children_nil (at_ : Int) (g : Nat) (w : World) :
    Calls Try.prog 17 #[.pointer none, .agg #[.int .i64 at_, .int .u64 g]] w fun e w' => e = .returned (.slice none 0 0) ∧ But [] w w' := by
  obtain ⟨B, hB⟩ : ∃ B, B = w.heap.size := ⟨_, rfl⟩
  obtain ⟨w0, hw0⟩ : ∃ w0, w0 = w.alloc (.cells #[.int .i64 at_, .int .u64 g] 26) := ⟨_, rfl⟩
  have hr := new_range w [.int .i64 at_, .int .u64 g] 26
  have HK0 : Hid (But [] w w0) := by show But _ _ _; rw [hw0]; exact (But.refl [] w).alloc _
  change (w.alloc (.cells #[.int .i64 at_, .int .u64 g] 26)).rangeAt _ _ _ at hr
  rw [← hw0, ← hB] at hr
  have hc1 : w0.cell? ⟨B, 0, none⟩ = some (.int .i64 at_) := range_cells hr 0 _ rfl
  have hc2 : w0.cell? ⟨B, 1, none⟩ = some (.int .u64 g) := range_cells hr 1 _ rfl
  clear hr
  go_enter Try.func17, Try.ntmps17
  go_upto_region 1 with fail
  rw [← hw0, ← hB]
  clear hw0 hB
  go_wp2_with fail
  clear hc1 hc2
  refine (there_nil at_ g w0).mono ?_
  rintro e w1 ⟨rfl, k1⟩
  have HK1 := hid (HK0.out.trans k1)
  clear k1
  go_wp2
  go_ret
  exact ⟨rfl, HK1.out⟩
theorem q_keep {wb wp wc : World} {p q r s : Nat} {v1 v2 v3 : Value} (k : But [] wp wc) (h : wp.cell? ⟨p, 0, none⟩ = some v1 ∧ wp.cell? ⟨q, s, none⟩ = some v2 ∧ wp.frozen? ⟨p, 0, none⟩ = false ∧ But [] wb wp) :
    wc.cell? ⟨p, 0, none⟩ = some v1 ∧ wc.cell? ⟨q, s, none⟩ = some v2 ∧ wc.frozen? ⟨p, 0, none⟩ = false ∧ But [] wb wc :=
  ⟨cell_keep h.1 k (by simp), cell_keep h.2.1 k (by simp), (k.frozen (p := ⟨p, 0, none⟩) (lt_of_cell h.1) (by simp)).trans h.2.2.1, h.2.2.2.trans k⟩
theorem lentS_lim {T : Tr} (h : ∀ p, Lim (T p).st) (a : Int) : Lim (lentS T a) := sAny_lim h _
set_option maxHeartbeats 4000000 in
theorem lent_c (b m : Nat) (Z : List Nat) (T : Tr) (f : Nat → Value) (at_ : Int) (w : World) (h : TrAt w b Z T m f) (hL : ∀ p, Lim (T p).st) :
    Calls Try.prog 41 #[.pointer (some ⟨b, 0, none⟩), .int .i64 at_] w (Gives w (lentS T at_)) := by
  obtain ⟨B, hB⟩ : ∃ B, B = w.heap.size := ⟨_, rfl⟩
  obtain ⟨r1, r2, r3, r4, r5⟩ := two_box w [.slice none 0 0] [.slice none 0 0] 31 31
  obtain ⟨w0, hw0⟩ : ∃ w0, w0 = (w.alloc (.cells #[.slice none 0 0] 31)).alloc (.cells #[.slice none 0 0] 31) := ⟨_, rfl⟩
  have h1 := there_keep (l := []) (there_new w #[.slice none 0 0] 31 1 rfl) ((But.refl [] _).alloc (.cells #[.slice none 0 0] 31)) (by simp) (by simp)
  rw [← hw0, ← hB] at r1 r2 r3 r4 h1
  rw [← hw0] at r5
  have HC1 : Hid (w0.cell? ⟨B, 0, none⟩ = some (.slice none 0 0)) := range_cells r1 0 _ rfl
  have HF1 : Hid (w0.frozen? ⟨B, 0, none⟩ = false) := there_cell h1 (j := 0) (by simp)
  have HC2 : Hid (w0.cell? ⟨B + 1, 0, none⟩ = some (.slice none 0 0)) := range_cells r2 0 _ rfl
  have HF2 : Hid (w0.frozen? ⟨B + 1, 0, none⟩ = false) := there_cell r3 (j := 0) (by simp)
  have HS0 := hid r4
  have HK0 := hid r5
  have HBW := hid hB
  have H := hid h
  have HL := hid hL
  have hb := h.low b h.mem
  have hbB : b ≠ B + 1 := by omega
  clear h r1 r2 r3 r4 r5 h1 hL hb
  go_enter Try.func41, Try.ntmps41
  go_upto_region 2 with fail
  rw [← hw0, ← hB]
  clear hw0 hB
  go_wp2_with fail
  refine (derived_c b m Z T f at_ w0 (H.out.keep0 HK0.out)).mono ?_
  rintro e w2 ⟨A, n, c, rfl, hq2, k2⟩
  obtain ⟨hn, hat⟩ := que_at hq2
  have hle := nums_le (kid T at_) 64
  change (kids T at_).length ≤ 64 at hle
  have HK2 := hid (HK0.out.trans k2)
  have HAT := hid hat
  have HLT : Hid (∀ j, j < n → (kids T at_).getD j 0 < 64) := fun j hj => ((nums_mem _ _ _).1 (getD_mem (L := kids T at_) (by omega))).1
  have HN := hid hn
  have hn64 : n ≤ 64 := by omega
  have HC12 := hid (cell_keep HC1.out k2 (by simp))
  have HF12 : Hid (w2.frozen? ⟨B, 0, none⟩ = false) := (k2.frozen (p := ⟨B, 0, none⟩) (lt_of_cell HC1.out) (by simp)).trans HF1.out
  have HC22 := hid (cell_keep HC2.out k2 (by simp))
  have HF22 : Hid (w2.frozen? ⟨B + 1, 0, none⟩ = false) := (k2.frozen (p := ⟨B + 1, 0, none⟩) (lt_of_cell HC2.out) (by simp)).trans HF2.out
  have HS2 : Hid (B + 1 < w2.heap.size) := Nat.lt_of_lt_of_le (lt_of_cell HC2.out) k2.size
  have HS02 := hid k2.size
  have HQA : Hid (∀ g, (Value.slice A n c).ownBlock = some g → B + 1 < g) := fun g hg => by have := (hq2.lt g (by rw [hg]; simp)).1; have := HS0.out; omega
  clear hq2 hat k2 hn hle
  go_wp2
  go_loopg [12] (n + 1) (fun g0 i wx => ∃ (k nx cx : Nat) (Ax : Option Addr), k + g0 = n + 1 ∧ k ≤ n ∧ i = .int .i64 k ∧ Hid (wx.cell? ⟨B + 1, 0, none⟩ = some (.slice Ax nx cx)) ∧ Hid (wx.frozen? ⟨B + 1, 0, none⟩ = false) ∧ Hid (SetAt wx w0.heap.size Ax nx (sAny T ((kids T at_).take k))) ∧ Hid (But [B + 1] w2 wx))
  case atStart => exact ⟨0, 0, 0, none, by omega, by omega, rfl, HC22.out, HF22.out, SetAt.nil _ _ (fun _ => rfl), But.refl _ _⟩
  case round =>
    obtain ⟨k, nx, cx, Ax, hkg, hk, rfl, HC, HF, HX, HB⟩ := hrel
    by_cases hlt : k < n
    · have hkI : (k : Int) < (n : Int) := by omega
      obtain ⟨ga, oa, rfl, _, hga, hca⟩ := HAT.out k hlt
      have hnB : ga ≠ B + 1 := by have := HQA.out ga rfl; omega
      have hca := cell_keep hca HB.out (by simpa using hnB)
      have hp64 := HLT.out k hlt
      have hsn := sAny_snoc T ((kids T at_).take k) ((kids T at_).getD k 0)
      rw [← take_snoc (by have := HN.out; omega)] at hsn
      have HSN := hid hsn
      generalize (kids T at_).getD k 0 = p at *
      have hpI : (p : Int) < 64 := by omega
      have HKW : Hid (But [] w wr) := but_own HK2.out HB.out (fun i hi => by have := HBW.out; simp at hi; omega)
      obtain ⟨-, -, A1, n1, c1, -, hcs, hs1, -⟩ := H.out.cells hp64
      have HX1 := hid hs1
      have hS0 : wr.drew.cell? ⟨B + 1, 0, none⟩ = some (.slice Ax nx cx) ∧ wr.drew.cell? ⟨b, p * 3 + 2, none⟩ = some (.slice A1 n1 c1) ∧ wr.drew.frozen? ⟨B + 1, 0, none⟩ = false ∧ But [] wr wr.drew := ⟨HC.out, cell_keep hcs HKW.out.drew (by simp), HF.out, (But.refl [] wr).drew⟩
      clear hga hsn hs1 hcs
      go_upto_region 5 with fail
      refine till_begin (fun w' => w'.cell? ⟨B + 1, 0, none⟩ = some (.slice Ax nx cx) ∧ w'.cell? ⟨b, p * 3 + 2, none⟩ = some (.slice A1 n1 c1) ∧ w'.frozen? ⟨B + 1, 0, none⟩ = false ∧ But [] wr w') 9 (by kernel_rfl) ?_
      refine till_take 0 (some 16) (.agg #[.slice Ax nx cx]) rfl rfl (by kernel_rfl) (by kernel_rfl) (by kernel_rfl) (by kernel_rfl) (by decide) (fun _ _ _ h => h) (Or.inl ⟨by rfl, fun w' hw' => by obtain ⟨hw1, -⟩ := hw'; go_simp⟩) hS0 ?_
      simp only [Act.put, List.setIfInBounds_toArray, List.set_cons_zero, List.set_cons_succ]
      refine till_take 1 (some 17) (.pointer (some ⟨b, 0, none⟩)) rfl rfl (by kernel_rfl) (by kernel_rfl) (by kernel_rfl) (by kernel_rfl) (by decide) (fun _ _ _ h => h) (Or.inl ⟨by rfl, fun w' hw' => by go_simp⟩) hS0 ?_
      simp only [Act.put, List.setIfInBounds_toArray, List.set_cons_zero, List.set_cons_succ]
      refine till_take 2 (some 18) (.int .i64 p) rfl rfl (by kernel_rfl) (by kernel_rfl) (by kernel_rfl) (by kernel_rfl) (by decide) (fun _ _ _ h => h) (Or.inl ⟨by rfl, fun w' hw' => by go_simp⟩) hS0 ?_
      simp only [Act.put, List.setIfInBounds_toArray, List.set_cons_zero, List.set_cons_succ]
      refine till_take 3 (some 19) (.pointer (some ⟨b, 0, none⟩)) rfl rfl (by kernel_rfl) (by kernel_rfl) (by kernel_rfl) (by kernel_rfl) (by decide) (fun _ _ _ h => h) (Or.inl ⟨by rfl, fun w' hw' => by go_simp⟩) hS0 ?_
      simp only [Act.put, List.setIfInBounds_toArray, List.set_cons_zero, List.set_cons_succ]
      refine till_take 4 (some 20) (.pointer (some ⟨b, 0, none⟩)) rfl rfl (by kernel_rfl) (by kernel_rfl) (by kernel_rfl) (by kernel_rfl) (by decide) (fun _ _ _ h => h) (Or.inl ⟨by rfl, fun w' hw' => by go_simp⟩) hS0 ?_
      simp only [Act.put, List.setIfInBounds_toArray, List.set_cons_zero, List.set_cons_succ]
      refine till_take 5 (some 21) (.pointer (some ⟨b, p * 3, none⟩)) rfl rfl (by kernel_rfl) (by kernel_rfl) (by kernel_rfl) (by kernel_rfl) (by decide) (fun _ _ _ h => h) (Or.inl ⟨by rfl, fun w' hw' => by go_simp⟩) hS0 ?_
      simp only [Act.put, List.setIfInBounds_toArray, List.set_cons_zero, List.set_cons_succ]
      refine till_take 6 (some 22) (.pointer (some ⟨b, p * 3 + 2, none⟩)) rfl rfl (by kernel_rfl) (by kernel_rfl) (by kernel_rfl) (by kernel_rfl) (by decide) (fun _ _ _ h => h) (Or.inl ⟨by rfl, fun w' hw' => by go_simp⟩) hS0 ?_
      simp only [Act.put, List.setIfInBounds_toArray, List.set_cons_zero, List.set_cons_succ]
      refine till_take 7 (some 23) (.agg #[.slice A1 n1 c1]) rfl rfl (by kernel_rfl) (by kernel_rfl) (by kernel_rfl) (by kernel_rfl) (by decide) (fun _ _ _ h => h) (Or.inl ⟨by rfl, fun w' hw' => by obtain ⟨-, hw1, -⟩ := hw'; go_simp⟩) hS0 ?_
      simp only [Act.put, List.setIfInBounds_toArray, List.set_cons_zero, List.set_cons_succ]
      refine till_one' 8 rfl (by kernel_rfl) (by rfl) (fun K hK => ?_)
      go_simp
      refine (with_c Ax A1 nx n1 cx c1 _ _ _ _ _ (HX.out.keep0 (But.refl [] wr).drew) (HX1.out.keep0 HKW.out.drew)).mono ?_
      rintro e w6 ⟨A6, n6, c6, rfl, hs6, k6⟩
      go_wp2_with fail
      have hS8 := q_keep (r := 0) (v3 := undef) k6 hS0
      refine hK.out _ _ ⟨fun _ => hS8, ?_⟩
      clear hK K hS0
      try simp only [Act.put, List.setIfInBounds_toArray, List.set_cons_zero, List.set_cons_succ]
      refine till_one' 9 rfl (by kernel_rfl) (by rfl) (fun K hK => ?_)
      have hcz := hS8.1
      have hfz := hS8.2.2.1
      go_simp
      refine hK.out _ _ ⟨fun h => absurd rfl h, ?_⟩
      clear hK K
      refine till_done (by kernel_rfl) ?_ _
      have HB6 : Hid (But [B + 1] w2 w6) := HB.out.trans (hS8.2.2.2.any _)
      have hk7 : But [B + 1] w6 (w6.setCell ⟨B + 1, 0, none⟩ (.slice A6 n6 c6)) := (But.refl [B + 1] w6).setCell (by simp) _
      have HC7 : Hid ((w6.setCell ⟨B + 1, 0, none⟩ (.slice A6 n6 c6)).cell? ⟨B + 1, 0, none⟩ = some (.slice A6 n6 c6)) := World.cell?_setCell_same _ _ _ hS8.1
      have HF7 : Hid ((w6.setCell ⟨B + 1, 0, none⟩ (.slice A6 n6 c6)).frozen? ⟨B + 1, 0, none⟩ = false) := by show _ = _; rw [World.frozen?_setCell]; exact hS8.2.2.1
      have HX7 : Hid (SetAt (w6.setCell ⟨B + 1, 0, none⟩ (.slice A6 n6 c6)) w0.heap.size A6 n6 (sAny T ((kids T at_).take (k + 1)))) := by
        show SetAt _ _ _ _ _
        rw [← HSN.out]
        refine (hs6.keep hk7 (fun g off e h0 => ?_)).wider ?_
        · subst e
          obtain ⟨g', off', e', h1, _⟩ := hs6.at_ (k := 0) (by omega)
          injection e' with e'
          injection e' with e' _ _
          subst e'
          have := HS2.out
          have := HB.out.size
          simp
          have h1' : wr.heap.size ≤ g := h1
          omega
        · have := HB.out.size; have := HS02.out; show _ ≤ wr.heap.size; omega
      have HB7 := hid (HB6.out.trans hk7)
      clear hS8 hs6 hk7
      generalize w6.setCell ⟨B + 1, 0, none⟩ (.slice A6 n6 c6) = w7 at *
      try simp only [Act.put, List.setIfInBounds_toArray]
      go_wp2
      go_roundg (n + 1 - (k + 1))
      case measure => omega
      case rel => exact ⟨k + 1, n6, c6, A6, by omega, by omega, by go_num, HC7.out, HF7.out, HX7.out, HB7.out⟩
    · obtain rfl : k = n := by omega
      have hc2 := HC.out
      have hc1 := cell_keep HC12.out HB.out (by simp)
      have hf1 : wr.frozen? ⟨B, 0, none⟩ = false := (HB.out.frozen (p := ⟨B, 0, none⟩) (lt_of_cell HC12.out) (by simp)).trans HF12.out
      have hX := HX.out
      rw [List.take_of_length_le (by have := HN.out; omega)] at hX
      have HX2 := hid hX
      clear hX
      go_wp2
      refine bodyPost_ret (results_range1 rfl _ _ B 0 [.slice Ax nx cx] _ rfl (range1 (World.cell?_setCell_same _ _ _ hc1)) Try.underlying31 rfl sizeSet) rfl ?_
      have hk9 : But [B] wr (wr.setCell ⟨B, 0, none⟩ (.slice Ax nx cx)) := (But.refl [B] wr).setCell (by simp) _
      refine ⟨Ax, nx, cx, rfl, ?_, but_own (but_own HK2.out HB.out (fun i hi => by have := HBW.out; simp at hi; omega)) hk9 (fun i hi => by have := HBW.out; simp at hi; omega)⟩
      refine (HX2.out.keep hk9 (fun g off e h0 => ?_)).wider HK0.out.size
      subst e
      obtain ⟨g', off', e', h1, _⟩ := HX2.out.at_ (k := 0) (by omega)
      injection e' with e'
      injection e' with e' _ _
      subst e'
      have := HS0.out
      simp
      omega
end Go.Proofs.Ytlppfcoclpdanaa.Cs
