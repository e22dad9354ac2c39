/-
  Layer 12 (caps): contracts of Parent, Children, over the translated program.
-/
import Derived.Test.YtlppfcoclpdanaaCsRead
namespace Go.Proofs.Ytlppfcoclpdanaa.Cs
open Go.ChangeShapes Go.WideShapes Go.ChangeAt Go.RowKit
open Wh Sn
set_option linter.unusedVariables false
set_option maxRecDepth 20000

set_option maxHeartbeats 1000000 in
theorem Set_nil (at_ : Int) (g : Nat) (w : World) :
    Calls Try.prog 14 #[.pointer none, .agg #[.int .i64 at_, .int .u64 g]] w fun e w' => e = .returned (.tuple #[.agg #[.slice none 0 0], .bool false]) ∧ But [] w w' := by
  obtain ⟨B, hB⟩ : ∃ B, B = w.heap.size := ⟨_, rfl⟩
  obtain ⟨r1, r2, r3, r4, r5⟩ := two_box w [.int .i64 at_, .int .u64 g] [.slice none 0 0] 26 31
  obtain ⟨w0, hw0⟩ : ∃ w0, w0 = (w.alloc (.cells #[.int .i64 at_, .int .u64 g] 26)).alloc (.cells #[.slice none 0 0] 31) := ⟨_, rfl⟩
  rw [← hw0, ← hB] at r1 r2 r3 r4
  rw [← hw0] at r5
  have HC1 : Hid (w0.cell? ⟨B, 0, none⟩ = some (.int .i64 at_)) := range_cells r1 0 _ rfl
  have HC2 : Hid (w0.cell? ⟨B, 1, none⟩ = some (.int .u64 g)) := range_cells r1 1 _ rfl
  have HC3 : Hid (w0.cell? ⟨B + 1, 0, none⟩ = some (.slice none 0 0)) := range_cells r2 0 _ rfl
  have HF3 : Hid (w0.frozen? ⟨B + 1, 0, none⟩ = false) := there_cell r3 (j := 0) (by simp)
  have HK0 := hid r5
  have HBW := hid hB
  clear r1 r2 r3 r4 r5
  go_enter Try.func14, Try.ntmps14
  go_upto_region 1 with fail
  rw [← hw0, ← hB]
  clear hw0 hB
  have hc1 := HC1.out
  have hc2 := HC2.out
  go_wp2_with fail
  clear hc1 hc2
  refine (there_nil at_ g w0).mono ?_
  rintro e w1 ⟨rfl, k1⟩
  have hc3 := cell_keep HC3.out k1 (by simp)
  have hf3 : w1.frozen? ⟨B + 1, 0, none⟩ = false := (k1.frozen (p := ⟨B + 1, 0, none⟩) (lt_of_cell HC3.out) (by simp)).trans HF3.out
  have HK2 := hid (HK0.out.trans k1)
  clear k1
  go_wp2
  refine bodyPost_ret (results_range rfl _ _ (B + 1) 0 [.slice none 0 0] _ rfl (range1 (World.cell?_setCell_same _ _ _ hc3)) Try.underlying31 rfl sizeSet) rfl ?_
  exact ⟨rfl, HK2.out.setCell (.inr (by have := HBW.out; show w.heap.size ≤ B + 1; omega)) _⟩

theorem capAll (x y : Int) : (#[Value.int .i64 x, .int .u64 y] : Array Value).all (·.oneCell') = true :=
  all_oneCell_toArray (cs := [.int .i64 x, .int .u64 y]) (fun v hv => by
    simp only [List.mem_cons, List.not_mem_nil, or_false] at hv
    rcases hv with rfl | rfl <;> rfl)
theorem there_two {w : World} {b : Nat} (h : w.there b 0 2) : ∃ u v, w.cell? ⟨b, 0, none⟩ = some u ∧ w.cell? ⟨b, 1, none⟩ = some v ∧ w.frozen? ⟨b, 0, none⟩ = false ∧ w.frozen? ⟨b, 1, none⟩ = false := by
  obtain ⟨h1, h2⟩ := h 0 (by omega)
  obtain ⟨h3, h4⟩ := h 1 (by omega)
  obtain ⟨u, hu⟩ := Option.isSome_iff_exists.1 h1
  obtain ⟨v, hv⟩ := Option.isSome_iff_exists.1 h3
  exact ⟨u, v, hu, hv, h2, h4⟩
theorem range_two {w : World} {b : Nat} {u v x y : Value} (h1 : w.cell? ⟨b, 0, none⟩ = some u) (h2 : w.cell? ⟨b, 1, none⟩ = some v) : ((w.setCell ⟨b, 0, none⟩ x).setCell ⟨b, 1, none⟩ y).rangeAt b 0 [x, y] := fun j u' hu => by
  match j, hu with
  | 0, hu =>
    obtain rfl := Option.some.inj hu
    rw [World.cell?_setCell_other _ _ _ _ (by intro e'; injection e' with e1 e2; omega)]
    exact World.cell?_setCell_same _ _ _ h1
  | 1, hu =>
    obtain rfl := Option.some.inj hu
    have h3 : (w.setCell ⟨b, 0, none⟩ x).cell? ⟨b, 1, none⟩ = some v := by
      rw [World.cell?_setCell_other _ _ _ _ (by intro e'; injection e' with e1 e2; omega)]
      exact h2
    exact World.cell?_setCell_same _ _ _ h3
  | j + 2, hu => simp at hu
/-- What Parent tells. -/
def ParV (T : Tr) (at_ : Int) (g : Nat) : Value :=
  if (isB T at_ g && decide (at_ ≠ 0)) = true then .tuple #[.agg #[.int .i64 (T at_.toNat).par, .int .u64 (T (T at_.toNat).par.toNat).gen], .bool true] else .tuple #[.agg #[.int .i64 0, .int .u64 0], .bool false]
theorem ParV_no {T : Tr} {at_ : Int} {g : Nat} (h : (isB T at_ g && decide (at_ ≠ 0)) = false) : ParV T at_ g = .tuple #[.agg #[.int .i64 0, .int .u64 0], .bool false] := if_neg (by rw [h]; simp)
theorem ParV_yes {T : Tr} {a g q : Nat} (h : isB T a g = true) (h0 : a ≠ 0) (hq : (T a).par = q) : ParV T a g = .tuple #[.agg #[.int .i64 q, .int .u64 (T q).gen], .bool true] := by
  unfold ParV
  rw [if_pos (by rw [h]; simp; omega), Int.toNat_natCast, hq, Int.toNat_natCast]
theorem p_keep {wb wp wc : World} {p q r s : Nat} {v1 v2 : Value} (k : But [] wp wc) (h : wp.cell? ⟨p, r, none⟩ = some v1 ∧ wp.cell? ⟨q, s, none⟩ = some v2 ∧ But [] wb wp) :
    wc.cell? ⟨p, r, none⟩ = some v1 ∧ wc.cell? ⟨q, s, none⟩ = some v2 ∧ But [] wb wc :=
  ⟨cell_keep h.1 k (by simp), cell_keep h.2.1 k (by simp), h.2.2.trans k⟩
theorem p_store {w wp : World} {p q r s t : Nat} {v1 v2 x y : Value} (hp : p ≠ t) (hq : q ≠ t) (ht : w.heap.size ≤ t) (h : wp.cell? ⟨p, r, none⟩ = some v1 ∧ wp.cell? ⟨q, s, none⟩ = some v2 ∧ But [] w wp) :
    ((wp.setCell ⟨t, 0, none⟩ x).setCell ⟨t, 1, none⟩ y).cell? ⟨p, r, none⟩ = some v1 ∧ ((wp.setCell ⟨t, 0, none⟩ x).setCell ⟨t, 1, none⟩ y).cell? ⟨q, s, none⟩ = some v2 ∧ But [] w ((wp.setCell ⟨t, 0, none⟩ x).setCell ⟨t, 1, none⟩ y) := by
  have k : But [t] wp ((wp.setCell ⟨t, 0, none⟩ x).setCell ⟨t, 1, none⟩ y) := ((But.refl [t] wp).setCell (by simp) _).setCell (by simp) _
  exact ⟨cell_keep h.1 k (by simpa using hp), cell_keep h.2.1 k (by simpa using hq), but_own h.2.2 k (by simpa using ht)⟩
set_option maxHeartbeats 2000000 in
theorem Parent_c (b m : Nat) (Z : List Nat) (T : Tr) (f : Nat → Value) (at_ : Int) (g : Nat) (w : World) (h : TrAt w b Z T m f) (hW : Wf T m) :
    Calls Try.prog 15 #[.pointer (some ⟨b, 0, none⟩), .agg #[.int .i64 at_, .int .u64 g]] w fun e w' => e = .returned (ParV T at_ g) ∧ But [] w w' := by
  obtain ⟨B, hB⟩ : ∃ B, B = w.heap.size := ⟨_, rfl⟩
  obtain ⟨r1, r2, r3, r4, r5⟩ := two_box w [.int .i64 at_, .int .u64 g] [.int .i64 0, .int .u64 0] 26 26
  obtain ⟨w0, hw0⟩ : ∃ w0, w0 = (w.alloc (.cells #[.int .i64 at_, .int .u64 g] 26)).alloc (.cells #[.int .i64 0, .int .u64 0] 26) := ⟨_, rfl⟩
  rw [← hw0, ← hB] at r1 r2 r3 r4
  rw [← hw0] at r5
  have HC1 : Hid (w0.cell? ⟨B, 0, none⟩ = some (.int .i64 at_)) := range_cells r1 0 _ rfl
  have HC2 : Hid (w0.cell? ⟨B, 1, none⟩ = some (.int .u64 g)) := range_cells r1 1 _ rfl
  have HT3 : Hid (w0.there (B + 1) 0 2) := r3
  have HS0 := hid r4
  have HK0 := hid r5
  have HBW := hid hB
  have HW := hid hW
  have H := hid h
  have H0 := hid (h.keep0 r5)
  clear h r1 r2 r3 r4 r5 hW
  go_enter Try.func15, Try.ntmps15
  go_upto_region 1 with fail
  rw [← hw0, ← hB]
  clear hw0 hB
  have hc1 := HC1.out
  have hc2 := HC2.out
  go_wp2_with fail
  clear hc1 hc2
  refine (there_c b m Z T f at_ g w0 H0.out).mono ?_
  rintro e w1 ⟨rfl, k1⟩
  have hk1 := hid k1
  have hc1 := cell_keep HC1.out k1 (by simp)
  have HT1 := hid (there_keep HT3.out k1 (by have := HS0.out; omega) (by simp))
  have H1 := hid (H0.out.keep0 k1)
  have HK1 := hid (HK0.out.trans k1)
  have HS1 := hid (Nat.lt_of_lt_of_le (show B + 1 < w0.heap.size by have := HS0.out; omega) k1.size)
  clear k1
  have hfin : Hid (∀ vs, But [] w (w1.setCells (B + 1) 0 vs)) := fun vs => HK1.out.setCells (.inr (by have := HBW.out; omega)) vs 0
  by_cases hi : isB T at_ g = true
  · obtain ⟨a, rfl, ha, hg0, hga⟩ := isB_iff.1 hi
    have HI2 := hid hi
    rw [hi]
    have haI : (a : Int) < 64 := by omega
    have haI0 : (0 : Int) ≤ (a : Int) := by omega
    by_cases ha0 : a = 0
    · subst ha0
      have HP := hid (ParV_no (T := T) (at_ := ((0 : Nat) : Int)) (g := g) (by simp))
      clear hi hga
      go_wp2_with (first
        | (refine wpList_store_mid rfl 26 _ _ rfl (B + 1) 0 #[.int .i64 0, .int .u64 0] rfl rfl ?ht sizeCap (capAll _ _) ?_; case ht => exact HT1.out))
      refine bodyPost_ret (results_range rfl _ _ (B + 1) 0 [.int .i64 0, .int .u64 0] _ rfl (World.rangeAt_setCells_same _ _ _ _ HT1.out) Try.underlying26 rfl sizeCap) rfl ?_
      exact ⟨by rw [HP.out]; rfl, hfin.out _⟩
    · obtain ⟨q, hq, hgq, -, -⟩ := HW.out.par a (by omega) ha0
      have hq64 := HW.out.lt q hgq
      have HP := hid (ParV_yes hi ha0 hq)
      have hne : ((a : Int) == 0) = false := by simp; omega
      obtain ⟨-, hcp, -⟩ := H.out.cells ha
      have hcp := cell_keep hcp HK1.out (by simp)
      rw [hq] at hcp
      have hS : Hid (w1.drew.cell? ⟨B, 0, none⟩ = some (.int .i64 a) ∧ w1.drew.cell? ⟨b, a * 3 + 1, none⟩ = some (.int .i64 q) ∧ But [] w w1.drew) := ⟨hc1, hcp, HK1.out.drew⟩
      have hbB : b ≠ B + 1 := by have := H.out.low b H.out.mem; have := HBW.out; omega
      have hBB : B ≠ B + 1 := by omega
      have hwB : w.heap.size ≤ B + 1 := by have := HBW.out; omega
      clear hi hga hq hgq
      go_upto_region 3 with fail
      go_region_held3 (fun w' => w'.cell? ⟨B, 0, none⟩ = some (.int .i64 a) ∧ w'.cell? ⟨b, a * 3 + 1, none⟩ = some (.int .i64 q) ∧ But [] w w')
        (first | exact hS.out | assumption | exact p_keep (by assumption) (by assumption) | exact p_store hBB hbB hwB (by assumption))
        (first
          | (go_at_call 38
             refine (cap_c b m Z T f q hq64 _ (H.out.keep0 (held3 (by assumption)))).mono ?_
             rintro e w2 ⟨rfl, k2⟩
             have HT2 := there_two (there_keep HT1.out ((But.refl [] w1).drew.trans k2) HS1.out (by simp))
             obtain ⟨u1, u2, hu1, hu2, hz1, hz2⟩ := HT2))
      go_wp2
      refine bodyPost_ret (results_range rfl _ _ (B + 1) 0 [.int .i64 q, .int .u64 (T q).gen] _ rfl (range_two hu1 hu2) Try.underlying26 rfl sizeCap) rfl ?_
      exact ⟨by rw [HP.out]; rfl, held3 (by assumption)⟩
  · have hi : isB T at_ g = false := by simpa using hi
    have HP := hid (ParV_no (T := T) (at_ := at_) (g := g) (by rw [hi]; rfl))
    rw [hi]
    clear hi
    go_wp2_with (first
      | (refine wpList_store_mid rfl 26 _ _ rfl (B + 1) 0 #[.int .i64 0, .int .u64 0] rfl rfl ?ht sizeCap (capAll _ _) ?_; case ht => exact HT1.out))
    refine bodyPost_ret (results_range rfl _ _ (B + 1) 0 [.int .i64 0, .int .u64 0] _ rfl (World.rangeAt_setCells_same _ _ _ _ HT1.out) Try.underlying26 rfl sizeCap) rfl ?_
    exact ⟨by rw [HP.out]; rfl, hfin.out _⟩
end Go.Proofs.Ytlppfcoclpdanaa.Cs
