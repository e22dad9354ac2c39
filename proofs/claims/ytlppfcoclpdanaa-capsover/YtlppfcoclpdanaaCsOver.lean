/-
  Layer 12 (caps): contracts of Lent, lentTo, under, Over, over the translated program.
-/
import Derived.Test.YtlppfcoclpdanaaCsLent
namespace Go.Proofs.Ytlppfcoclpdanaa.Cs
open Go.ChangeShapes Go.WideShapes Go.ChangeAt Go.RowKit
open Wh Sn
set_option linter.unusedVariables false
set_option maxRecDepth 20000

def lentG (T : Tr) (at_ : Int) (g : Nat) : Nat → Bool := fun x => isB T at_ g && lentS T at_ x
theorem lentG_lim {T : Tr} (h : ∀ p, Lim (T p).st) (at_ : Int) (g : Nat) : Lim (lentG T at_ g) := fun x hx => by unfold lentG; rw [lentS_lim h at_ x hx, Bool.and_false]
theorem lentG_yes {T : Tr} {at_ : Int} {g : Nat} (h : isB T at_ g = true) : lentG T at_ g = lentS T at_ := funext fun x => by unfold lentG; rw [h, Bool.true_and]
set_option maxHeartbeats 2000000 in
theorem Lent_c (b m : Nat) (Z : List Nat) (T : Tr) (f : Nat → Value) (at_ : Int) (g : Nat) (w : World) (h : TrAt w b Z T m f) (hL : ∀ p, Lim (T p).st) :
    Calls Try.prog 19 #[.pointer (some ⟨b, 0, none⟩), .agg #[.int .i64 at_, .int .u64 g]] w (Gives w (lentG T at_ g)) := by
  obtain ⟨B, hB⟩ : ∃ B, B = w.heap.size := ⟨_, rfl⟩
  obtain ⟨r1, r2, r3, r4, r5⟩ := two_box w [.int .i64 at_, .int .u64 g] [.slice none 0 0] 26 31
  obtain ⟨w0, hw0⟩ : ∃ w0, w0 = (w.alloc (.cells #[.int .i64 at_, .int .u64 g] 26)).alloc (.cells #[.slice none 0 0] 31) := ⟨_, rfl⟩
  rw [← hw0, ← hB] at r1 r2 r3 r4
  rw [← hw0] at r5
  have HC1 : Hid (w0.cell? ⟨B, 0, none⟩ = some (.int .i64 at_)) := range_cells r1 0 _ rfl
  have HC2 : Hid (w0.cell? ⟨B, 1, none⟩ = some (.int .u64 g)) := range_cells r1 1 _ rfl
  have HC3 : Hid (w0.cell? ⟨B + 1, 0, none⟩ = some (.slice none 0 0)) := range_cells r2 0 _ rfl
  have HF3 : Hid (w0.frozen? ⟨B + 1, 0, none⟩ = false) := there_cell r3 (j := 0) (by simp)
  have HS0 := hid r4
  have HK0 := hid r5
  have HBW := hid hB
  have H0 := hid (h.keep0 r5)
  have HL := hid hL
  clear h r1 r2 r3 r4 r5 hL
  go_enter Try.func19, Try.ntmps19
  go_upto_region 1 with fail
  rw [← hw0, ← hB]
  clear hw0 hB
  have hc1 := HC1.out
  have hc2 := HC2.out
  go_wp2_with fail
  clear hc1 hc2
  refine (there_c b m Z T f at_ g w0 H0.out).mono ?_
  rintro e w1 ⟨rfl, k1⟩
  have HK1 := hid (HK0.out.trans k1)
  have hc1 := cell_keep HC1.out k1 (by simp)
  have HC13 := hid (cell_keep HC3.out k1 (by simp))
  have HF13 : Hid (w1.frozen? ⟨B + 1, 0, none⟩ = false) := (k1.frozen (p := ⟨B + 1, 0, none⟩) (lt_of_cell HC3.out) (by simp)).trans HF3.out
  have H1 := hid (H0.out.keep0 k1)
  have HS1 : Hid (B + 1 < w1.heap.size) := Nat.lt_of_lt_of_le (lt_of_cell HC3.out) k1.size
  clear k1
  by_cases hi : isB T at_ g = true
  · have HI := hid (lentG_yes hi)
    rw [hi]
    clear hi
    go_wp2_with fail
    refine (lent_c b m Z T f at_ w1 H1.out HL.out).mono ?_
    rintro e w2 ⟨A, n, c, rfl, hs2, k2⟩
    have hc3 := cell_keep HC13.out k2 (by simp)
    have hf3 : w2.frozen? ⟨B + 1, 0, none⟩ = false := (k2.frozen (p := ⟨B + 1, 0, none⟩) (lt_of_cell HC13.out) (by simp)).trans HF13.out
    have HX := hid hs2
    have HK2 := hid (HK1.out.trans k2)
    clear hs2 k2 hc1
    go_wp2
    refine bodyPost_ret (results_range1 rfl _ _ (B + 1) 0 [.slice A n c] _ rfl (range1 (World.cell?_setCell_same _ _ _ hc3)) Try.underlying31 rfl sizeSet) rfl ?_
    have hk9 : But [B + 1] w2 (w2.setCell ⟨B + 1, 0, none⟩ (.slice A n c)) := (But.refl [B + 1] w2).setCell (by simp) _
    refine ⟨A, n, c, rfl, ?_, but_own HK2.out hk9 (fun i hi => by have := HBW.out; simp at hi; omega)⟩
    rw [HI.out]
    refine (HX.out.keep hk9 (fun g off e h0 => ?_)).wider HK1.out.size
    subst e
    obtain ⟨g', off', e', h1, _⟩ := HX.out.at_ (k := 0) (by omega)
    injection e' with e'
    injection e' with e' _ _
    subst e'
    have := HS1.out
    simp
    omega
  · have hi : isB T at_ g = false := by simpa using hi
    have HI : Hid (∀ x, lentG T at_ g x = false) := fun x => by unfold lentG; rw [hi, Bool.false_and]
    rw [hi]
    clear hi
    have hc3 := HC13.out
    have hf3 := HF13.out
    go_wp2
    refine bodyPost_ret (results_range1 rfl _ _ (B + 1) 0 [.slice none 0 0] _ rfl (range1 (World.cell?_setCell_same _ _ _ hc3)) Try.underlying31 rfl sizeSet) rfl ?_
    exact ⟨none, 0, 0, rfl, SetAt.nil _ _ HI.out, HK1.out.setCell (.inr (by have := HBW.out; show w.heap.size ≤ B + 1; omega)) _⟩
set_option maxHeartbeats 1000000 in
theorem Lent_nil (at_ : Int) (g : Nat) (w : World) :
    Calls Try.prog 19 #[.pointer none, .agg #[.int .i64 at_, .int .u64 g]] w fun e w' => e = .returned (.agg #[.slice none 0 0]) ∧ But [] w w' := by
  obtain ⟨B, hB⟩ : ∃ B, B = w.heap.size := ⟨_, rfl⟩
  obtain ⟨r1, r2, r3, r4, r5⟩ := two_box w [.int .i64 at_, .int .u64 g] [.slice none 0 0] 26 31
  obtain ⟨w0, hw0⟩ : ∃ w0, w0 = (w.alloc (.cells #[.int .i64 at_, .int .u64 g] 26)).alloc (.cells #[.slice none 0 0] 31) := ⟨_, rfl⟩
  rw [← hw0, ← hB] at r1 r2 r3 r4
  rw [← hw0] at r5
  have HC1 : Hid (w0.cell? ⟨B, 0, none⟩ = some (.int .i64 at_)) := range_cells r1 0 _ rfl
  have HC2 : Hid (w0.cell? ⟨B, 1, none⟩ = some (.int .u64 g)) := range_cells r1 1 _ rfl
  have HC3 : Hid (w0.cell? ⟨B + 1, 0, none⟩ = some (.slice none 0 0)) := range_cells r2 0 _ rfl
  have HF3 : Hid (w0.frozen? ⟨B + 1, 0, none⟩ = false) := there_cell r3 (j := 0) (by simp)
  have HK0 := hid r5
  have HBW := hid hB
  clear r1 r2 r3 r4 r5
  go_enter Try.func19, Try.ntmps19
  go_upto_region 1 with fail
  rw [← hw0, ← hB]
  clear hw0 hB
  have hc1 := HC1.out
  have hc2 := HC2.out
  go_wp2_with fail
  clear hc1 hc2
  refine (there_nil at_ g w0).mono ?_
  rintro e w1 ⟨rfl, k1⟩
  have hc3 := cell_keep HC3.out k1 (by simp)
  have hf3 : w1.frozen? ⟨B + 1, 0, none⟩ = false := (k1.frozen (p := ⟨B + 1, 0, none⟩) (lt_of_cell HC3.out) (by simp)).trans HF3.out
  have HK2 := hid (HK0.out.trans k1)
  clear k1
  go_wp2
  refine bodyPost_ret (results_range1 rfl _ _ (B + 1) 0 [.slice none 0 0] _ rfl (range1 (World.cell?_setCell_same _ _ _ hc3)) Try.underlying31 rfl sizeSet) rfl ?_
  exact ⟨rfl, HK2.out.setCell (.inr (by have := HBW.out; show w.heap.size ≤ B + 1; omega)) _⟩

/-- What a call that tells a place, or none, ends in. -/
def LtV : Option Nat → Value
  | some q => .tuple #[.int .i64 (q : Nat), .bool true]
  | none => .tuple #[.int .i64 0, .bool false]
def ltP (T : Tr) (p : Nat) (x : Int) : Option Nat := (kids T p).find? fun q => hasB (T q).st x
theorem find_at {P : Nat → Bool} : ∀ (L : List Nat) (k : Nat), k < L.length → (∀ j, j < k → P (L.getD j 0) = false) → P (L.getD k 0) = true → L.find? P = some (L.getD k 0)
  | [], k, h, _, _ => by simp at h
  | a :: L, 0, _, _, h => by
    have h' : P a = true := h
    show List.find? P (a :: L) = some a
    rw [List.find?_cons, h']
  | a :: L, k + 1, hl, h1, h => by
    have h0 : P a = false := h1 0 (by omega)
    rw [List.find?_cons, h0]
    exact find_at L k (by simpa using hl) (fun j hj => h1 (j + 1) (by omega)) h
theorem find_no {P : Nat → Bool} {L : List Nat} (h : ∀ j, j < L.length → P (L.getD j 0) = false) : L.find? P = none := by
  rw [List.find?_eq_none]
  intro x hx
  obtain ⟨j, hj, e⟩ := mem_getD hx
  rw [← e, h j hj]; simp
set_option maxHeartbeats 2000000 in
theorem lentTo_c (b m : Nat) (Z : List Nat) (T : Tr) (f : Nat → Value) (a : Nat) (x : Int) (w : World) (h : TrAt w b Z T m f) :
    Calls Try.prog 42 #[.pointer (some ⟨b, 0, none⟩), .int .i64 a, .int .i64 x] w fun e w' => e = .returned (LtV (ltP T a x)) ∧ But [] w w' := by
  have H := hid h
  clear h
  go_enter Try.func42, Try.ntmps42
  go_wp2_with fail
  refine (derived_c b m Z T f a w H.out).mono ?_
  rintro e w2 ⟨A, n, c, rfl, hq2, k2⟩
  obtain ⟨hn, hat⟩ := que_at hq2
  have hle := nums_le (kid T a) 64
  change (kids T a).length ≤ 64 at hle
  have HK2 := hid k2
  have HAT := hid hat
  have HLT : Hid (∀ j, j < n → (kids T a).getD j 0 < 64) := fun j hj => ((nums_mem _ _ _).1 (getD_mem (L := kids T a) (by omega))).1
  have HN := hid hn
  have hn64 : n ≤ 64 := by omega
  clear hq2 hat k2 hn hle
  go_wp2
  go_loopg [14] (n + 1) (fun g0 i wx => ∃ (k : Nat), k + g0 = n + 1 ∧ k ≤ n ∧ i = .int .i64 k ∧ Hid (∀ j, j < k → hasB (T ((kids T a).getD j 0)).st x = false) ∧ Hid (But [] w2 wx))
  case atStart => exact ⟨0, by omega, by omega, rfl, fun j hj => absurd hj (Nat.not_lt_zero _), But.refl _ _⟩
  case round =>
    obtain ⟨k, hkg, hk, rfl, HJ, HB⟩ := hrel
    by_cases hlt : k < n
    · have hkI : (k : Int) < (n : Int) := by omega
      obtain ⟨ga, oa, rfl, _, hga, hca⟩ := HAT.out k hlt
      have hca := cell_keep hca HB.out (by simp)
      have hp64 := HLT.out k hlt
      have HF1 : Hid (hasB (T ((kids T a).getD k 0)).st x = true → ltP T a x = some ((kids T a).getD k 0)) := fun h1 => find_at _ k (by have := HN.out; omega) HJ.out h1
      have HF2 : Hid (hasB (T ((kids T a).getD k 0)).st x = false → ∀ j, j < k + 1 → hasB (T ((kids T a).getD j 0)).st x = false) := fun h1 j hj => by
        rcases Nat.lt_or_ge j k with h2 | h2
        · exact HJ.out j h2
        · obtain rfl : j = k := by omega
          exact h1
      generalize (kids T a).getD k 0 = p at hca hp64 HF1 HF2
      have hpI : (p : Int) < 64 := by omega
      obtain ⟨-, -, A1, n1, c1, -, hcs, hs1, -⟩ := H.out.cells hp64
      have HX1 := hid hs1
      have hcs := cell_keep hcs (HK2.out.trans HB.out) (by simp)
      clear hs1 hga
      go_wp2_with fail
      refine (has_c A1 n1 c1 _ x _ wr (HX1.out.keep0 (HK2.out.trans HB.out))).mono ?_
      rintro e w3 ⟨rfl, k3⟩
      have HB3 := hid (HB.out.trans k3)
      clear k3 hcs hca
      by_cases hx : hasB (T p).st x = true
      · have e := hid (HF1.out hx)
        rw [hx]
        clear hx
        go_wp2
        go_ret2
        exact ⟨by rw [e.out]; rfl, HK2.out.trans HB3.out⟩
      · have hx : hasB (T p).st x = false := by simpa using hx
        have HJ2 := hid (HF2.out hx)
        rw [hx]
        clear hx
        go_wp2
        go_roundg (n + 1 - (k + 1))
        case measure => omega
        case rel => exact ⟨k + 1, by omega, by omega, by go_num, HJ2.out, HB3.out⟩
    · obtain rfl : k = n := by omega
      have e : Hid (ltP T a x = none) := find_no (fun j hj => HJ.out j (by have := HN.out; omega))
      go_wp2
      go_ret2
      exact ⟨by rw [e.out]; rfl, HK2.out.trans HB.out⟩
end Go.Proofs.Ytlppfcoclpdanaa.Cs
