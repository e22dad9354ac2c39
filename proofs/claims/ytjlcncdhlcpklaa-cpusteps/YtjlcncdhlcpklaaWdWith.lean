/-
  Layer 1 (word), for the layers above: WithByte, and the document's own With, over the translated program.
-/
import Derived.Test.YtjlcncdhlcpklaaWdLists
namespace Go.Proofs.Ytjlcncdhlcpklaa.Wd
open Go.ChangeShapes Go.WideShapes Go.ChangeAt Go.RowKit
set_option linter.unusedVariables false
set_option maxRecDepth 20000

theorem bounds_tab {lo hi : Int} (n : Nat) (f : Nat → Int) (h : ∀ j, lo ≤ f j ∧ f j ≤ hi) (h0 : lo ≤ 0) (h1 : 0 ≤ hi) : ∀ j, lo ≤ (tab n f).getD j 0 ∧ (tab n f).getD j 0 ≤ hi := by
  intro j
  rcases Nat.lt_or_ge j n with hj | hj
  · rw [tab_get _ _ _ hj]; exact h j
  · rw [tab_past _ _ _ hj]; exact ⟨h0, h1⟩
set_option maxHeartbeats 1000000 in
theorem withByte_c (a i b : Int) (w : World) (h0 : 0 ≤ a) (h1 : a ≤ 4294967295) (hb0 : 0 ≤ b) (hb1 : b ≤ 255) :
    Calls Try.prog 64 #[.int .u32 a, .int .i64 i, .int .u8 b] w fun e w' => e = .returned (.int .u32 (wth a i b)) ∧ Below w.heap.size w w' := by
  go_enter Try.func64, Try.ntmps64
  go_wp2_with fail
  refine (bytes_c _ _ h0 h1).mono ?_
  rintro e w1 ⟨rfl, hb⟩
  have hz := hb.size
  go_wp2_with fail
  refine (place_c _ _).mono ?_
  rintro e w2 ⟨rfl, rfl⟩
  rcases mod4 i with h | h | h | h
  · have hq : Hid (num4 b (a / 256 % 256) (a / 65536 % 256) (a / 16777216) = wth a i b) := wth0 a i b h h0 h1
    rw [h]
    clear h
    go_wp2_with fail
    refine (of_c _ _ _ _ _ (by omega) (by omega) (by omega) (by omega)).mono ?_
    rintro e w3 ⟨rfl, hb3⟩
    go_wp2
    go_ret
    exact ⟨by rw [← hq.out]; rfl, (hb.alloc hz _).trans (hb3.mono (by simp; omega))⟩
  · have hq : Hid (num4 (a % 256) b (a / 65536 % 256) (a / 16777216) = wth a i b) := wth1 a i b h h0 h1
    rw [h]
    clear h
    go_wp2_with fail
    refine (of_c _ _ _ _ _ (by omega) (by omega) (by omega) (by omega)).mono ?_
    rintro e w3 ⟨rfl, hb3⟩
    go_wp2
    go_ret
    exact ⟨by rw [← hq.out]; rfl, (hb.alloc hz _).trans (hb3.mono (by simp; omega))⟩
  · have hq : Hid (num4 (a % 256) (a / 256 % 256) b (a / 16777216) = wth a i b) := wth2 a i b h h0 h1
    rw [h]
    clear h
    go_wp2_with fail
    refine (of_c _ _ _ _ _ (by omega) (by omega) (by omega) (by omega)).mono ?_
    rintro e w3 ⟨rfl, hb3⟩
    go_wp2
    go_ret
    exact ⟨by rw [← hq.out]; rfl, (hb.alloc hz _).trans (hb3.mono (by simp; omega))⟩
  · have hq : Hid (num4 (a % 256) (a / 256 % 256) (a / 65536 % 256) b = wth a i b) := wth3 a i b h h0 h1
    rw [h]
    clear h
    go_wp2_with fail
    refine (of_c _ _ _ _ _ (by omega) (by omega) (by omega) (by omega)).mono ?_
    rintro e w3 ⟨rfl, hb3⟩
    go_wp2
    go_ret
    exact ⟨by rw [← hq.out]; rfl, (hb.alloc hz _).trans (hb3.mono (by simp; omega))⟩

/-- The four bytes of a number, the one at place p (modulo 4) being b. -/
theorem wdi_set (a i b : Int) (h0 : 0 ≤ a) (h1 : a ≤ 4294967295) (hb0 : 0 ≤ b) (hb1 : b ≤ 255) : wdi ((tab 4 (flj [a])).set (i % 4).toNat b) 0 = wth a i b := by
  have e : tab 4 (flj [a]) = [a % 256, a / 256 % 256, a / 65536 % 256, a / 16777216] := by
    have f0 : flj [a] 0 = a % 256 := byt0 a _ rfl
    have f1 : flj [a] 1 = a / 256 % 256 := byt1 a _ rfl
    have f2 : flj [a] 2 = a / 65536 % 256 := byt2 a _ rfl
    have f3 : flj [a] 3 = a / 16777216 := byt3 a _ rfl h0 h1
    rw [← f0, ← f1, ← f2, ← f3]; rfl
  rw [e]
  rcases mod4 i with h | h | h | h
  · rw [h, ← wth0 a i b h h0 h1]; rfl
  · rw [h, ← wth1 a i b h h0 h1]; rfl
  · rw [h, ← wth2 a i b h h0 h1]; rfl
  · rw [h, ← wth3 a i b h h0 h1]; rfl
theorem set_get (xs : List Int) (p j : Nat) (b : Int) (hp : p < xs.length) : (xs.set p b).getD j 0 = if j = p then b else xs.getD j 0 := by
  by_cases h : j = p
  · subst h; simp [List.getD, hp]
  · rw [if_neg h, List.getD_eq_getElem?_getD, List.getElem?_set_ne (by omega), List.getD_eq_getElem?_getD]

set_option maxHeartbeats 1000000 in
theorem with_c (a i b : Int) (w : World) (h0 : 0 ≤ a) (h1 : a ≤ 4294967295) (hb0 : 0 ≤ b) (hb1 : b ≤ 255) :
    Calls Try.prog 52 #[.int .u32 a, .int .i64 i, .int .u8 b] w fun e w' => e = .returned (.int .u32 (wth a i b)) ∧ Below w.heap.size w w' := by
  have HRA : Hid (Rd .u32 (w.alloc (.cells #[.int .u32 a] 24)) 0 (w.alloc (.cells #[.int .u32 a] 24)).heap.size (some ⟨w.heap.size, 0, none⟩) [a]) := by
    show Rd _ _ _ _ _ _
    refine .inr ⟨w.heap.size, 0, rfl, Nat.zero_le _, by simp, fun j hj => ?_⟩
    obtain rfl : j = 0 := by simp at hj; omega
    exact cell_one_new w _ _ 0 _ rfl
  have HXA : Hid (∀ j, 0 ≤ [a].getD j 0 ∧ [a].getD j 0 ≤ 4294967295) := by
    show ∀ j, 0 ≤ [a].getD j 0 ∧ [a].getD j 0 ≤ 4294967295
    intro j
    rcases j with _ | j
    · exact ⟨h0, h1⟩
    · simp
  have HWS : Hid (wdi ((tab 4 (flj [a])).set (i % 4).toNat b) 0 = wth a i b) := wdi_set a i b h0 h1 hb0 hb1
  go_enter Try.func52, Try.ntmps52
  go_wp2_with fail
  refine (rflat_c (some ⟨w.heap.size, 0, none⟩) 1 1 [a] _ rfl HRA.out HXA.out (by omega)).mono ?_
  rintro e w2 ⟨v2, rfl, o2, b2⟩
  have hz2 := b2.size
  simp at hz2
  obtain ⟨p, hp4, hp⟩ : ∃ p : Nat, p < 4 ∧ (p : Int) = i % 4 := ⟨(i % 4).toNat, by omega, by omega⟩
  have hrm : (wrap64 (i.tmod 4 + 4)).tmod 4 = (p : Int) := by rw [rem4, hp]
  have HW2 : Hid (wdi ((tab 4 (flj [a])).set p b) 0 = wth a i b) := by
    show _ = _
    rw [← HWS.out, show (i % 4).toNat = p by omega]
  have hbw : Below w.heap.size w w2 := ((Below.refl _ _).alloc (Nat.le_refl _) _).trans (b2.mono (by simp))
  obtain ⟨g, cap, rfl, hg, hgl, hnc, hfr, hcell⟩ := own_row o2 (by omega)
  clear o2
  rw [show tab (4 * 1) (flj [a]) = tab 4 (flj [a]) from rfl] at hcell
  have hcp := hcell p (by omega)
  have hfz := hfr p
  simp at hg
  have HRS : Hid (Rd .u8 (w2.setCell ⟨g, p, none⟩ (.int .u8 b)) 0 (w2.setCell ⟨g, p, none⟩ (.int .u8 b)).heap.size (some ⟨g, 0, none⟩) ((tab 4 (flj [a])).set p b)) := by
    show Rd _ _ _ _ _ _
    refine .inr ⟨g, 0, rfl, Nat.zero_le _, by simp [World.setCell]; exact hgl, fun j hj => ?_⟩
    rw [List.length_set, tab_len] at hj
    rw [set_get _ _ _ _ (by rw [tab_len]; exact hp4), Nat.zero_add]
    by_cases hjp : j = p
    · subst hjp
      rw [if_pos rfl]
      exact World.cell?_setCell_same _ _ _ hcp
    · rw [if_neg hjp, World.cell?_setCell_other _ _ _ _ (by intro e; injection e with e1 e2; exact hjp e2.symm)]
      exact hcell j (by omega)
  have HXS : Hid (∀ j, 0 ≤ ((tab 4 (flj [a])).set p b).getD j 0 ∧ ((tab 4 (flj [a])).set p b).getD j 0 ≤ 255) := by
    show ∀ j, _ ∧ _
    intro j
    rw [set_get _ _ _ _ (by rw [tab_len]; exact hp4)]
    split
    · exact ⟨hb0, hb1⟩
    · exact bounds_tab 4 _ (flj_bd [a]) (by omega) (by omega) j
  have hbs : Below w.heap.size w (w2.setCell ⟨g, p, none⟩ (.int .u8 b)) := hbw.setCell (by show w.heap.size ≤ g; omega) _
  clear hcell hfr hp HWS HRA HXA
  go_wp2_with fail
  refine (rwords_c (some ⟨g, 0, none⟩) 4 cap _ _ (by rw [List.length_set, tab_len]) HRS.out HXS.out (by omega)).mono ?_
  rintro e w4 ⟨v4, rfl, o4, b4⟩
  obtain ⟨g4, cap4, rfl, _, _, hnc4, _, hcell4⟩ := own_row o4 (by omega)
  have hc4 := hcell4 0 (by omega)
  rw [tab_get _ _ _ (by omega), HW2.out] at hc4
  clear hcell4 o4
  have hz4 : w2.heap.size ≤ w4.heap.size := by have := b4.size; simpa [World.setCell] using this
  have ball : Below w.heap.size w w4 := hbs.trans (b4.mono (by simp [World.setCell]; omega))
  clear HRS HXS b4 hbs hbw
  go_wp2
  go_ret
  exact ⟨rfl, ball⟩
end Go.Proofs.Ytjlcncdhlcpklaa.Wd
