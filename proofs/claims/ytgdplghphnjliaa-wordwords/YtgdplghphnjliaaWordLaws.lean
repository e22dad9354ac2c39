/-
  What follows for lists of numbers and bytes, and for slices that came in; used by the laws of layer 1.
-/
import Derived.Test.YtgdplghphnjliaaWordWords
namespace Go.Proofs.Ytgdplghphnjliaa
open Go.ChangeShapes Go.WideShapes Go.ChangeAt Go.RowKit
set_option linter.unusedVariables false

theorem wd_fl (xs : List Int) (n : Nat) (hn : n = xs.length) (hx : ∀ j, 0 ≤ xs.getD j 0 ∧ xs.getD j 0 ≤ 4294967295) : tab n (wdi (tab (4 * n) (flj xs))) = xs := by
  apply list_ext
  · rw [tab_len, hn]
  · intro j hj
    rw [tab_len] at hj
    rw [tab_get _ _ _ hj]
    unfold wdi
    rw [tab_get _ _ _ (by omega), tab_get _ _ _ (by omega), tab_get _ _ _ (by omega), tab_get _ _ _ (by omega)]
    have e0 := flj_at xs j 0 (by omega)
    rw [Nat.add_zero] at e0
    rw [e0, flj_at xs j 1 (by omega), flj_at xs j 2 (by omega), flj_at xs j 3 (by omega)]
    obtain ⟨h0, h1⟩ := hx j
    rw [byt0 _ _ (by omega), byt1 _ _ (by omega), byt2 _ _ (by omega), byt3 _ _ (by omega) h0 h1]
    exact num4_bytes _ h0 h1
/-- The bytes of the numbers of bytes are these, noughts behind them. -/
theorem fl_wd (bs : List Int) (m j : Nat) (hj : j < 4 * m) (hb : ∀ j, 0 ≤ bs.getD j 0 ∧ bs.getD j 0 ≤ 255) : flj (tab m (wdi bs)) j = bs.getD j 0 := by
  obtain ⟨i, q, hq, rfl⟩ : ∃ i q, q < 4 ∧ j = 4 * i + q := ⟨j / 4, j % 4, by omega, by omega⟩
  rw [flj_at _ _ _ hq, tab_get _ _ _ (by omega)]
  have h0 := hb (4 * i); have h1 := hb (4 * i + 1); have h2 := hb (4 * i + 2); have h3 := hb (4 * i + 3)
  have hw := wdi_bd bs i hb
  have : q = 0 ∨ q = 1 ∨ q = 2 ∨ q = 3 := by omega
  rcases this with rfl | rfl | rfl | rfl
  · rw [byt0 _ _ (by omega)]; rw [Nat.add_zero]; unfold wdi num4; omega
  · rw [byt1 _ _ (by omega)]; unfold wdi num4; omega
  · rw [byt2 _ _ (by omega)]; unfold wdi num4; omega
  · rw [byt3 _ _ (by omega) hw.1 hw.2]; unfold wdi num4; omega
theorem bounds_take {lo hi : Int} {zs : List Int} (h : ∀ n ∈ zs, lo ≤ n ∧ n ≤ hi) (h0 : lo ≤ 0) (h1 : 0 ≤ hi) (m : Nat) : ∀ j, lo ≤ (zs.take m).getD j 0 ∧ (zs.take m).getD j 0 ≤ hi := by
  intro j
  rcases Nat.lt_or_ge j (zs.take m).length with hj | hj
  · have e : (zs.take m).getD j 0 = (zs.take m)[j] := by rw [List.getD_eq_getElem?_getD, List.getElem?_eq_getElem hj]; rfl
    rw [e]
    exact h _ (List.mem_of_mem_take (List.getElem_mem hj))
  · rw [getD_past _ _ hj]; exact ⟨h0, h1⟩
theorem bounds_tab {lo hi : Int} (n : Nat) (f : Nat → Int) (h : ∀ j, lo ≤ f j ∧ f j ≤ hi) (h0 : lo ≤ 0) (h1 : 0 ≤ hi) : ∀ j, lo ≤ (tab n f).getD j 0 ∧ (tab n f).getD j 0 ≤ hi := by
  intro j
  rcases Nat.lt_or_ge j n with hj | hj
  · rw [tab_get _ _ _ hj]; exact h j
  · rw [tab_past _ _ _ hj]; exact ⟨h0, h1⟩
theorem take_get (xs : List Int) (m j : Nat) (h : j < m) : (xs.take m).getD j 0 = xs.getD j 0 := by
  rw [List.getD_eq_getElem?_getD, List.getElem?_take, if_pos h, List.getD_eq_getElem?_getD]
theorem Rd.take {k : IntKind} {w : World} {lo hi : Nat} {A : Option Addr} {xs : List Int} (h : Rd k w lo hi A xs) (m : Nat) : Rd k w lo hi A (xs.take m) := by
  rcases h with h | ⟨b, off, e, h1, h2, hc⟩
  · left; subst h; simp
  · refine .inr ⟨b, off, e, h1, h2, fun j hj => ?_⟩
    rw [List.length_take] at hj
    rw [take_get _ _ _ (by omega)]
    exact hc j (by omega)
end Go.Proofs.Ytgdplghphnjliaa
