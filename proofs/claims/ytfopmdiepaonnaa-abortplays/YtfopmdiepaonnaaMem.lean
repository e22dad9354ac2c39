/-
  Words of my own for memory: a slice of integers that reads as a list; tables of numbers. Nothing of the program is named here.
-/
import Derived.WalkKit
import Derived.ProofKit
import Derived.OpenShut
import Derived.Below
import Derived.OwnWalk
import Derived.Deep.OwnRows
import Derived.Deep.Draws
import Derived.Laws.CopyOwn
namespace Go.Proofs.Ytfopmdiepaonnaa
open Go.RowKit
set_option linter.unusedVariables false

/-- The first n values of a function, as a list. -/
def tab (n : Nat) (f : Nat → Int) : List Int := (List.range n).map f
theorem tab_len (n : Nat) (f : Nat → Int) : (tab n f).length = n := by simp [tab]
theorem tab_snoc (n : Nat) (f : Nat → Int) : tab (n + 1) f = tab n f ++ [f n] := by simp [tab, List.range_succ]
theorem tab_get (n : Nat) (f : Nat → Int) (j : Nat) (h : j < n) : (tab n f).getD j 0 = f j := by simp [tab, List.getD, h]
theorem tab_past (n : Nat) (f : Nat → Int) (j : Nat) (h : n ≤ j) : (tab n f).getD j 0 = 0 := by
  rw [List.getD_eq_getElem?_getD, List.getElem?_eq_none (by rw [tab_len]; exact h)]; rfl
theorem list_ext {xs ys : List Int} (hl : xs.length = ys.length) (h : ∀ j, j < xs.length → xs.getD j 0 = ys.getD j 0) : xs = ys := by
  apply List.ext_getElem hl
  intro j h1 h2
  have := h j h1
  simpa [List.getD, h1, h2] using this

theorem one_int (k : IntKind) (x : Int) : ∀ u ∈ [Value.int k x], u.oneCell' = true := by
  intro u hu
  simp only [List.mem_singleton] at hu
  subst hu
  rfl
/-- The slice that begins at A reads as the numbers xs; its block lies from lo on, below hi. -/
def Rd (k : IntKind) (w : World) (lo hi : Nat) (A : Option Addr) (xs : List Int) : Prop :=
  xs = [] ∨ ∃ b off, A = some ⟨b, off, none⟩ ∧ lo ≤ b ∧ b < hi ∧ ∀ j, j < xs.length → w.cell? ⟨b, off + j, none⟩ = some (.int k (xs.getD j 0))

theorem Rd.keep {k : IntKind} {w w' : World} {lo hi : Nat} {A : Option Addr} {xs : List Int} (h : Rd k w lo hi A xs) (hb : Below hi w w') : Rd k w' lo hi A xs := by
  rcases h with h | ⟨b, off, e, h1, h2, hc⟩
  · exact .inl h
  · exact .inr ⟨b, off, e, h1, h2, fun j hj => (hb.cell (p := ⟨b, off + j, none⟩) h2).trans (hc j hj)⟩
theorem Rd.wider {k : IntKind} {w : World} {lo lo' hi hi' : Nat} {A : Option Addr} {xs : List Int} (h : Rd k w lo hi A xs) (hl : lo' ≤ lo) (hh : hi ≤ hi') : Rd k w lo' hi' A xs := by
  rcases h with h | ⟨b, off, e, h1, h2, hc⟩
  · exact .inl h
  · exact .inr ⟨b, off, e, by omega, by omega, hc⟩
theorem Rd.at_ {k : IntKind} {w : World} {lo hi : Nat} {A : Option Addr} {xs : List Int} (h : Rd k w lo hi A xs) {j : Nat} (hj : j < xs.length) :
    ∃ b off, A = some ⟨b, off, none⟩ ∧ lo ≤ b ∧ b < hi ∧ ∀ j, j < xs.length → w.cell? ⟨b, off + j, none⟩ = some (.int k (xs.getD j 0)) := by
  rcases h with h | h
  · subst h; simp at hj
  · exact h
theorem Rd.of_own {k : IntKind} {w : World} {base n : Nat} {e : TypeId} {v : Value} {xs : List Int} (h : w.ownsRow base e 1 v n (xs.map (Value.int k))) :
    ∃ A c, v = .slice A n c ∧ n = xs.length ∧ n ≤ c ∧ c ≤ maxLen ∧ Rd k w base w.heap.size A xs := by
  obtain ⟨hl, h | ⟨g, cap, cur, rfl, hg, hh, hnc, hcm, hsz, htk⟩⟩ := h
  · obtain ⟨rfl, rfl⟩ := h
    have : xs = [] := by simpa using hl
    exact ⟨none, 0, rfl, by simp [this], Nat.le_refl _, Nat.zero_le _, .inl this⟩
  · have hn : n = xs.length := by simpa using hl.symm
    refine ⟨_, cap, rfl, hn, hnc, hcm, .inr ⟨g, 0, rfl, hg, ?_, fun j hj => ?_⟩⟩
    · rcases Nat.lt_or_ge g w.heap.size with hlt | hge
      · exact hlt
      · rw [Array.getElem?_eq_none hge] at hh; cases hh
    · have hj' : (xs.map (Value.int k))[j]? = some (.int k (xs.getD j 0)) := by simp [List.getD, hj]
      rw [← htk, List.getElem?_take] at hj'
      split at hj'
      · simp only [World.cell?, hh, Nat.zero_add]
        simpa using hj'
      · cases hj'
/-- A row of the call's own that is not empty: where it lies, that it may be written, what it holds. -/
theorem own_row {k : IntKind} {w : World} {base n : Nat} {e : TypeId} {v : Value} {xs : List Int} (h : w.ownsRow base e 1 v n (xs.map (Value.int k))) (hn : 0 < n) :
    ∃ g cap, v = .slice (some ⟨g, 0, none⟩) n cap ∧ base ≤ g ∧ g < w.heap.size ∧ n ≤ cap ∧ (∀ j, w.frozen? ⟨g, j, none⟩ = false) ∧ ∀ j, j < n → w.cell? ⟨g, j, none⟩ = some (.int k (xs.getD j 0)) := by
  obtain ⟨hl, h | ⟨g, cap, cur, rfl, hg, hh, hnc, hcm, hsz, htk⟩⟩ := h
  · exact absurd h.2 (by omega)
  · have hn : n = xs.length := by simpa using hl.symm
    refine ⟨g, cap, rfl, hg, ?_, hnc, fun j => by simp [World.frozen?, hh], fun j hj => ?_⟩
    · rcases Nat.lt_or_ge g w.heap.size with hlt | hge
      · exact hlt
      · rw [Array.getElem?_eq_none hge] at hh; cases hh
    · have hj' : (xs.map (Value.int k))[j]? = some (.int k (xs.getD j 0)) := by
        have : j < xs.length := by omega
        simp [List.getD, this]
      rw [← htk, List.getElem?_take] at hj'
      split at hj'
      · simp only [World.cell?, hh]
        simpa using hj'
      · cases hj'
/-- A function of nothing but ints, laid onto a world: of a row that came in. -/
theorem Rd.of_cells {k : IntKind} {w : World} {x : Addr} {zs : List Int} {len : Nat} (hlen : len ≤ zs.length) (hc : ∀ i, i < zs.length → w.cell? (x.add i) = some (.int k (zs.getD i 0))) :
    Rd k w 0 w.heap.size (some x) (zs.take len) := by
  by_cases h0 : zs.take len = []
  · exact .inl h0
  · have hpos : 0 < (zs.take len).length := by
      cases hz : zs.take len with
      | nil => exact absurd hz h0
      | cons a b => simp
    have hz : 0 < zs.length := by rw [List.length_take] at hpos; omega
    obtain ⟨b, off, rfl, hcc⟩ := ints_at hc hz
    refine .inr ⟨b, off, rfl, Nat.zero_le _, ?_, fun j hj => ?_⟩
    · have := hc 0 hz
      simp [Addr.add, World.cell?] at this
      rcases Nat.lt_or_ge b w.heap.size with hlt | hge
      · exact hlt
      · rw [Array.getElem?_eq_none hge] at this; simp at this
    · have hj2 : j < zs.length := by rw [List.length_take] at hj; omega
      have hj3 : j < len := by rw [List.length_take] at hj; omega
      have := hc j hj2
      have e : (⟨b, off, none⟩ : Addr).add j = ⟨b, off + j, none⟩ := by unfold Addr.add; split <;> simp_all
      rw [e] at this
      rw [this]
      simp [List.getD, hj3]
end Go.Proofs.Ytfopmdiepaonnaa
