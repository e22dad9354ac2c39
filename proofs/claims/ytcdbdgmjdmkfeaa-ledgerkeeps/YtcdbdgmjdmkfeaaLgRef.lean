/-
  Layer 13 (ledger): how the document's ledger lies in the machine's memory; contracts of its May, Left, Take, Move, over the translated program.
-/
import Derived.Test.YtcdbdgmjdmkfeaaLgAt
import Derived.Deep.CutBlock
import Derived.Deep.CutRange
import Derived.Deep.RegionHeld3
namespace Go.Proofs.Ytcdbdgmjdmkfeaa.Lg
open Go.ChangeShapes Go.WideShapes Go.ChangeAt Go.RowKit
set_option linter.unusedVariables false
set_option maxRecDepth 20000

/-- What the cells of the document's ledger hold. -/
def rv (q u : Tb) (j : Nat) : Value := .int .i64 (if j % 8 < 4 then q (j / 8) (j % 8) else u (j / 8) (j % 8 - 4))
/-- Block b is the document's ledger. -/
def RfAt (w : World) (b : Nat) (q u : Tb) : Prop := VB w b 128 (rv q u)
theorem RfAt.lt {w : World} {b : Nat} {q u : Tb} (h : RfAt w b q u) : b < w.heap.size := VB.lt h (by omega)
theorem RfAt.keep {l : List Nat} {w w' : World} {b : Nat} {q u : Tb} (h : RfAt w b q u) (k : But l w w') (hn : b ∉ l) : RfAt w' b q u := VB.keep h k hn
theorem rv_q (q u : Tb) (e k : Nat) (hk : k < 4) : rv q u (e * 8 + k) = .int .i64 (q e k) := by
  unfold rv
  rw [if_pos (by omega), show (e * 8 + k) / 8 = e by omega, show (e * 8 + k) % 8 = k by omega]
theorem rv_u (q u : Tb) (e k : Nat) (hk : k < 4) : rv q u (e * 8 + 4 + k) = .int .i64 (u e k) := by
  unfold rv
  rw [if_neg (by omega), show (e * 8 + 4 + k) / 8 = e by omega, show (e * 8 + 4 + k) % 8 - 4 = k by omega]
theorem RfAt.q {w : World} {b : Nat} {q u : Tb} (h : RfAt w b q u) (e k : Nat) (he : e < 16) (hk : k < 4) : w.cell? ⟨b, e * 8 + k, none⟩ = some (.int .i64 (q e k)) ∧ w.frozen? ⟨b, e * 8 + k, none⟩ = false := by
  have := h (e * 8 + k) (by omega)
  rwa [rv_q q u e k hk] at this
theorem RfAt.u {w : World} {b : Nat} {q u : Tb} (h : RfAt w b q u) (e k : Nat) (he : e < 16) (hk : k < 4) : w.cell? ⟨b, e * 8 + 4 + k, none⟩ = some (.int .i64 (u e k)) ∧ w.frozen? ⟨b, e * 8 + 4 + k, none⟩ = false := by
  have := h (e * 8 + 4 + k) (by omega)
  rwa [rv_u q u e k hk] at this
theorem RfAt.setQ {w : World} {b : Nat} {q u : Tb} (h : RfAt w b q u) (e k : Nat) (hk : k < 4) (v : Int) : RfAt (w.setCell ⟨b, e * 8 + k, none⟩ (.int .i64 v)) b (up q e k v) u :=
  VB.congr (VB.set (k := e * 8 + k) h (.int .i64 v)) (fun j hj => by
    by_cases hc : j = e * 8 + k
    · subst hc
      rw [if_pos rfl, rv_q _ _ _ _ hk, up_same]
    · rw [if_neg hc]
      unfold rv
      by_cases h2 : j % 8 < 4
      · rw [if_pos h2, if_pos h2, up_else _ _ _ _ _ _ (by omega)]
      · rw [if_neg h2, if_neg h2])
theorem RfAt.setU {w : World} {b : Nat} {q u : Tb} (h : RfAt w b q u) (e k : Nat) (hk : k < 4) (v : Int) : RfAt (w.setCell ⟨b, e * 8 + 4 + k, none⟩ (.int .i64 v)) b q (up u e k v) :=
  VB.congr (VB.set (k := e * 8 + 4 + k) h (.int .i64 v)) (fun j hj => by
    by_cases hc : j = e * 8 + 4 + k
    · subst hc
      rw [if_pos rfl, rv_u _ _ _ _ hk, up_same]
    · rw [if_neg hc]
      unfold rv
      by_cases h2 : j % 8 < 4
      · rw [if_pos h2, if_pos h2]
      · rw [if_neg h2, if_neg h2, up_else _ _ _ _ _ _ (by omega)])

/-- The document's May. -/
def mayB (e k n : Int) : Bool := decide (hsP e k ∧ amP n)
theorem may_c (e k n : Int) (w : World) :
    Calls Try.prog 22 #[.int .i64 e, .int .i64 k, .int .i64 n] w fun r w' => r = .returned (.bool (mayB e k n)) ∧ w = w' := by
  by_cases h0 : 0 ≤ e
  · by_cases h1 : e < 16
    · by_cases h2 : 0 ≤ k
      · by_cases h3 : k < 4
        · by_cases h4 : 0 ≤ n
          · by_cases h5 : n ≤ 512
            · have HV : Hid (mayB e k n = true) := decide_eq_true ⟨⟨⟨h0, h1⟩, h2, h3⟩, h4, h5⟩
              rw [HV.out]
              have h5' : ¬ 512 < n := by omega
              go_enter Try.func22, Try.ntmps22
              go_wp2
              go_ret
              exact ⟨rfl, rfl⟩
            · have HV : Hid (mayB e k n = false) := decide_eq_false (fun h => h5 h.2.2)
              rw [HV.out]
              have h' : decide (n ≤ 512) = false := decide_eq_false h5
              go_enter Try.func22, Try.ntmps22
              go_wp2
              go_ret
              exact ⟨rfl, rfl⟩
          · have HV : Hid (mayB e k n = false) := decide_eq_false (fun h => h4 h.2.1)
            rw [HV.out]
            have h' : decide (0 ≤ n) = false := decide_eq_false h4
            go_enter Try.func22, Try.ntmps22
            go_wp2
            go_ret
            exact ⟨rfl, rfl⟩
        · have HV : Hid (mayB e k n = false) := decide_eq_false (fun h => h3 h.1.2.2)
          rw [HV.out]
          have h' : decide (k < 4) = false := decide_eq_false h3
          go_enter Try.func22, Try.ntmps22
          go_wp2
          go_ret
          exact ⟨rfl, rfl⟩
      · have HV : Hid (mayB e k n = false) := decide_eq_false (fun h => h2 h.1.2.1)
        rw [HV.out]
        have h' : decide (0 ≤ k) = false := decide_eq_false h2
        go_enter Try.func22, Try.ntmps22
        go_wp2
        go_ret
        exact ⟨rfl, rfl⟩
    · have HV : Hid (mayB e k n = false) := decide_eq_false (fun h => h1 h.1.1.2)
      rw [HV.out]
      have h' : decide (e < 16) = false := decide_eq_false h1
      go_enter Try.func22, Try.ntmps22
      go_wp2
      go_ret
      exact ⟨rfl, rfl⟩
  · have HV : Hid (mayB e k n = false) := decide_eq_false (fun h => h0 h.1.1.1)
    rw [HV.out]
    have h' : decide (0 ≤ e) = false := decide_eq_false h0
    go_enter Try.func22, Try.ntmps22
    go_wp2
    go_ret
    exact ⟨rfl, rfl⟩
theorem rleft_no (b : Nat) (e k : Int) (w : World) (h : ¬ hsP e k) :
    Calls Try.prog 11 #[.pointer (some ⟨b, 0, none⟩), .int .i64 e, .int .i64 k] w fun r w' => r = .returned (.int .i64 0) ∧ But [] w w' := by
  have HV : Hid (mayB e k 0 = false) := decide_eq_false (fun hh => h hh.1)
  clear h
  go_enter Try.func11, Try.ntmps11
  go_wp2_with (refine (may_c e k 0 _).mono ?_; rw [HV.out]; rintro r w1 ⟨rfl, rfl⟩)
  go_ret
  exact ⟨rfl, But.refl _ _⟩
theorem rleft_yes (b : Nat) (q u : Tb) (T : Nat → Int) (e k : Nat) (w : World) (h : RfAt w b q u) (ho : Ok q u T) (he : e < 16) (hk : k < 4) :
    Calls Try.prog 11 #[.pointer (some ⟨b, 0, none⟩), .int .i64 e, .int .i64 k] w fun r w' => r = .returned (.int .i64 (q e k - u e k)) ∧ But [] w w' := by
  have HV : Hid (mayB e k 0 = true) := decide_eq_true ⟨⟨⟨by omega, by omega⟩, by omega, by omega⟩, by omega, by omega⟩
  obtain ⟨g1, g2, g3⟩ := ho.le e k he hk
  have hw : IntKind.i64.wrap (q e k - u e k) = q e k - u e k := wrap_small _ (by omega) (by omega)
  have hq := (h.q e k he hk).1
  have hu := (h.u e k he hk).1
  clear h ho g1 g2 g3
  generalize hx : q e k = x at hq hw ⊢
  generalize hy : u e k = y at hu hw ⊢
  clear hx hy
  go_enter Try.func11, Try.ntmps11
  go_wp2_with (refine (may_c e k 0 _).mono ?_; rw [HV.out]; rintro r w1 ⟨rfl, rfl⟩)
  go_quiet (fail)
  go_wp2
  go_ret
  exact ⟨rfl, (But.refl _ _).drewN _⟩
end Go.Proofs.Ytcdbdgmjdmkfeaa.Lg
