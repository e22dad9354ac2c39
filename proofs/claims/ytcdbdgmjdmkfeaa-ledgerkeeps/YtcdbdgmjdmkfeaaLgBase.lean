/-
  Layer 13 (ledger): how a ledger lies in the machine's memory; contracts of hasEnv, has, isAmount, left, at, Left, Quota, over the translated program.
-/
import Derived.Test.YtcdbdgmjdmkfeaaLgMath
import Derived.Test.YtcdbdgmjdmkfeaaLgLock
import Derived.Deep.LoopGhost
namespace Go.Proofs.Ytcdbdgmjdmkfeaa.Lg
open Go.ChangeShapes Go.WideShapes Go.ChangeAt Go.RowKit
set_option linter.unusedVariables false
set_option maxRecDepth 20000

/-- What the cells of a ledger hold, whose lock is in state s. -/
def lv (s : Int) (q u : Tb) (j : Nat) : Value :=
  if j = 0 then .int .i32 s else if j = 1 then .int .u32 0 else .int .i64 (if j % 2 = 0 then q ((j - 2) / 8) ((j - 2) % 8 / 2) else u ((j - 2) / 8) ((j - 2) % 8 / 2))
/-- Block b is a ledger. -/
def LdAt (w : World) (b : Nat) (s : Int) (q u : Tb) : Prop := VB w b 130 (lv s q u)
theorem LdAt.lt {w : World} {b : Nat} {s : Int} {q u : Tb} (h : LdAt w b s q u) : b < w.heap.size := VB.lt h (by omega)
theorem LdAt.keep {l : List Nat} {w w' : World} {b : Nat} {s : Int} {q u : Tb} (h : LdAt w b s q u) (k : But l w w') (hn : b ∉ l) : LdAt w' b s q u := VB.keep h k hn
theorem LdAt.lock {w : World} {b : Nat} {s : Int} {q u : Tb} (h : LdAt w b s q u) : w.cell? ⟨b, 0, none⟩ = some (.int .i32 s) ∧ w.frozen? ⟨b, 0, none⟩ = false := h 0 (by omega)
theorem lv_q (s : Int) (q u : Tb) (e k : Nat) (hk : k < 4) : lv s q u (2 + e * 8 + k * 2) = .int .i64 (q e k) := by
  unfold lv
  rw [if_neg (by omega), if_neg (by omega), if_pos (by omega), show (2 + e * 8 + k * 2 - 2) / 8 = e by omega, show (2 + e * 8 + k * 2 - 2) % 8 / 2 = k by omega]
theorem lv_u (s : Int) (q u : Tb) (e k : Nat) (hk : k < 4) : lv s q u (2 + e * 8 + k * 2 + 1) = .int .i64 (u e k) := by
  unfold lv
  rw [if_neg (by omega), if_neg (by omega), if_neg (by omega), show (2 + e * 8 + k * 2 + 1 - 2) / 8 = e by omega, show (2 + e * 8 + k * 2 + 1 - 2) % 8 / 2 = k by omega]
theorem LdAt.q {w : World} {b : Nat} {s : Int} {q u : Tb} (h : LdAt w b s q u) (e k : Nat) (he : e < 16) (hk : k < 4) : w.cell? ⟨b, 2 + e * 8 + k * 2, none⟩ = some (.int .i64 (q e k)) ∧ w.frozen? ⟨b, 2 + e * 8 + k * 2, none⟩ = false := by
  have := h (2 + e * 8 + k * 2) (by omega)
  rwa [lv_q s q u e k hk] at this
theorem LdAt.u {w : World} {b : Nat} {s : Int} {q u : Tb} (h : LdAt w b s q u) (e k : Nat) (he : e < 16) (hk : k < 4) : w.cell? ⟨b, 2 + e * 8 + k * 2 + 1, none⟩ = some (.int .i64 (u e k)) ∧ w.frozen? ⟨b, 2 + e * 8 + k * 2 + 1, none⟩ = false := by
  have := h (2 + e * 8 + k * 2 + 1) (by omega)
  rwa [lv_u s q u e k hk] at this
theorem LdAt.setLock {w : World} {b : Nat} {s : Int} {q u : Tb} (h : LdAt w b s q u) (s' : Int) : LdAt (w.setCell ⟨b, 0, none⟩ (.int .i32 s')) b s' q u :=
  VB.congr (VB.set (k := 0) h (.int .i32 s')) (fun j hj => by
    unfold lv
    by_cases e : j = 0
    · rw [if_pos e, if_pos e]
    · rw [if_neg e, if_neg e, if_neg e])
theorem LdAt.setQ {w : World} {b : Nat} {s : Int} {q u : Tb} (h : LdAt w b s q u) (e k : Nat) (hk : k < 4) (v : Int) : LdAt (w.setCell ⟨b, 2 + e * 8 + k * 2, none⟩ (.int .i64 v)) b s (up q e k v) u :=
  VB.congr (VB.set (k := 2 + e * 8 + k * 2) h (.int .i64 v)) (fun j hj => by
    by_cases hc : j = 2 + e * 8 + k * 2
    · subst hc
      rw [if_pos rfl, lv_q _ _ _ _ _ hk, up_same]
    · rw [if_neg hc]
      unfold lv
      by_cases h0 : j = 0
      · rw [if_pos h0, if_pos h0]
      · by_cases h1 : j = 1
        · rw [if_neg h0, if_pos h1, if_neg h0, if_pos h1]
        · rw [if_neg h0, if_neg h1, if_neg h0, if_neg h1]
          by_cases h2 : j % 2 = 0
          · rw [if_pos h2, if_pos h2, up_else _ _ _ _ _ _ (by omega)]
          · rw [if_neg h2, if_neg h2])
theorem LdAt.setU {w : World} {b : Nat} {s : Int} {q u : Tb} (h : LdAt w b s q u) (e k : Nat) (hk : k < 4) (v : Int) : LdAt (w.setCell ⟨b, 2 + e * 8 + k * 2 + 1, none⟩ (.int .i64 v)) b s q (up u e k v) :=
  VB.congr (VB.set (k := 2 + e * 8 + k * 2 + 1) h (.int .i64 v)) (fun j hj => by
    by_cases hc : j = 2 + e * 8 + k * 2 + 1
    · subst hc
      rw [if_pos rfl, lv_u _ _ _ _ _ hk, up_same]
    · rw [if_neg hc]
      unfold lv
      by_cases h0 : j = 0
      · rw [if_pos h0, if_pos h0]
      · by_cases h1 : j = 1
        · rw [if_neg h0, if_pos h1, if_neg h0, if_pos h1]
        · rw [if_neg h0, if_neg h1, if_neg h0, if_neg h1]
          by_cases h2 : j % 2 = 0
          · rw [if_pos h2, if_pos h2]
          · rw [if_neg h2, if_neg h2, up_else _ _ _ _ _ _ (by omega)])

/-- The Boolean answers. -/
def heB (e : Int) : Bool := decide (0 ≤ e ∧ e < 16)
def hsB (e k : Int) : Bool := decide (hsP e k)
def amB (n : Int) : Bool := decide (amP n)
theorem hasEnv_c (b : Nat) (e : Int) (w : World) :
    Calls Try.prog 27 #[.pointer (some ⟨b, 0, none⟩), .int .i64 e] w fun r w' => r = .returned (.bool (heB e)) ∧ w = w' := by
  by_cases h0 : 0 ≤ e
  · by_cases h1 : e < 16
    · have HV : Hid (heB e = true) := decide_eq_true ⟨h0, h1⟩
      rw [HV.out]
      go_enter Try.func27, Try.ntmps27
      go_wp2
      go_ret
      exact ⟨rfl, rfl⟩
    · have HV : Hid (heB e = false) := decide_eq_false (by omega)
      rw [HV.out]
      have h1' : decide (e < 16) = false := decide_eq_false h1
      go_enter Try.func27, Try.ntmps27
      go_wp2
      go_ret
      exact ⟨rfl, rfl⟩
  · have HV : Hid (heB e = false) := decide_eq_false (by omega)
    rw [HV.out]
    have h1' : decide (0 ≤ e) = false := decide_eq_false h0
    go_enter Try.func27, Try.ntmps27
    go_wp2
    go_ret
    exact ⟨rfl, rfl⟩
theorem hasEnv_nil (e : Int) (w : World) :
    Calls Try.prog 27 #[.pointer none, .int .i64 e] w fun r w' => r = .returned (.bool false) ∧ w = w' := by
  go_enter Try.func27, Try.ntmps27
  go_wp2
  go_ret
  exact ⟨rfl, rfl⟩
theorem has_c (b : Nat) (e k : Int) (w : World) :
    Calls Try.prog 23 #[.pointer (some ⟨b, 0, none⟩), .int .i64 e, .int .i64 k] w fun r w' => r = .returned (.bool (hsB e k)) ∧ w = w' := by
  by_cases he : 0 ≤ e ∧ e < 16
  · have HE : Hid (heB e = true) := decide_eq_true he
    by_cases h0 : 0 ≤ k
    · by_cases h1 : k < 4
      · have HV : Hid (hsB e k = true) := decide_eq_true ⟨he, h0, h1⟩
        rw [HV.out]
        clear he
        go_enter Try.func23, Try.ntmps23
        go_wp2_with (refine (hasEnv_c b e _).mono ?_; rw [HE.out]; rintro r w1 ⟨rfl, rfl⟩)
        go_ret
        exact ⟨rfl, rfl⟩
      · have HV : Hid (hsB e k = false) := decide_eq_false (fun h => h1 h.2.2)
        rw [HV.out]
        have h1' : decide (k < 4) = false := decide_eq_false h1
        clear he
        go_enter Try.func23, Try.ntmps23
        go_wp2_with (refine (hasEnv_c b e _).mono ?_; rw [HE.out]; rintro r w1 ⟨rfl, rfl⟩)
        go_ret
        exact ⟨rfl, rfl⟩
    · have HV : Hid (hsB e k = false) := decide_eq_false (fun h => h0 h.2.1)
      rw [HV.out]
      have h1' : decide (0 ≤ k) = false := decide_eq_false h0
      clear he
      go_enter Try.func23, Try.ntmps23
      go_wp2_with (refine (hasEnv_c b e _).mono ?_; rw [HE.out]; rintro r w1 ⟨rfl, rfl⟩)
      go_ret
      exact ⟨rfl, rfl⟩
  · have HE : Hid (heB e = false) := decide_eq_false he
    have HV : Hid (hsB e k = false) := decide_eq_false (fun h => he h.1)
    rw [HV.out]
    clear he
    go_enter Try.func23, Try.ntmps23
    go_wp2_with (refine (hasEnv_c b e _).mono ?_; rw [HE.out]; rintro r w1 ⟨rfl, rfl⟩)
    go_ret
    exact ⟨rfl, rfl⟩
theorem has_nil (e k : Int) (w : World) :
    Calls Try.prog 23 #[.pointer none, .int .i64 e, .int .i64 k] w fun r w' => r = .returned (.bool false) ∧ w = w' := by
  go_enter Try.func23, Try.ntmps23
  go_wp2_with (refine (hasEnv_nil e _).mono ?_; rintro r w1 ⟨rfl, rfl⟩)
  go_ret
  exact ⟨rfl, rfl⟩
theorem isAmount_c (n : Int) (w : World) :
    Calls Try.prog 24 #[.int .i64 n] w fun r w' => r = .returned (.bool (amB n)) ∧ w = w' := by
  by_cases h0 : 0 ≤ n
  · by_cases h1 : n ≤ 512
    · have HV : Hid (amB n = true) := decide_eq_true ⟨h0, h1⟩
      rw [HV.out]
      have h1' : ¬ (512 < n) := by omega
      go_enter Try.func24, Try.ntmps24
      go_wp2
      go_ret
      exact ⟨rfl, rfl⟩
    · have HV : Hid (amB n = false) := decide_eq_false (fun h => h1 h.2)
      rw [HV.out]
      have h1' : decide (n ≤ 512) = false := decide_eq_false h1
      go_enter Try.func24, Try.ntmps24
      go_wp2
      go_ret
      exact ⟨rfl, rfl⟩
  · have HV : Hid (amB n = false) := decide_eq_false (fun h => h0 h.1)
    rw [HV.out]
    have h1' : decide (0 ≤ n) = false := decide_eq_false h0
    go_enter Try.func24, Try.ntmps24
    go_wp2
    go_ret
    exact ⟨rfl, rfl⟩
/-- left of a row by value. -/
theorem rleft_c (x y : Int) (w : World) (h : IntKind.i64.wrap (x - y) = x - y) :
    Calls Try.prog 21 #[.agg #[.int .i64 x, .int .i64 y]] w fun r w' => r = .returned (.int .i64 (x - y)) ∧ But [] w w' := by
  have HW : Hid (IntKind.i64.wrap (x - y) = x - y) := h
  have HK : Hid (But [] w (w.alloc (.cells #[.int .i64 x, .int .i64 y] 54))) := (But.refl [] w).alloc _
  go_enter Try.func21, Try.ntmps21
  go_wp2
  go_ret
  exact ⟨rfl, HK.out⟩
end Go.Proofs.Ytcdbdgmjdmkfeaa.Lg
