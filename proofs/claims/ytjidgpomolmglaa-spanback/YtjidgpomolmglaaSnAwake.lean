/-
  Layer 10 (span): the contract of awake (the chapter's example), over the translated program; sets laid together, plainly.
-/
import Derived.Test.YtjidgpomolmglaaSnMade
namespace Go.Proofs.Ytjidgpomolmglaa.Sn
open Go.ChangeShapes Go.WideShapes Go.ChangeAt Go.RowKit
open Wh
set_option linter.unusedVariables false
set_option maxRecDepth 20000

theorem ex_val (n : Nat) : wo (one 2 5) (one 3 4) n = decide (n = 2 ∨ n = 4) := by
  show (one 2 5 n && !one 3 4 n) = _
  unfold one
  by_cases h : n = 2 ∨ n = 4
  · rw [decide_eq_true h]
    rcases h with rfl | rfl <;> rfl
  · rw [decide_eq_false h]
    by_cases h3 : n = 3
    · subst h3; rfl
    · by_cases h1 : n < 2
      · rw [decide_eq_false (show ¬ (2 : Int) ≤ (n : Int) by omega)]; simp
      · rw [decide_eq_false (show ¬ (n : Int) < 5 by omega)]; simp
theorem ex_edges : E (wo (one 2 5) (one 3 4)) = [2, 3, 4, 5] := by
  have h1 := edg_block (h := wo (one 2 5) (one 3 4)) (p := 0) (a := 2) (b := 3) (c := 3) rfl (by omega) (by omega) (by omega)
    (fun n _ h => by rw [ex_val, decide_eq_false (by omega)]) (fun n h h' => by rw [ex_val, decide_eq_true (by omega)]) (fun n h h' => by rw [ex_val, decide_eq_false (by omega)])
  have h2 := edg_block (h := wo (one 2 5) (one 3 4)) (p := 4) (a := 4) (b := 5) (c := 1024) h1.2 (by omega) (by omega) (by omega)
    (fun n h h' => by omega) (fun n h h' => by rw [ex_val, decide_eq_true (by omega)]) (fun n h h' => by rw [ex_val, decide_eq_false (by omega)])
  have e : E (wo (one 2 5) (one 3 4)) = edg (wo (one 2 5) (one 3 4)) (1024 + 1) := rfl
  rw [e, h2.1, show (4 : Nat) = 3 + 1 from rfl, h1.1]
  rfl
set_option maxHeartbeats 2000000 in
theorem awake_c (w : World) :
    Calls Try.prog 15 #[] w fun e w' => e = .returned (.bool true) ∧ But [] w w' := by
  go_enter Try.func15, Try.ntmps15
  go_wp2_with fail
  refine (of_c 2 5 _).mono ?_
  rintro e w1 ⟨A1, n1, c1, rfl, hs1, k1⟩
  go_wp2_with fail
  refine (of_c 3 4 _).mono ?_
  rintro e w2 ⟨A2, n2, c2, rfl, hs2, k2⟩
  go_wp2_with fail
  refine (without_c _ _ _ _ _ _ _ _ _ _ _ (hs1.keep0 k2) hs2).mono ?_
  rintro e w3 ⟨A3, n3, c3, rfl, hs3, k3⟩
  go_wp2_with fail
  refine (rows_c _ _ _ _ _ _ hs3).mono ?_
  rintro e w4 ⟨A4, n4, c4, rfl, hl, hli, k4⟩
  have HK := hid (((k1.trans k2).trans k3).trans k4)
  rw [ex_edges] at hl hli
  obtain rfl : n4 = 2 := by simp at hl; omega
  obtain ⟨g, off, hA, hg, hc⟩ := hli.at_ (k := 0) (by simp)
  have d0 : w4.cell? ⟨g, off, none⟩ = some (.int .i64 2) := hc 0 (by simp)
  have d1 : w4.cell? ⟨g, off + 1, none⟩ = some (.int .i64 3) := hc 1 (by simp)
  have d2 : w4.cell? ⟨g, off + 2, none⟩ = some (.int .i64 4) := hc 2 (by simp)
  have d3 : w4.cell? ⟨g, off + 2 + 1, none⟩ = some (.int .i64 5) := hc 3 (by simp)
  have e1 := eqRow 2 3
  have e2 := eqRow 4 5
  subst hA
  clear hl hli hc hs1 hs2 hs3 k1 k2 k3 k4
  go_wp2
  go_ret
  exact ⟨rfl, HK.out⟩

/-- What is taken out and put back. -/
theorem bool_ext {f g : Nat → Bool} (h : ∀ n, f n = g n) : f = g := funext h
theorem back1 (f g : Nat → Bool) : wi (wo f (bo f g)) (bo f g) = f := funext fun n => by
  show ((f n && !(f n && g n)) || (f n && g n)) = f n
  cases f n <;> cases g n <;> rfl
theorem back2 (f g : Nat → Bool) : wi (wo f g) (bo f g) = f := funext fun n => by
  show ((f n && !g n) || (f n && g n)) = f n
  cases f n <;> cases g n <;> rfl
theorem out_self (f : Nat → Bool) (n : Nat) : wo f f n = false := by
  show (f n && !f n) = false
  cases f n <;> rfl
theorem out_l (f g : Nat → Bool) (n : Nat) : wo (bo f g) f n = false := by
  show ((f n && g n) && !f n) = false
  cases f n <;> cases g n <;> rfl
theorem out_r (f g : Nat → Bool) (n : Nat) : wo (bo f g) g n = false := by
  show ((f n && g n) && !g n) = false
  cases f n <;> cases g n <;> rfl
theorem none_len {f : Nat → Bool} (h : ∀ n, f n = false) : (nums f 1024).length = 0 := by rw [nums_zero h]; rfl
end Go.Proofs.Ytjidgpomolmglaa.Sn
