/-
  The document's own digits of a number.
-/
import Derived.Test.YtpnmnokedpagmaaGreatDoorAsmOps
namespace Go.Proofs.YtpnmnokedpagmaaGreatDoor
open Go.RowKit
set_option linter.unusedVariables false
set_option linter.unusedSimpArgs false
set_option maxRecDepth 20000

theorem dec_small {n : Nat} (h : n < 10) : Lib.decDigits n = [UInt8.ofNat (48 + n)] := by unfold Lib.decDigits; rw [dif_pos h]
theorem dec_big {n : Nat} (h : ¬ n < 10) : Lib.decDigits n = Lib.decDigits (n / 10) ++ [UInt8.ofNat (48 + n % 10)] := by conv => lhs; unfold Lib.decDigits; rw [dif_neg h]
theorem dec_len : ∀ (n : Nat), (Lib.decDigits n).length ≤ n + 1 := by
  intro n
  induction n using Nat.strongRecOn with
  | _ n ih =>
    by_cases h : n < 10
    · rw [dec_small h]; simp
    · rw [dec_big h, List.length_append]
      have := ih (n / 10) (by omega)
      simp; omega
theorem dig_cut (n : Nat) (h : n < 10) : (ByteArray.mk #[48, 49, 50, 51, 52, 53, 54, 55, 56, 57]).extract n (n + 1) = BA (Lib.decDigits n) := by
  rw [dec_small h]
  have : n = 0 ∨ n = 1 ∨ n = 2 ∨ n = 3 ∨ n = 4 ∨ n = 5 ∨ n = 6 ∨ n = 7 ∨ n = 8 ∨ n = 9 := by omega
  rcases this with rfl | rfl | rfl | rfl | rfl | rfl | rfl | rfl | rfl | rfl <;> rfl

set_option maxHeartbeats 1000000 in
theorem digits_c : ∀ (n : Nat), n ≤ 4294967295 → ∀ w : World, Calls Tryz.prog 18 #[.int .i64 n] w fun e w' => e = .returned (.string (BA (Lib.decDigits n))) ∧ w' = w := by
  intro n
  induction n using Nat.strongRecOn with
  | _ n ih =>
    intro hn w
    by_cases h : n < 10
    · have hx := dig_cut n h
      have hs : ((ByteArray.mk #[48, 49, 50, 51, 52, 53, 54, 55, 56, 57]).size : Int) = 10 := rfl
      clear ih
      go_enter Tryz.func18, Tryz.ntmps18
      go_wp2
      go_ret
      exact ⟨rfl, rfl⟩
    · have i1 := ih (n / 10) (by omega) (by omega)
      have i2 := ih (n % 10) (by omega) (by omega)
      rw [show ((n / 10 : Nat) : Int) = (n : Int) / 10 by omega] at i1
      rw [show ((n % 10 : Nat) : Int) = (n : Int) % 10 by omega] at i2
      have happ := append_BA (Lib.decDigits (n / 10)) (Lib.decDigits (n % 10))
      rw [show Lib.decDigits (n / 10) ++ Lib.decDigits (n % 10) = Lib.decDigits n by rw [dec_big h, dec_small (n := n % 10) (by omega)]] at happ
      have l1 : (BA (Lib.decDigits (n / 10))).size ≤ 4294967296 := by rw [BA_size]; have := dec_len (n / 10); omega
      have l2 : (BA (Lib.decDigits (n % 10))).size ≤ 11 := by rw [BA_size]; have := dec_len (n % 10); omega
      have hge : ¬ (n : Int) < 10 := by omega
      clear ih
      go_enter Tryz.func18, Tryz.ntmps18
      go_wp2_with fail
      refine (i1 _).mono ?_
      rintro e w1 ⟨rfl, rfl⟩
      go_wp2_with fail
      refine (i2 _).mono ?_
      rintro e w2 ⟨rfl, rfl⟩
      go_wp2
      go_ret
      exact ⟨rfl, rfl⟩

set_option maxHeartbeats 1000000 in
theorem digits_neg (n : Nat) (h1 : 1 ≤ n) (hn : n ≤ 4294967295) (w : World) : Calls Tryz.prog 18 #[.int .i64 (-(n : Int))] w fun e w' => e = .returned (.string (BA (45 :: Lib.decDigits n))) ∧ w' = w := by
  have i1 := digits_c n hn
  have happ : (⟨#[45]⟩ ++ BA (Lib.decDigits n) : ByteArray) = BA (45 :: Lib.decDigits n) := append_BA [45] (Lib.decDigits n)
  have l1 : (BA (Lib.decDigits n)).size ≤ 4294967296 := by rw [BA_size]; have := dec_len n; omega
  have l0 : (ByteArray.mk #[45]).size = 1 := rfl
  have hlt : (-(n : Int)) < 0 := by omega
  go_enter Tryz.func18, Tryz.ntmps18
  go_wp2_with fail
  refine (i1 _).mono ?_
  rintro e w1 ⟨rfl, rfl⟩
  go_wp2
  go_ret
  exact ⟨rfl, rfl⟩
/-- Any number that an instruction or a word has: its text is Itoa's. -/
theorem digits_any (i : Int) (hlo : -4294967295 ≤ i) (hhi : i ≤ 4294967295) (w : World) : Calls Tryz.prog 18 #[.int .i64 i] w fun e w' => e = .returned (.string (BA (Lib.itoa i))) ∧ w' = w := by
  by_cases h : i < 0
  · obtain ⟨n, rfl⟩ : ∃ n : Nat, i = -(n : Int) := ⟨i.natAbs, by omega⟩
    have e : Lib.itoa (-(n : Int)) = 45 :: Lib.decDigits n := by unfold Lib.itoa; rw [if_pos h]; simp
    rw [e]
    exact digits_neg n (by omega) (by omega) w
  · obtain ⟨n, rfl⟩ : ∃ n : Nat, i = (n : Int) := ⟨i.toNat, by omega⟩
    have e : Lib.itoa (n : Int) = Lib.decDigits n := by unfold Lib.itoa; rw [if_neg h]; simp
    rw [e]
    exact digits_c n (by omega) w
end Go.Proofs.YtpnmnokedpagmaaGreatDoor
