/-
  Contracts of layer 2 (isa): Known, Valid, Encode, Decode of a table that is new or filled, and of none.
-/
import Derived.Test.YtjlcncdhlcpklaaIsaOnce
import Derived.Test.YtjlcncdhlcpklaaWordMath
namespace Go.Proofs.Ytjlcncdhlcpklaa
open Go.ChangeShapes Go.WideShapes Go.ChangeAt Go.RowKit
set_option linter.unusedVariables false
set_option maxRecDepth 20000

set_option maxHeartbeats 1000000 in
theorem row_c (b off : Nat) (op : Int) (w : World) (ht : TabOk w b off) :
    Calls Try.prog 71 #[.pointer (some ⟨b, off, none⟩), .int .i64 op] w fun e w' =>
      e = .returned (.agg #[.bool (knB op), .bool (faB op), .bool (fbB op), .bool (fiB op)]) ∧ TabOk w' b off ∧ Keep b off (off + 103) w w' := by
  have hk := Keep.refl off (off + 103) ht.home
  have hmf : ∀ (fn : Fn) (first cap : Array Value) (w : World), (Instr.makeFunc fn first cap).run Try.prog w = .ok (.func fn first cap) w := fun _ _ _ _ => rfl
  by_cases h0 : op < 0
  · obtain ⟨e1, e2, e3, e4⟩ := kn_lo op (by omega)
    rw [e1, e2, e3, e4]
    clear e1 e2 e3 e4
    go_enter Try.func71, Try.ntmps71
    go_wp2
    exact bodyPost_ret (v := .agg #[.bool false, .bool false, .bool false, .bool false]) (by simp [results, Try.results71, go_sem]) rfl ⟨rfl, ht.alloc _, hk.alloc _⟩
  · by_cases h1 : 25 ≤ op
    · obtain ⟨e1, e2, e3, e4⟩ := kn_hi op (by omega)
      rw [e1, e2, e3, e4]
      clear e1 e2 e3 e4
      go_enter Try.func71, Try.ntmps71
      go_wp2
      exact bodyPost_ret (v := .agg #[.bool false, .bool false, .bool false, .bool false]) (by simp [results, Try.results71, go_sem]) rfl ⟨rfl, ht.alloc _, hk.alloc _⟩
    · obtain ⟨q, rfl⟩ := Int.eq_ofNat_of_zero_le (show 0 ≤ op by omega)
      have q1 : (q : Int) < 25 := by omega
      have q0 : (0 : Int) ≤ (q : Int) := by omega
      go_enter Try.func71, Try.ntmps71
      go_wp2_with fail
      refine (do_c b off _ (ht.alloc _)).mono ?_
      rintro e w1 ⟨rfl, t1, q1'⟩
      have hk1 : Keep b off (off + 103) w w1 := (hk.alloc _).trans q1'
      have hnew : w1.heap[w.heap.size]? = some (.cells #[.bool false, .bool false, .bool false, .bool false] 107) := (q1'.block w.heap.size (by simp) (by have := ht.home; omega)).trans (heap_alloc_new w _)
      have r0 := (t1.rows (q * 4) (by omega)).1
      have r1 := (t1.rows (q * 4 + 1) (by omega)).1
      have r2 := (t1.rows (q * 4 + 2) (by omega)).1
      have r3 := (t1.rows (q * 4 + 3) (by omega)).1
      rw [show q * 4 = 4 * q + 0 by omega, flB_at q 0 (by omega), show off + 3 + (4 * q + 0) = off + 3 + q * 4 by omega] at r0
      rw [show q * 4 + 1 = 4 * q + 1 by omega, flB_at q 1 (by omega), show off + 3 + (4 * q + 1) = off + 3 + q * 4 + 1 by omega] at r1
      rw [show q * 4 + 2 = 4 * q + 2 by omega, flB_at q 2 (by omega), show off + 3 + (4 * q + 2) = off + 3 + q * 4 + 2 by omega] at r2
      rw [show q * 4 + 3 = 4 * q + 3 by omega, flB_at q 3 (by omega), show off + 3 + (4 * q + 3) = off + 3 + q * 4 + 3 by omega] at r3
      replace r0 : w1.cell? ⟨b, off + 3 + q * 4, none⟩ = some (.bool (knB q)) := r0
      replace r1 : w1.cell? ⟨b, off + 3 + q * 4 + 1, none⟩ = some (.bool (faB q)) := r1
      replace r2 : w1.cell? ⟨b, off + 3 + q * 4 + 2, none⟩ = some (.bool (fbB q)) := r2
      replace r3 : w1.cell? ⟨b, off + 3 + q * 4 + 3, none⟩ = some (.bool (fiB q)) := r3
      have k0 : w1.cell? ⟨w.heap.size, 0, none⟩ = some (.bool false) := by simp [World.cell?, hnew]
      have k1 : w1.cell? ⟨w.heap.size, 1, none⟩ = some (.bool false) := by simp [World.cell?, hnew]
      have k2 : w1.cell? ⟨w.heap.size, 2, none⟩ = some (.bool false) := by simp [World.cell?, hnew]
      have k3 : w1.cell? ⟨w.heap.size, 3, none⟩ = some (.bool false) := by simp [World.cell?, hnew]
      have z0 : ∀ j, w1.frozen? ⟨w.heap.size, j, none⟩ = false := fun j => by simp [World.frozen?, hnew]
      clear hnew
      go_wp2
      have hne : w.heap.size ≠ b := by have := ht.home; omega
      have t2 : TabOk w1 b off := .inr t1
      exact bodyPost_ret (v := .agg #[.bool (knB q), .bool (faB q), .bool (fbB q), .bool (fiB q)]) (by simp [results, Try.results71, go_sem, k0, k1, k2, k3]) rfl
        ⟨rfl, ((((t2.setFar hne _).setFar hne _).setFar hne _).setFar hne _), ((((hk1.setNew (Nat.le_refl _) _).setNew (Nat.le_refl _) _).setNew (Nat.le_refl _) _).setNew (Nat.le_refl _) _)⟩
theorem row_nil (op : Int) (w : World) :
    Calls Try.prog 71 #[.pointer none, .int .i64 op] w fun e w' => e = .returned (.agg #[.bool false, .bool false, .bool false, .bool false]) ∧ Below w.heap.size w w' := by
  go_enter Try.func71, Try.ntmps71
  go_wp2
  exact bodyPost_ret (v := .agg #[.bool false, .bool false, .bool false, .bool false]) (by simp [results, Try.results71, go_sem]) rfl ⟨rfl, (Below.refl _ _).alloc (Nat.le_refl _) _⟩
theorem field0 (x0 x1 x2 x3 : Value) (w : World) : (Instr.field 107 (.agg #[x0, x1, x2, x3]) 0).run Try.prog w = .ok x0 w := by kernel_rfl
theorem may_c (has : Bool) (n lo hi : Int) (w : World) :
    Calls Try.prog 72 #[.bool has, .int .i64 n, .int .i64 lo, .int .i64 hi] w fun e w' => e = .returned (.bool (mayB has n lo hi)) ∧ w = w' := by
  cases has
  · by_cases h : n = 0
    · subst h
      go_enter Try.func72, Try.ntmps72
      go_wp2
      go_ret
      exact ⟨rfl, rfl⟩
    · have hb : (n == 0) = false := by simp [h]
      have HM : Hid (mayB false n lo hi = false) := by show _ = _; simp [mayB, h]
      go_enter Try.func72, Try.ntmps72
      go_wp2
      go_ret
      exact ⟨by rw [HM.out]; rfl, rfl⟩
  · by_cases h : lo ≤ n
    · by_cases h2 : n ≤ hi
      · have HM : Hid (mayB true n lo hi = true) := by show _ = _; simp [mayB, h, h2]
        go_enter Try.func72, Try.ntmps72
        go_wp2
        go_ret
        exact ⟨by rw [HM.out]; rfl, rfl⟩
      · have HM : Hid (mayB true n lo hi = false) := by show _ = _; simp [mayB, h, h2]
        have hd : decide (n ≤ hi) = false := by simp; omega
        go_enter Try.func72, Try.ntmps72
        go_wp2
        go_ret
        exact ⟨by rw [HM.out]; rfl, rfl⟩
    · have HM : Hid (mayB true n lo hi = false) := by show _ = _; simp [mayB]; omega
      have hd : decide (lo ≤ n) = false := by simp; omega
      go_enter Try.func72, Try.ntmps72
      go_wp2
      go_ret
      exact ⟨by rw [HM.out]; rfl, rfl⟩
end Go.Proofs.Ytjlcncdhlcpklaa
