/-
  Layer 1 (word), for the layers above: contracts of the small functions, and of the document's own answers, over the translated program.
-/
import Derived.Test.YtjlcncdhlcpklaaRows
import Derived.Test.YtjlcncdhlcpklaaWordMath
import Derived.WalkKit
import Derived.ProofKit
import Derived.OpenShut
import Derived.Below
namespace Go.Proofs.Ytjlcncdhlcpklaa.Wd
open Go.ChangeShapes Go.WideShapes Go.ChangeAt Go.RowKit
set_option linter.unusedVariables false
set_option maxRecDepth 20000

theorem less_c (a b : Int) (w : World) (h0 : 0 ≤ a) (h1 : a ≤ 4294967295) (h2 : 0 ≤ b) (h3 : b ≤ 4294967295) :
    Calls Try.prog 66 #[.int .u32 a, .int .u32 b] w fun e w' => e = .returned (.bool (decide (vlu a < vlu b))) ∧ w = w' := by
  go_enter Try.func66, Try.ntmps66
  go_wp2
  go_ret
  exact ⟨by rw [← wrap32_vlu a h0 h1, ← wrap32_vlu b h2 h3]; rfl, rfl⟩
theorem val_c (a : Int) (w : World) (h0 : 0 ≤ a) (h1 : a ≤ 4294967295) :
    Calls Try.prog 53 #[.int .u32 a] w fun e w' => e = .returned (.int .i64 (vlu a)) ∧ w = w' := by
  by_cases h : 2147483648 ≤ a
  · have hs : Hid (vlu a = a - 4294967296) := if_pos h
    go_enter Try.func53, Try.ntmps53
    go_wp2
    go_ret
    exact ⟨by rw [hs.out]; rfl, rfl⟩
  · have hs : Hid (vlu a = a) := if_neg h
    go_enter Try.func53, Try.ntmps53
    go_wp2
    go_ret
    exact ⟨by rw [hs.out]; rfl, rfl⟩
theorem place_c (a : Int) (w : World) :
    Calls Try.prog 74 #[.int .i64 a] w fun e w' => e = .returned (.int .i64 (a % 4)) ∧ w = w' := by
  go_enter Try.func74, Try.ntmps74
  go_wp2
  go_ret
  exact ⟨by rw [← i64_and3 a]; rfl, rfl⟩
theorem bytes_c (a : Int) (w : World) (h0 : 0 ≤ a) (h1 : a ≤ 4294967295) :
    Calls Try.prog 73 #[.int .u32 a] w fun e w' => e = .returned (.agg #[.int .u8 (a % 256), .int .u8 (a / 256 % 256), .int .u8 (a / 65536 % 256), .int .u8 (a / 16777216)]) ∧ Below w.heap.size w w' := by
  go_enter Try.func73, Try.ntmps73
  go_wp2
  exact bodyPost_ret (v := .agg #[.int .u8 (a % 256), .int .u8 (a / 256 % 256), .int .u8 (a / 65536 % 256), .int .u8 (a / 16777216)]) (by simp [results, Try.results73, go_sem]) rfl ⟨rfl, (Below.refl _ _).alloc (Nat.le_refl _) _⟩
theorem of_c (a b c d : Int) (w : World) (ha : 0 ≤ a ∧ a ≤ 255) (hb : 0 ≤ b ∧ b ≤ 255) (hc : 0 ≤ c ∧ c ≤ 255) (hd : 0 ≤ d ∧ d ≤ 255) :
    Calls Try.prog 75 #[.agg #[.int .u8 a, .int .u8 b, .int .u8 c, .int .u8 d]] w fun e w' => e = .returned (.int .u32 (num4 a b c d)) ∧ Below w.heap.size w w' := by
  obtain ⟨ha1, ha2⟩ := ha
  obtain ⟨hb1, hb2⟩ := hb
  obtain ⟨hc1, hc2⟩ := hc
  obtain ⟨hd1, hd2⟩ := hd
  have H := of_bits a b c d ⟨ha1, ha2⟩ ⟨hb1, hb2⟩ ⟨hc1, hc2⟩ ⟨hd1, hd2⟩
  have HH : Hid (bits .or .u32 (bits .or .u32 (bits .or .u32 a (b * 256)) (c * 65536)) (d * 16777216) = num4 a b c d) := H
  clear H
  go_enter Try.func75, Try.ntmps75
  go_wp2
  go_ret
  exact ⟨by rw [← HH.out]; rfl, (Below.refl _ _).alloc (Nat.le_refl _) _⟩
theorem byte_c (a i : Int) (w : World) (h0 : 0 ≤ a) (h1 : a ≤ 4294967295) :
    Calls Try.prog 62 #[.int .u32 a, .int .i64 i] w fun e w' => e = .returned (.int .u8 (byt a i)) ∧ Below w.heap.size w w' := by
  have i0 : ∀ (x0 x1 x2 x3 : Value) w, (Instr.index 149 (.agg #[x0, x1, x2, x3]) (.int .i64 0)).run Try.prog w = .ok x0 w := fun _ _ _ _ _ => by kernel_rfl
  have i1 : ∀ (x0 x1 x2 x3 : Value) w, (Instr.index 149 (.agg #[x0, x1, x2, x3]) (.int .i64 1)).run Try.prog w = .ok x1 w := fun _ _ _ _ _ => by kernel_rfl
  have i2 : ∀ (x0 x1 x2 x3 : Value) w, (Instr.index 149 (.agg #[x0, x1, x2, x3]) (.int .i64 2)).run Try.prog w = .ok x2 w := fun _ _ _ _ _ => by kernel_rfl
  have i3 : ∀ (x0 x1 x2 x3 : Value) w, (Instr.index 149 (.agg #[x0, x1, x2, x3]) (.int .i64 3)).run Try.prog w = .ok x3 w := fun _ _ _ _ _ => by kernel_rfl
  go_enter Try.func62, Try.ntmps62
  go_wp2_with fail
  refine (bytes_c _ _ h0 h1).mono ?_
  rintro e w1 ⟨rfl, hb⟩
  go_wp2_with fail
  refine (place_c _ _).mono ?_
  rintro e w2 ⟨rfl, rfl⟩
  rcases mod4 i with h | h | h | h
  · have hq : Hid (byt a i = a % 256) := byt0 a i h
    rw [h]
    clear h
    go_wp2
    go_ret
    exact ⟨by rw [hq.out]; rfl, hb⟩
  · have hq : Hid (byt a i = a / 256 % 256) := byt1 a i h
    rw [h]
    clear h
    go_wp2
    go_ret
    exact ⟨by rw [hq.out]; rfl, hb⟩
  · have hq : Hid (byt a i = a / 65536 % 256) := byt2 a i h
    rw [h]
    clear h
    go_wp2
    go_ret
    exact ⟨by rw [hq.out]; rfl, hb⟩
  · have hq : Hid (byt a i = a / 16777216) := byt3 a i h h0 h1
    rw [h]
    clear h
    go_wp2
    go_ret
    exact ⟨by rw [hq.out]; rfl, hb⟩
theorem rbyte_c (a i : Int) (w : World) (h0 : 0 ≤ a) (h1 : a ≤ 4294967295) :
    Calls Try.prog 51 #[.int .u32 a, .int .i64 i] w fun e w' => e = .returned (.int .u8 (byt a i)) ∧ w = w' := by
  go_enter Try.func51, Try.ntmps51
  go_wp2
  rw [rem4 i]
  go_loop [0, 1] (fun x y => ∃ (k : Nat) (q : Int), k ≤ 3 ∧ 0 ≤ q ∧ q ≤ 4294967295 ∧ y = .int .i64 k ∧ x = .int .u32 q ∧ byt q k = byt a i) (fun _ y => (intOf y).toNat)
  case atStart =>
    have hm : 0 ≤ i % 4 ∧ i % 4 ≤ 3 := by omega
    refine ⟨(i % 4).toNat, a, by omega, h0, h1, ?_, rfl, ?_⟩
    · rw [Int.toNat_of_nonneg hm.1]
    · rw [Int.toNat_of_nonneg hm.1]; exact byt_mod a i
  case round =>
    obtain ⟨k, q, hk, hq0, hq1, rfl, rfl, hq⟩ := hrel
    have HQ := hq
    have HH : Hid (byt q k = byt a i) := HQ
    clear HQ hq
    by_cases hp : 0 < k
    · go_wp2
      go_round
      case rel => exact ⟨k - 1, q / 256, by omega, by omega, by omega, by rw [show ((k - 1 : Nat) : Int) = (k : Int) - 1 by omega], rfl, by rw [show ((k - 1 : Nat) : Int) = (k : Int) - 1 by omega, byt_step q k hp hk hq0 hq1]; exact HH.out⟩
      case measure => simp [intOf]; omega
    · obtain rfl : k = 0 := by omega
      go_wp2
      go_ret
      exact ⟨by rw [← HH.out, byt0 q _ (by omega)]; rfl, rfl⟩
end Go.Proofs.Ytjlcncdhlcpklaa.Wd
