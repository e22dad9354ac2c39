/-
  Plain arithmetic of layer 1 (word): bytes of a number of 32 bits, signs; nothing of the program is named here.
-/
import Derived.Laws.BitsLemmas
import Derived.Laws.BitsAllLaws
import Derived.WalkKit
namespace Go.Proofs.Ytjlcncdhlcpklaa
open Go
set_option linter.unusedVariables false

/-- The lowest 16 bits, the highest of them spread. -/
def sgn (a : Int) : Int := if 32768 ≤ a % 65536 then a % 65536 + 4294901760 else a % 65536
/-- A number of 32 bits, the highest one being a sign. -/
def vlu (a : Int) : Int := if 2147483648 ≤ a then a - 4294967296 else a
/-- Byte i (modulo 4) of a number. -/
def byt (w i : Int) : Int := if i % 4 = 0 then w % 256 else if i % 4 = 1 then w / 256 % 256 else if i % 4 = 2 then w / 65536 % 256 else w / 16777216 % 256
/-- A number with another byte i. -/
def wth (w i b : Int) : Int := if i % 4 = 0 then w - byt w i + b else if i % 4 = 1 then w - 256 * byt w i + 256 * b else if i % 4 = 2 then w - 65536 * byt w i + 65536 * b else w - 16777216 * byt w i + 16777216 * b
/-- The number of four bytes. -/
def num4 (a b c d : Int) : Int := a + 256 * b + 65536 * c + 16777216 * d

theorem u32_bounds {a : Int} (h : (Lit.int .u32 a).wf = true) : 0 ≤ a ∧ a ≤ 4294967295 := by
  simp [Lit.wf, IntKind.min, IntKind.max, IntKind.signed, IntKind.bits] at h; omega
theorem u8_bounds {a : Int} (h : (Lit.int .u8 a).wf = true) : 0 ≤ a ∧ a ≤ 255 := by
  simp [Lit.wf, IntKind.min, IntKind.max, IntKind.signed, IntKind.bits] at h; omega
theorem i64_bounds {a : Int} (h : (Lit.int .i64 a).wf = true) : -9223372036854775808 ≤ a ∧ a ≤ 9223372036854775807 := by
  simp [Lit.wf, IntKind.min, IntKind.max, IntKind.signed, IntKind.bits] at h; omega

theorem wrap16_mod (a : Int) : IntKind.i16.wrap a % 4294967296 = sgn a := by
  unfold sgn
  simp [IntKind.wrap, IntKind.bits, IntKind.signed]
  split <;> omega
theorem wrap32_vlu (a : Int) (h0 : 0 ≤ a) (h1 : a ≤ 4294967295) : RowKit.wrap32 a = vlu a := by
  unfold RowKit.wrap32 vlu; split <;> omega
theorem i64_and3 (n : Int) : bits .and .i64 n 3 = n % 4 := by
  have h3 : (BitVec.ofInt 64 3).toNat = 2 ^ 2 - 1 := by decide
  have key : (BitVec.ofInt 64 n &&& BitVec.ofInt 64 3).toNat = (n % ((2 ^ 64 : Nat) : Int)).toNat % 2 ^ 2 := by
    rw [BitVec.toNat_and, BitVec.toNat_ofInt, h3, Nat.and_two_pow_sub_one_eq_mod]
  show IntKind.i64.wrap ((BitVec.ofInt 64 n &&& BitVec.ofInt 64 3).toNat : Nat) = n % 4
  rw [key, IntKind.wrap_i64]
  omega
theorem wraps_u32 (n : Int) (h₀ : 0 ≤ n) (h₁ : n < 2 ^ 32) : IntKind.u32.wrap n = n := by rw [IntKind.wrap_u32]; omega
theorem or_comm_u32 (x y : Int) : bits .or .u32 x y = bits .or .u32 y x := by simp only [bits, BitVec.or_comm]
theorem or_u32 (i : Nat) (x y : Int) (hx0 : 0 ≤ x) (hx : x % 2 ^ i = 0) (hx1 : x < 2 ^ 32) (hy0 : 0 ≤ y) (hy : y < 2 ^ i) (hy1 : y < 2 ^ 32) : bits .or .u32 y x = y + x := by
  rw [or_comm_u32, bits_join .u32 32 (by decide) wraps_u32 i x y hx0 hx hx1 hy0 hy hy1]; omega
theorem of_bits (a b c d : Int) (ha : 0 ≤ a ∧ a ≤ 255) (hb : 0 ≤ b ∧ b ≤ 255) (hc : 0 ≤ c ∧ c ≤ 255) (hd : 0 ≤ d ∧ d ≤ 255) :
    bits .or .u32 (bits .or .u32 (bits .or .u32 a (b * 256)) (c * 65536)) (d * 16777216) = num4 a b c d := by
  unfold num4
  rw [or_u32 8 (b * 256) a (by omega) (by omega) (by omega) (by omega) (by omega) (by omega)]
  rw [or_u32 16 (c * 65536) _ (by omega) (by omega) (by omega) (by omega) (by omega) (by omega)]
  rw [or_u32 24 (d * 16777216) _ (by omega) (by omega) (by omega) (by omega) (by omega) (by omega)]
  omega

theorem byt_bd (w i : Int) : 0 ≤ byt w i ∧ byt w i ≤ 255 := by unfold byt; split <;> (try split) <;> (try split) <;> omega
theorem num4_bytes (a : Int) (h0 : 0 ≤ a) (h1 : a ≤ 4294967295) : num4 (a % 256) (a / 256 % 256) (a / 65536 % 256) (a / 16777216) = a := by unfold num4; omega
theorem num4_bd (a b c d : Int) (ha : 0 ≤ a ∧ a ≤ 255) (hb : 0 ≤ b ∧ b ≤ 255) (hc : 0 ≤ c ∧ c ≤ 255) (hd : 0 ≤ d ∧ d ≤ 255) : 0 ≤ num4 a b c d ∧ num4 a b c d ≤ 4294967295 := by unfold num4; omega
theorem byt0 (w i : Int) (h : i % 4 = 0) : byt w i = w % 256 := by unfold byt; rw [if_pos h]
theorem byt1 (w i : Int) (h : i % 4 = 1) : byt w i = w / 256 % 256 := by unfold byt; rw [if_neg (by omega), if_pos h]
theorem byt2 (w i : Int) (h : i % 4 = 2) : byt w i = w / 65536 % 256 := by unfold byt; rw [if_neg (by omega), if_neg (by omega), if_pos h]
theorem byt3 (w i : Int) (h : i % 4 = 3) (h0 : 0 ≤ w) (h1 : w ≤ 4294967295) : byt w i = w / 16777216 := by unfold byt; rw [if_neg (by omega), if_neg (by omega), if_neg (by omega)]; omega
theorem wth0 (w i b : Int) (h : i % 4 = 0) (h0 : 0 ≤ w) (h1 : w ≤ 4294967295) : num4 b (w / 256 % 256) (w / 65536 % 256) (w / 16777216) = wth w i b := by unfold wth; rw [if_pos h, byt0 w i h]; unfold num4; omega
theorem wth1 (w i b : Int) (h : i % 4 = 1) (h0 : 0 ≤ w) (h1 : w ≤ 4294967295) : num4 (w % 256) b (w / 65536 % 256) (w / 16777216) = wth w i b := by unfold wth; rw [if_neg (by omega), if_pos h, byt1 w i h]; unfold num4; omega
theorem wth2 (w i b : Int) (h : i % 4 = 2) (h0 : 0 ≤ w) (h1 : w ≤ 4294967295) : num4 (w % 256) (w / 256 % 256) b (w / 16777216) = wth w i b := by unfold wth; rw [if_neg (by omega), if_neg (by omega), if_pos h, byt2 w i h]; unfold num4; omega
theorem wth3 (w i b : Int) (h : i % 4 = 3) (h0 : 0 ≤ w) (h1 : w ≤ 4294967295) : num4 (w % 256) (w / 256 % 256) (w / 65536 % 256) b = wth w i b := by unfold wth; rw [if_neg (by omega), if_neg (by omega), if_neg (by omega), byt3 w i h h0 h1]; unfold num4; omega
theorem mod4 (i : Int) : i % 4 = 0 ∨ i % 4 = 1 ∨ i % 4 = 2 ∨ i % 4 = 3 := by omega
theorem wth_bd (w i b : Int) (h0 : 0 ≤ w) (h1 : w ≤ 4294967295) (hb0 : 0 ≤ b) (hb1 : b ≤ 255) : 0 ≤ wth w i b ∧ wth w i b ≤ 4294967295 := by
  rcases mod4 i with h | h | h | h
  · rw [← wth0 w i b h h0 h1]; unfold num4; omega
  · rw [← wth1 w i b h h0 h1]; unfold num4; omega
  · rw [← wth2 w i b h h0 h1]; unfold num4; omega
  · rw [← wth3 w i b h h0 h1]; unfold num4; omega
theorem byt_wth (w i b : Int) (h0 : 0 ≤ w) (h1 : w ≤ 4294967295) (hb0 : 0 ≤ b) (hb1 : b ≤ 255) : byt (wth w i b) i = b := by
  have hd := wth_bd w i b h0 h1 hb0 hb1
  rcases mod4 i with h | h | h | h
  · rw [byt0 _ i h, ← wth0 w i b h h0 h1]; unfold num4; omega
  · rw [byt1 _ i h, ← wth1 w i b h h0 h1]; unfold num4; omega
  · rw [byt2 _ i h, ← wth2 w i b h h0 h1]; unfold num4; omega
  · rw [byt3 _ i h hd.1 hd.2, ← wth3 w i b h h0 h1]; unfold num4; omega
theorem byt_wth_ne (w i k b : Int) (h0 : 0 ≤ w) (h1 : w ≤ 4294967295) (hb0 : 0 ≤ b) (hb1 : b ≤ 255) (hne : ¬ i % 4 = k % 4) : byt (wth w i b) k = byt w k := by
  have hd := wth_bd w i b h0 h1 hb0 hb1
  rcases mod4 i with h | h | h | h <;> rcases mod4 k with g | g | g | g <;> first | (exfalso; omega) | skip
  all_goals first | rw [byt0 _ k g, byt0 _ k g] | rw [byt1 _ k g, byt1 _ k g] | rw [byt2 _ k g, byt2 _ k g] | rw [byt3 _ k g hd.1 hd.2, byt3 _ k g h0 h1]
  all_goals first | rw [← wth0 w i b h h0 h1] | rw [← wth1 w i b h h0 h1] | rw [← wth2 w i b h h0 h1] | rw [← wth3 w i b h h0 h1]
  all_goals (unfold num4; omega)
theorem rem4 (i : Int) : (RowKit.wrap64 (i.tmod 4 + 4)).tmod 4 = i % 4 := by
  have h := Int.tmod_eq_emod (a := i) (b := 4)
  have e : i.tmod 4 + 4 = (if 0 ≤ i ∨ (4 : Int) ∣ i then i % 4 + 4 else i % 4) := by
    rw [h]; split <;> simp
  have hb : 0 ≤ i.tmod 4 + 4 ∧ i.tmod 4 + 4 ≤ 7 := by rw [e]; split <;> omega
  have hw : RowKit.wrap64 (i.tmod 4 + 4) = i.tmod 4 + 4 := by unfold RowKit.wrap64; omega
  rw [hw, Int.tmod_eq_emod_of_nonneg hb.1, e]
  split <;> omega
theorem byt_step (q : Int) (k : Nat) (hk : 0 < k) (hk3 : k ≤ 3) (h0 : 0 ≤ q) (h1 : q ≤ 4294967295) : byt (q / 256) ((k : Int) - 1) = byt q k := by
  have : k = 1 ∨ k = 2 ∨ k = 3 := by omega
  rcases this with rfl | rfl | rfl
  · rw [byt0 _ _ (by omega), byt1 _ _ (by omega)]
  · rw [byt1 _ _ (by omega), byt2 _ _ (by omega)]; omega
  · rw [byt2 _ _ (by omega), byt3 _ _ (by omega) h0 h1]; omega
theorem byt_mod (w i : Int) : byt w (i % 4) = byt w i := by unfold byt; rw [show i % 4 % 4 = i % 4 by omega]
end Go.Proofs.Ytjlcncdhlcpklaa
