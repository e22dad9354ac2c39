/-
  Numbers and masks: 'x & (2^k - 1)' of a number with a sign. Nothing of the program is named here.
-/
import Derived.Test.YtfopmdiepaonnaaBut
namespace Go.Proofs.Ytfopmdiepaonnaa
theorem and_mask64 (k c : Nat) (x : Int) (hk : k ≤ 62) (hc : (BitVec.ofInt 64 c).toNat = 2 ^ k - 1) : bits .and .i64 x c = x % ((2 ^ k : Nat) : Int) := by
  have key : (BitVec.ofInt 64 x &&& BitVec.ofInt 64 c).toNat = (x % ((2 ^ 64 : Nat) : Int)).toNat % 2 ^ k := by
    rw [BitVec.toNat_and, BitVec.toNat_ofInt, hc, Nat.and_two_pow_sub_one_eq_mod]
  show IntKind.i64.wrap ((BitVec.ofInt 64 x &&& BitVec.ofInt 64 c).toNat : Nat) = _
  rw [key]
  have hp : 0 < 2 ^ k := Nat.two_pow_pos k
  have hle : 2 ^ k ≤ 2 ^ 62 := Nat.pow_le_pow_right (by omega) hk
  have e : (((x % ((2 ^ 64 : Nat) : Int)).toNat % 2 ^ k : Nat) : Int) = x % ((2 ^ k : Nat) : Int) := by
    have h1 : (((x % ((2 ^ 64 : Nat) : Int)).toNat : Nat) : Int) = x % ((2 ^ 64 : Nat) : Int) := Int.toNat_of_nonneg (Int.emod_nonneg _ (by decide))
    rw [Int.natCast_emod, h1]
    exact Int.emod_emod_of_dvd x (by exact_mod_cast Nat.pow_dvd_pow 2 (by omega))
  rw [e, IntKind.wrap_i64]
  have h1 := Int.emod_nonneg x (b := ((2 ^ k : Nat) : Int)) (by omega)
  have h2 := Int.emod_lt_of_pos x (b := ((2 ^ k : Nat) : Int)) (by omega)
  have h3 : ((2 ^ k : Nat) : Int) ≤ 4611686018427387904 := by
    have : (2 : Nat) ^ 62 = 4611686018427387904 := by decide
    omega
  omega
theorem and31 (x : Int) : bits .and .i64 x 31 = x % 32 := and_mask64 5 31 x (by omega) (by decide)
theorem and63 (x : Int) : bits .and .i64 x 63 = x % 64 := and_mask64 6 63 x (by omega) (by decide)
theorem and1023 (x : Int) : bits .and .i64 x 1023 = x % 1024 := and_mask64 10 1023 x (by omega) (by decide)
end Go.Proofs.Ytfopmdiepaonnaa
