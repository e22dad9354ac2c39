/-
  Contracts of layer 2 (isa): Valid, Encode, Decode of a table that is new or filled, and of none.
-/
import Derived.Test.YtjlcncdhlcpklaaIsaCalls
namespace Go.Proofs.Ytjlcncdhlcpklaa
open Go.ChangeShapes Go.WideShapes Go.ChangeAt Go.RowKit
set_option linter.unusedVariables false
set_option maxRecDepth 20000

/-- What a new block of four ints holds stays, whatever is done to another block. -/
theorem box4 {b lo hi : Nat} {w w1 : World} {t : TypeId} {x0 x1 x2 x3 : Value} (q : Keep b lo hi (w.alloc (.cells #[x0, x1, x2, x3] t)) w1) (hb : b < w.heap.size) :
    w.heap.size < w1.heap.size ∧ w1.cell? ⟨w.heap.size, 0, none⟩ = some x0 ∧ w1.cell? ⟨w.heap.size, 1, none⟩ = some x1 ∧ w1.cell? ⟨w.heap.size, 2, none⟩ = some x2 ∧ w1.cell? ⟨w.heap.size, 3, none⟩ = some x3 := by
  have h : w1.heap[w.heap.size]? = some (.cells #[x0, x1, x2, x3] t) := (q.block w.heap.size (by simp) (by omega)).trans (heap_alloc_new w _)
  have hs := q.size
  refine ⟨by simp at hs; omega, ?_, ?_, ?_, ?_⟩ <;> (unfold World.cell?; rw [h]; rfl)

set_option maxHeartbeats 1000000 in
theorem valid_c (b off : Nat) (op a c i : Int) (w : World) (ht : TabOk w b off) :
    Calls Try.prog 59 #[.pointer (some ⟨b, off, none⟩), .agg #[.int .i64 op, .int .i64 a, .int .i64 c, .int .i64 i]] w fun e w' =>
      e = .returned (.bool (vldB op a c i)) ∧ TabOk w' b off ∧ Keep b off (off + 103) w w' := by
  have hk0 := (Keep.refl off (off + 103) ht.home).alloc (.cells #[.int .i64 op, .int .i64 a, .int .i64 c, .int .i64 i] 67)
  go_enter Try.func59, Try.ntmps59
  go_wp2_with fail
  refine (row_c b off op _ (ht.alloc _)).mono ?_
  rintro e w1 ⟨rfl, t1, q1⟩
  obtain ⟨hlt, c0, c1, c2, c3⟩ := box4 q1 ht.home
  have q2 := hk0.trans q1
  clear q1 hk0
  have HK : Hid (vldB op a c i = (knB op && mayB (faB op) a 0 15 && mayB (fbB op) c 0 15 && mayB (fiB op) i (-32768) 32767)) := rfl
  cases hk : knB op
  · rw [hk] at HK
    go_wp2
    go_ret
    exact ⟨by rw [HK.out]; rfl, t1.alloc _, q2.alloc _⟩
  go_wp2_with fail
  refine (may_c _ _ _ _ _).mono ?_
  rintro e w2 ⟨rfl, rfl⟩
  cases hm1 : mayB (faB op) a 0 15
  · rw [hk, hm1] at HK
    go_wp2
    go_ret
    exact ⟨by rw [HK.out]; rfl, t1.alloc _, q2.alloc _⟩
  go_wp2_with fail
  refine (may_c _ _ _ _ _).mono ?_
  rintro e w2 ⟨rfl, rfl⟩
  cases hm2 : mayB (fbB op) c 0 15
  · rw [hk, hm1, hm2] at HK
    go_wp2
    go_ret
    exact ⟨by rw [HK.out]; rfl, t1.alloc _, q2.alloc _⟩
  go_wp2_with fail
  refine (may_c _ _ _ _ _).mono ?_
  rintro e w2 ⟨rfl, rfl⟩
  cases hm3 : mayB (fiB op) i (-32768) 32767
  · rw [hk, hm1, hm2, hm3] at HK
    go_wp2
    go_ret
    exact ⟨by rw [HK.out]; rfl, t1.alloc _, q2.alloc _⟩
  · rw [hk, hm1, hm2, hm3] at HK
    go_wp2
    go_ret
    exact ⟨by rw [HK.out]; rfl, t1.alloc _, q2.alloc _⟩
theorem valid_nil (op a c i : Int) (w : World) :
    Calls Try.prog 59 #[.pointer none, .agg #[.int .i64 op, .int .i64 a, .int .i64 c, .int .i64 i]] w fun e w' => e = .returned (.bool false) ∧ Below w.heap.size w w' := by
  go_enter Try.func59, Try.ntmps59
  go_wp2_with fail
  refine (row_nil op _).mono ?_
  rintro e w1 ⟨rfl, q1⟩
  have hb : Below w.heap.size w w1 := ((Below.refl _ _).alloc (Nat.le_refl _) _).trans (q1.mono (by simp))
  go_wp2
  go_ret
  exact ⟨rfl, hb.alloc hb.size _⟩

/-- The word, as the program lays it together. -/
theorem enc_bits (op a b i : Int) (h1 : 0 ≤ op ∧ op ≤ 24) (h2 : 0 ≤ a ∧ a ≤ 15) (h3 : 0 ≤ b ∧ b ≤ 15) (x : Int) (hx : x = i % 65536) :
    bits .or .u32 (bits .or .u32 (bits .or .u32 (op * 16777216) (a * 1048576)) (b * 65536)) x = encI op a b i := by
  have hx0 : 0 ≤ x ∧ x < 65536 := by omega
  unfold encI
  rw [or_comm_u32, or_comm_u32 (bits .or .u32 (op * 16777216) (a * 1048576)), or_comm_u32 (op * 16777216)]
  rw [or_u32 24 (op * 16777216) (a * 1048576) (by omega) (by omega) (by omega) (by omega) (by omega) (by omega)]
  rw [or_u32 20 (a * 1048576 + op * 16777216) (b * 65536) (by omega) (by omega) (by omega) (by omega) (by omega) (by omega)]
  rw [or_u32 16 _ x (by omega) (by omega) (by omega) (by omega) (by omega) (by omega)]
  omega

theorem wrap_u16 (i : Int) : IntKind.u16.wrap i % 4294967296 = i % 65536 := by
  simp [IntKind.wrap, IntKind.bits, IntKind.signed]
  omega
/-- The word of an instruction, or 0. -/
def encR (op a b i : Int) : Int := if vldB op a b i then encI op a b i else 0
theorem sign_c (a : Int) (w : World) (h0 : 0 ≤ a) (h1 : a ≤ 4294967295) :
    Calls Try.prog 58 #[.int .u32 a] w fun e w' => e = .returned (.int .u32 (sgn a)) ∧ w = w' := by
  go_enter Try.func58, Try.ntmps58
  go_wp2
  go_ret
  exact ⟨by rw [← wrap16_mod a]; rfl, rfl⟩
theorem and15 (x : Int) (h0 : 0 ≤ x) (h1 : x ≤ 4294967295) : bits .and .u32 x 15 = x % 16 := by
  obtain ⟨n, rfl⟩ := Int.eq_ofNat_of_zero_le h0
  have h3 : (BitVec.ofInt 32 15).toNat = 2 ^ 4 - 1 := by decide
  have key : (BitVec.ofInt 32 (n : Int) &&& BitVec.ofInt 32 15).toNat = ((n : Int) % ((2 ^ 32 : Nat) : Int)).toNat % 2 ^ 4 := by
    rw [BitVec.toNat_and, BitVec.toNat_ofInt, h3, Nat.and_two_pow_sub_one_eq_mod]
  show IntKind.u32.wrap ((BitVec.ofInt 32 (n : Int) &&& BitVec.ofInt 32 15).toNat : Nat) = (n : Int) % 16
  rw [key, IntKind.wrap_u32]
  omega
theorem sgn_di (w : Int) (h0 : 0 ≤ w) (h1 : w ≤ 4294967295) : wrap32 (sgn w) = diI w := by
  unfold wrap32 sgn diI
  split <;> omega
set_option maxHeartbeats 1000000 in
theorem decode_yes (b off : Nat) (x : Int) (w : World) (ht : TabOk w b off) (h0 : 0 ≤ x) (h1 : x ≤ 4294967295) (hv : vldB (dopI x) (daI x) (dbI x) (diI x) = true) :
    Calls Try.prog 39 #[.pointer (some ⟨b, off, none⟩), .int .u32 x] w fun e w' =>
      e = .returned (.tuple #[.agg #[.int .i64 (dopI x), .int .i64 (daI x), .int .i64 (dbI x), .int .i64 (diI x)], .bool true]) ∧ TabOk w' b off ∧ Keep b off (off + 103) w w' := by
  have HV : Hid (vldB (dopI x) (daI x) (dbI x) (diI x) = true) := hv
  clear hv
  have hb := ht.home
  have HA : Hid (wrap64 (bits .and .u32 (x / 1048576) 15) = daI x) := by
    show _ = _
    rw [and15 _ (by omega) (by omega)]
    unfold daI wrap64
    omega
  have HB : Hid (wrap64 (bits .and .u32 (x / 65536) 15) = dbI x) := by
    show _ = _
    rw [and15 _ (by omega) (by omega)]
    unfold dbI wrap64
    omega
  have HI : Hid (wrap64 (wrap32 (sgn x)) = diI x) := by
    show _ = _
    rw [sgn_di x h0 h1]
    unfold diI wrap64
    split <;> omega
  go_enter Try.func39, Try.ntmps39
  go_wp2_with fail
  refine (sign_c _ _ h0 h1).mono ?_
  rintro e w1 ⟨rfl, rfl⟩
  go_wp2_with fail
  rw [HA.out, HB.out, HI.out, show x / 16777216 = dopI x from rfl]
  refine (valid_c b off _ _ _ _ _ ((ht.alloc _).alloc _)).mono ?_
  rintro e w1 ⟨rfl, t1, q1⟩
  rw [HV.out]
  have hs : w.heap.size + 1 < w1.heap.size := by have := q1.size; simp at this; omega
  have q2 : Keep b off (off + 103) w w1 := (((Keep.refl off (off + 103) hb).alloc _).alloc _).trans q1
  have hnew : w1.heap[w.heap.size]? = some (.cells #[.int .i64 0, .int .i64 0, .int .i64 0, .int .i64 0] 67) := (q1.block w.heap.size (by simp; omega) (by omega)).trans ((Below.heap_alloc _ _ _ (by simp)).trans (heap_alloc_new w _))
  have hold := (q1.block (w.heap.size + 1) (by simp) (by omega))
  have hol2 := heap_alloc_new (w.alloc (.cells #[.int .i64 0, .int .i64 0, .int .i64 0, .int .i64 0] 67)) (.cells #[.int .i64 (dopI x), .int .i64 (daI x), .int .i64 (dbI x), .int .i64 (diI x)] 67)
  rw [show (w.alloc (.cells #[.int .i64 0, .int .i64 0, .int .i64 0, .int .i64 0] 67)).heap.size = w.heap.size + 1 by simp] at hol2
  replace hold := hold.trans hol2
  clear hol2
  have z0 : ∀ j, w1.frozen? ⟨w.heap.size, j, none⟩ = false := fun j => by simp [World.frozen?, hnew]
  have k0 : w1.cell? ⟨w.heap.size, 0, none⟩ = some (.int .i64 0) := by simp [World.cell?, hnew]
  have k1 : w1.cell? ⟨w.heap.size, 1, none⟩ = some (.int .i64 0) := by simp [World.cell?, hnew]
  have k2 : w1.cell? ⟨w.heap.size, 2, none⟩ = some (.int .i64 0) := by simp [World.cell?, hnew]
  have k3 : w1.cell? ⟨w.heap.size, 3, none⟩ = some (.int .i64 0) := by simp [World.cell?, hnew]
  have c0 : w1.cell? ⟨w.heap.size + 1, 0, none⟩ = some (.int .i64 (dopI x)) := by simp [World.cell?, hold]
  have c1 : w1.cell? ⟨w.heap.size + 1, 1, none⟩ = some (.int .i64 (daI x)) := by simp [World.cell?, hold]
  have c2 : w1.cell? ⟨w.heap.size + 1, 2, none⟩ = some (.int .i64 (dbI x)) := by simp [World.cell?, hold]
  have c3 : w1.cell? ⟨w.heap.size + 1, 3, none⟩ = some (.int .i64 (diI x)) := by simp [World.cell?, hold]
  clear hnew hold
  have hne : w.heap.size ≠ b := by omega
  go_wp2
  exact bodyPost_ret (v := .tuple #[.agg #[.int .i64 (dopI x), .int .i64 (daI x), .int .i64 (dbI x), .int .i64 (diI x)], .bool true]) (by simp [results, Try.results39, go_sem, k0, k1, k2, k3]) rfl ⟨rfl, (((t1.setFar hne _).setFar hne _).setFar hne _).setFar hne _, (((q2.setNew (Nat.le_refl _) _).setNew (Nat.le_refl _) _).setNew (Nat.le_refl _) _).setNew (Nat.le_refl _) _⟩
set_option maxHeartbeats 1000000 in
theorem decode_no (b off : Nat) (x : Int) (w : World) (ht : TabOk w b off) (h0 : 0 ≤ x) (h1 : x ≤ 4294967295) (hv : vldB (dopI x) (daI x) (dbI x) (diI x) = false) :
    Calls Try.prog 39 #[.pointer (some ⟨b, off, none⟩), .int .u32 x] w fun e w' =>
      e = .returned (.tuple #[.agg #[.int .i64 0, .int .i64 0, .int .i64 0, .int .i64 0], .bool false]) ∧ TabOk w' b off ∧ Keep b off (off + 103) w w' := by
  have HV : Hid (vldB (dopI x) (daI x) (dbI x) (diI x) = false) := hv
  clear hv
  have hb := ht.home
  have HA : Hid (wrap64 (bits .and .u32 (x / 1048576) 15) = daI x) := by
    show _ = _
    rw [and15 _ (by omega) (by omega)]
    unfold daI wrap64
    omega
  have HB : Hid (wrap64 (bits .and .u32 (x / 65536) 15) = dbI x) := by
    show _ = _
    rw [and15 _ (by omega) (by omega)]
    unfold dbI wrap64
    omega
  have HI : Hid (wrap64 (wrap32 (sgn x)) = diI x) := by
    show _ = _
    rw [sgn_di x h0 h1]
    unfold diI wrap64
    split <;> omega
  go_enter Try.func39, Try.ntmps39
  go_wp2_with fail
  refine (sign_c _ _ h0 h1).mono ?_
  rintro e w1 ⟨rfl, rfl⟩
  go_wp2_with fail
  rw [HA.out, HB.out, HI.out, show x / 16777216 = dopI x from rfl]
  refine (valid_c b off _ _ _ _ _ ((ht.alloc _).alloc _)).mono ?_
  rintro e w1 ⟨rfl, t1, q1⟩
  rw [HV.out]
  have hs : w.heap.size + 1 < w1.heap.size := by have := q1.size; simp at this; omega
  have q2 : Keep b off (off + 103) w w1 := (((Keep.refl off (off + 103) hb).alloc _).alloc _).trans q1
  have hnew : w1.heap[w.heap.size]? = some (.cells #[.int .i64 0, .int .i64 0, .int .i64 0, .int .i64 0] 67) := (q1.block w.heap.size (by simp; omega) (by omega)).trans ((Below.heap_alloc _ _ _ (by simp)).trans (heap_alloc_new w _))
  have hold := (q1.block (w.heap.size + 1) (by simp) (by omega))
  have hol2 := heap_alloc_new (w.alloc (.cells #[.int .i64 0, .int .i64 0, .int .i64 0, .int .i64 0] 67)) (.cells #[.int .i64 (dopI x), .int .i64 (daI x), .int .i64 (dbI x), .int .i64 (diI x)] 67)
  rw [show (w.alloc (.cells #[.int .i64 0, .int .i64 0, .int .i64 0, .int .i64 0] 67)).heap.size = w.heap.size + 1 by simp] at hol2
  replace hold := hold.trans hol2
  clear hol2
  have z0 : ∀ j, w1.frozen? ⟨w.heap.size, j, none⟩ = false := fun j => by simp [World.frozen?, hnew]
  have k0 : w1.cell? ⟨w.heap.size, 0, none⟩ = some (.int .i64 0) := by simp [World.cell?, hnew]
  have k1 : w1.cell? ⟨w.heap.size, 1, none⟩ = some (.int .i64 0) := by simp [World.cell?, hnew]
  have k2 : w1.cell? ⟨w.heap.size, 2, none⟩ = some (.int .i64 0) := by simp [World.cell?, hnew]
  have k3 : w1.cell? ⟨w.heap.size, 3, none⟩ = some (.int .i64 0) := by simp [World.cell?, hnew]
  have c0 : w1.cell? ⟨w.heap.size + 1, 0, none⟩ = some (.int .i64 (dopI x)) := by simp [World.cell?, hold]
  have c1 : w1.cell? ⟨w.heap.size + 1, 1, none⟩ = some (.int .i64 (daI x)) := by simp [World.cell?, hold]
  have c2 : w1.cell? ⟨w.heap.size + 1, 2, none⟩ = some (.int .i64 (dbI x)) := by simp [World.cell?, hold]
  have c3 : w1.cell? ⟨w.heap.size + 1, 3, none⟩ = some (.int .i64 (diI x)) := by simp [World.cell?, hold]
  clear hnew hold
  have hne : w.heap.size ≠ b := by omega
  go_wp2
  exact bodyPost_ret (v := .tuple #[.agg #[.int .i64 0, .int .i64 0, .int .i64 0, .int .i64 0], .bool false]) (by simp [results, Try.results39, go_sem, k0, k1, k2, k3]) rfl ⟨rfl, (((t1.setFar hne _).setFar hne _).setFar hne _).setFar hne _, (((q2.setNew (Nat.le_refl _) _).setNew (Nat.le_refl _) _).setNew (Nat.le_refl _) _).setNew (Nat.le_refl _) _⟩
set_option maxHeartbeats 1000000 in
theorem decode_nil (x : Int) (w : World) (h0 : 0 ≤ x) (h1 : x ≤ 4294967295) :
    Calls Try.prog 39 #[.pointer none, .int .u32 x] w fun e w' =>
      e = .returned (.tuple #[.agg #[.int .i64 0, .int .i64 0, .int .i64 0, .int .i64 0], .bool false]) ∧ Below w.heap.size w w' := by
  have HA : Hid (wrap64 (bits .and .u32 (x / 1048576) 15) = daI x) := by
    show _ = _
    rw [and15 _ (by omega) (by omega)]
    unfold daI wrap64
    omega
  have HB : Hid (wrap64 (bits .and .u32 (x / 65536) 15) = dbI x) := by
    show _ = _
    rw [and15 _ (by omega) (by omega)]
    unfold dbI wrap64
    omega
  have HI : Hid (wrap64 (wrap32 (sgn x)) = diI x) := by
    show _ = _
    rw [sgn_di x h0 h1]
    unfold diI wrap64
    split <;> omega
  go_enter Try.func39, Try.ntmps39
  go_wp2_with fail
  refine (sign_c _ _ h0 h1).mono ?_
  rintro e w1 ⟨rfl, rfl⟩
  go_wp2_with fail
  rw [HA.out, HB.out, HI.out, show x / 16777216 = dopI x from rfl]
  refine (valid_nil _ _ _ _ _).mono ?_
  rintro e w1 ⟨rfl, q1⟩
  have hs : w.heap.size + 1 < w1.heap.size := by have := q1.size; simp at this; omega
  have hb1 : Below w.heap.size w w1 := (((Below.refl _ _).alloc (Nat.le_refl _) _).alloc (by simp) _).trans (q1.mono (by simp; omega))
  have hnew : w1.heap[w.heap.size]? = some (.cells #[.int .i64 0, .int .i64 0, .int .i64 0, .int .i64 0] 67) := (q1.block w.heap.size (by simp; omega)).trans ((Below.heap_alloc _ _ _ (by simp)).trans (heap_alloc_new w _))
  have z0 : ∀ j, w1.frozen? ⟨w.heap.size, j, none⟩ = false := fun j => by simp [World.frozen?, hnew]
  have k0 : w1.cell? ⟨w.heap.size, 0, none⟩ = some (.int .i64 0) := by simp [World.cell?, hnew]
  have k1 : w1.cell? ⟨w.heap.size, 1, none⟩ = some (.int .i64 0) := by simp [World.cell?, hnew]
  have k2 : w1.cell? ⟨w.heap.size, 2, none⟩ = some (.int .i64 0) := by simp [World.cell?, hnew]
  have k3 : w1.cell? ⟨w.heap.size, 3, none⟩ = some (.int .i64 0) := by simp [World.cell?, hnew]
  clear hnew
  go_wp2
  exact bodyPost_ret (v := .tuple #[.agg #[.int .i64 0, .int .i64 0, .int .i64 0, .int .i64 0], .bool false]) (by simp [results, Try.results39, go_sem, k0, k1, k2, k3]) rfl ⟨rfl, (((hb1.setCell (Nat.le_refl _) _).setCell (Nat.le_refl _) _).setCell (Nat.le_refl _) _).setCell (Nat.le_refl _) _⟩
end Go.Proofs.Ytjlcncdhlcpklaa
