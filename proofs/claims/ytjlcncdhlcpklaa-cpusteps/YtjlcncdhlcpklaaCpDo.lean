/-
  Layer 6 (cpu): an instruction that is being done: how it lies in memory; contracts of number, address, inWord, skip, reckoned, over the translated program.
-/
import Derived.Test.YtjlcncdhlcpklaaCpFind
namespace Go.Proofs.Ytjlcncdhlcpklaa.Cp
open Go.ChangeShapes Go.WideShapes Go.ChangeAt Go.RowKit
open Fr (MemAt Blk hasW hasF) 
open Tl (En TlbAt Ens getE misE ansE en0)
set_option linter.unusedVariables false
set_option maxRecDepth 20000

/-- The cells of an instruction that is being done: its CPU, Op, A, B, Imm, the program (sixteen registers and the PC), its space. -/
def df (bc : Nat) (op a b i : Int) (c : List Int) (s : Int) (j : Nat) : Value :=
  if j = 0 then .pointer (some ⟨bc, 0, none⟩) else if j = 1 then .int .i64 op else if j = 2 then .int .i64 a else if j = 3 then .int .i64 b else if j = 4 then .int .i64 i else if j < 22 then .int .u32 (c.getD (j - 5) 0) else .int .i64 s
structure DoAt (w : World) (bd bc : Nat) (op : Int) (a b : Nat) (i : Int) (c : List Int) (s : Int) : Prop where
  vb : VB w bd 23 (df bc op a b i c s)
  len : c.length = 17
  ha : a < 16
  hb : b < 16
  u : U32s c
section
variable {w : World} {bd bc : Nat} {op : Int} {a b : Nat} {i : Int} {c : List Int} {s : Int}
theorem DoAt.keep {k : List Nat} {w' : World} (h : DoAt w bd bc op a b i c s) (hk : But k w w') (hn : bd ∉ k) : DoAt w' bd bc op a b i c s := ⟨h.vb.keep hk hn, h.len, h.ha, h.hb, h.u⟩
theorem DoAt.lt (h : DoAt w bd bc op a b i c s) : bd < w.heap.size := h.vb.lt (by omega)
theorem DoAt.cpu (h : DoAt w bd bc op a b i c s) : w.cell? ⟨bd, 0, none⟩ = some (.pointer (some ⟨bc, 0, none⟩)) := (h.vb 0 (by omega)).1
theorem DoAt.op1 (h : DoAt w bd bc op a b i c s) : w.cell? ⟨bd, 1, none⟩ = some (.int .i64 op) := (h.vb 1 (by omega)).1
theorem DoAt.a2 (h : DoAt w bd bc op a b i c s) : w.cell? ⟨bd, 2, none⟩ = some (.int .i64 a) := (h.vb 2 (by omega)).1
theorem DoAt.b3 (h : DoAt w bd bc op a b i c s) : w.cell? ⟨bd, 3, none⟩ = some (.int .i64 b) := (h.vb 3 (by omega)).1
theorem DoAt.i4 (h : DoAt w bd bc op a b i c s) : w.cell? ⟨bd, 4, none⟩ = some (.int .i64 i) := (h.vb 4 (by omega)).1
theorem DoAt.s22 (h : DoAt w bd bc op a b i c s) : w.cell? ⟨bd, 22, none⟩ = some (.int .i64 s) := (h.vb 22 (by omega)).1
theorem df_reg (bc : Nat) (op a b i : Int) (c : List Int) (s : Int) (k : Nat) (hk : k < 17) : df bc op a b i c s (5 + k) = .int .u32 (c.getD k 0) := by
  unfold df
  rw [if_neg (by omega), if_neg (by omega), if_neg (by omega), if_neg (by omega), if_neg (by omega), if_pos (by omega), Nat.add_sub_cancel_left]
theorem DoAt.reg (h : DoAt w bd bc op a b i c s) (k : Nat) (hk : k < 17) : w.cell? ⟨bd, 5 + k, none⟩ = some (.int .u32 (c.getD k 0)) ∧ w.frozen? ⟨bd, 5 + k, none⟩ = false := by
  have := h.vb (5 + k) (by omega)
  rwa [df_reg _ _ _ _ _ _ _ _ hk] at this
theorem DoAt.set (h : DoAt w bd bc op a b i c s) (k : Nat) (hk : k < 17) (v : Int) (h0 : 0 ≤ v) (h1 : v ≤ 4294967295) : DoAt (w.setCell ⟨bd, 5 + k, none⟩ (.int .u32 v)) bd bc op a b i (c.set k v) s :=
  ⟨(h.vb.set (.int .u32 v)).congr fun j hj => by
    show (if j = 5 + k then Value.int .u32 v else df bc op a b i c s j) = df bc op a b i (c.set k v) s j
    have hkc : k < c.length := by rw [h.len]; exact hk
    by_cases e : j = 5 + k
    · subst e
      rw [if_pos rfl, df_reg _ _ _ _ _ _ _ _ hk, Fr.set_get _ _ _ _ hkc, if_pos rfl]
    · rw [if_neg e]
      unfold df
      by_cases h5 : j < 5
      · have : j = 0 ∨ j = 1 ∨ j = 2 ∨ j = 3 ∨ j = 4 := by omega
        rcases this with rfl | rfl | rfl | rfl | rfl <;> rfl
      · simp only [show ¬ j = 0 by omega, show ¬ j = 1 by omega, show ¬ j = 2 by omega, show ¬ j = 3 by omega, show ¬ j = 4 by omega, if_false]
        rw [Fr.set_get _ _ _ _ hkc, if_neg (show ¬ j - 5 = k by omega)], by rw [List.length_set]; exact h.len, h.ha, h.hb, h.u.set h0 h1 k⟩
end

theorem number_c (bd bc : Nat) (op : Int) (a b : Nat) (i : Int) (c : List Int) (s : Int) (w : World) (h : DoAt w bd bc op a b i c s) :
    Calls Try.prog 48 #[.pointer (some ⟨bd, 0, none⟩)] w fun e w' => e = .returned (.int .u32 (i % 4294967296)) ∧ w = w' := by
  have hi := h.i4
  clear h
  go_enter Try.func48, Try.ntmps48
  go_wp2
  go_ret
  exact ⟨rfl, rfl⟩
/-- The address of a load or a store. -/
def adr (c : List Int) (b : Nat) (i : Int) : Int := (c.getD b 0 + i % 4294967296) % 4294967296
theorem adr_bd (c : List Int) (b : Nat) (i : Int) : 0 ≤ adr c b i ∧ adr c b i ≤ 4294967295 := by unfold adr; omega
theorem address_c (bd bc : Nat) (op : Int) (a b : Nat) (i : Int) (c : List Int) (s : Int) (w : World) (h : DoAt w bd bc op a b i c s) :
    Calls Try.prog 60 #[.pointer (some ⟨bd, 0, none⟩)] w fun e w' => e = .returned (.int .u32 (adr c b i)) ∧ ∃ k, w' = w.drewN k := by
  have hb := h.b3
  have hr := (h.reg b (by have := h.hb; omega)).1
  have hb16 : (b : Int) < 16 := by have := h.hb; omega
  have hb0 : (0 : Int) ≤ (b : Int) := by omega
  have H : Hid (∀ k, DoAt (w.drewN k) bd bc op a b i c s) := fun k => h.keep ((But.refl [] w).drewN k) (by simp)
  obtain ⟨x, hx⟩ : ∃ x, x = c.getD b 0 := ⟨_, rfl⟩
  rw [← hx] at hr
  have HX : Hid (x = c.getD b 0) := hx
  clear h hx
  go_enter Try.func60, Try.ntmps60
  go_wp2
  go_quiet (first | (go_at_call 48; refine quiet_same (number_c bd bc op a b i c s _ (H.out _))))
  go_wp2
  go_ret
  exact ⟨by rw [show adr c b i = (x + i % 4294967296) % 4294967296 by rw [HX.out]; rfl]; rfl, _, rfl⟩
theorem inWord_c (bd bc : Nat) (op : Int) (a b : Nat) (i : Int) (c : List Int) (s : Int) (w : World) (h : DoAt w bd bc op a b i c s) :
    Calls Try.prog 63 #[.pointer (some ⟨bd, 0, none⟩)] w fun e w' => e = .returned (.int .i64 (adr c b i % 4)) ∧ ∃ k, w' = w.drewN k := by
  have H : Hid (DoAt w bd bc op a b i c s) := h
  obtain ⟨h0, h1⟩ := adr_bd c b i
  clear h
  go_enter Try.func63, Try.ntmps63
  go_wp2_with fail
  refine (address_c bd bc op a b i c s _ H.out).mono ?_
  rintro e w1 ⟨rfl, k, rfl⟩
  go_wp2
  go_ret
  exact ⟨rfl, k, rfl⟩

/-- Where a jump goes on. -/
def jmpP (c : List Int) (i : Int) (goes : Bool) : Int := if goes then (c.getD 16 0 + 4 * ((i % 4294967296 - 1) % 4294967296) % 4294967296) % 4294967296 else c.getD 16 0
theorem set_self (c : List Int) (k : Nat) (hk : k < c.length) : c.set k (c.getD k 0) = c := by
  apply List.ext_getElem (by simp)
  intro j h1 h2
  by_cases e : k = j
  · subst e; simp [List.getD, hk]
  · rw [List.getElem_set_ne e]
set_option maxHeartbeats 1000000 in
theorem skip_c (bd bc : Nat) (op : Int) (a b : Nat) (i : Int) (c : List Int) (s : Int) (goes : Bool) (w : World) (h : DoAt w bd bc op a b i c s) :
    Calls Try.prog 65 #[.pointer (some ⟨bd, 0, none⟩), .bool goes] w fun e w' => e = .returned (.tuple #[]) ∧ DoAt w' bd bc op a b i (c.set 16 (jmpP c i goes)) s ∧ But [bd] w w' := by
  cases goes with
  | false =>
    have H : Hid (DoAt w bd bc op a b i (c.set 16 (jmpP c i false)) s) := by
      show DoAt _ _ _ _ _ _ _ _ _
      rw [show jmpP c i false = c.getD 16 0 from rfl, set_self c 16 (by rw [h.len]; omega)]
      exact h
    clear h
    go_enter Try.func65, Try.ntmps65
    go_wp2
    go_end0
    exact ⟨rfl, H.out, But.refl _ _⟩
  | true =>
    obtain ⟨hc, hz⟩ := (h.keep (But.refl [] w).drew (by simp)).reg 16 (by omega)
    have hu := h.u 16
    have H : Hid (DoAt w bd bc op a b i c s) := h
    obtain ⟨x, hx⟩ : ∃ x, x = c.getD 16 0 := ⟨_, rfl⟩
    rw [← hx] at hc hu
    have HX : Hid (jmpP c i true = (x + 4 * ((i % 4294967296 - 1) % 4294967296) % 4294967296) % 4294967296) := by show _ = _; rw [hx]; rfl
    clear h hx
    have H1 : Hid (DoAt w.drew bd bc op a b i c s) := H.out.keep (But.refl [] w).drew (by simp)
    have hnum : Hid (Calls Try.prog 48 #[.pointer (some ⟨bd, 0, none⟩)] w.drew fun e w' => e = .returned (.int .u32 (i % 4294967296)) ∧ w' = w.drew) := (number_c bd bc op a b i c s _ H1.out).mono fun _ _ h => ⟨h.1, h.2.symm⟩
    go_enter Try.func65, Try.ntmps65
    go_wp2
    refine wp_region_still_tail 13 (by kernel_rfl) (by kernel_rfl) ?_
    simp only [List.take_succ_cons, List.take_zero, List.drop_succ_cons, List.drop_zero]
    change wpStill _ _ w.drew _ _ _
    repeat (first | still_step | still_call hnum.out)
    refine wpStill_nil ?_
    change wpList _ _ _ _ _ w.drew
    go_wp2
    go_end0
    exact ⟨rfl, by rw [HX.out]; exact H1.out.set 16 (by omega) _ (by omega) (by omega), ((But.refl [bd] w).drew).setCell (by simp) _⟩

theorem and31 (x : Int) (h0 : 0 ≤ x) (h1 : x ≤ 4294967295) : bits .and .u32 x 31 = x % 32 := by
  obtain ⟨n, rfl⟩ := Int.eq_ofNat_of_zero_le h0
  have h3 : (BitVec.ofInt 32 31).toNat = 2 ^ 5 - 1 := by decide
  have key : (BitVec.ofInt 32 (n : Int) &&& BitVec.ofInt 32 31).toNat = ((n : Int) % ((2 ^ 32 : Nat) : Int)).toNat % 2 ^ 5 := by
    rw [BitVec.toNat_and, BitVec.toNat_ofInt, h3, Nat.and_two_pow_sub_one_eq_mod]
  show IntKind.u32.wrap ((BitVec.ofInt 32 (n : Int) &&& BitVec.ofInt 32 31).toNat : Nat) = (n : Int) % 32
  rw [key, IntKind.wrap_u32]
  omega
/-- What A is behind an instruction that does nothing else. -/
def rkP (op a b num : Int) : Int :=
  if op = 1 then num else if op = 2 then bits .or .u32 (num * 65536 % 4294967296) (bits .and .u32 a 65535) else if op = 3 then b else if op = 4 then (a + b) % 4294967296 else if op = 5 then (a - b) % 4294967296
  else if op = 6 then a * b % 4294967296 else if op = 8 then bits .and .u32 a b else if op = 9 then bits .or .u32 a b else if op = 10 then bits .xor .u32 a b
  else if op = 11 then a * 2 ^ (b % 32).toNat % 4294967296 else if op = 12 then a / 2 ^ (b % 32).toNat else if op = 13 then (a + num) % 4294967296 else a
set_option maxHeartbeats 4000000 in
theorem reckoned_c (op a b num : Int) (w : World) (h1 : 1 ≤ op ∧ op ≤ 13) (h7 : op ≠ 7) (ha : 0 ≤ a ∧ a ≤ 4294967295) (hb : 0 ≤ b ∧ b ≤ 4294967295) (hn : 0 ≤ num ∧ num ≤ 4294967295) :
    Calls Try.prog 47 #[.int .i64 op, .int .u32 a, .int .u32 b, .int .u32 num] w fun e w' => e = .returned (.int .u32 (rkP op a b num)) ∧ w = w' := by
  obtain ⟨ha0, ha1⟩ := ha
  obtain ⟨hb0, hb1⟩ := hb
  obtain ⟨hn0, hn1⟩ := hn
  have hop : op = 1 ∨ op = 2 ∨ op = 3 ∨ op = 4 ∨ op = 5 ∨ op = 6 ∨ op = 8 ∨ op = 9 ∨ op = 10 ∨ op = 11 ∨ op = 12 ∨ op = 13 := by omega
  clear h1 h7
  have hl : ∀ w, (Op.shift .shl .u32 a .u32 (bits .and .u32 b 31)).run Try.prog w = .ok (.int .u32 (a * 2 ^ (b % 32).toNat % 4294967296)) w := fun w => by
    rw [and31 b hb0 hb1, shift_shl .u32 .u32 a (b % 32) (by omega) (by show b % 32 ≤ (32 : Int); omega), IntKind.wrap_u32]
    rfl
  have hr : ∀ w, (Op.shift .shr .u32 a .u32 (bits .and .u32 b 31)).run Try.prog w = .ok (.int .u32 (a / 2 ^ (b % 32).toNat)) w := fun w => by
    rw [and31 b hb0 hb1, shift_shr .u32 .u32 a (b % 32) (by omega) (by show b % 32 ≤ (32 : Int); omega)]
    rfl
  obtain ⟨pl, hpl⟩ : ∃ pl, pl = a * 2 ^ (b % 32).toNat % 4294967296 := ⟨_, rfl⟩
  obtain ⟨pr, hpr⟩ : ∃ pr, pr = a / 2 ^ (b % 32).toNat := ⟨_, rfl⟩
  rw [← hpl] at hl
  rw [← hpr] at hr
  have HL : Hid (rkP 11 a b num = pl) := by show _ = _; rw [hpl]; rfl
  have HR : Hid (rkP 12 a b num = pr) := by show _ = _; rw [hpr]; rfl
  clear hpl hpr
  rcases hop with rfl | rfl | rfl | rfl | rfl | rfl | rfl | rfl | rfl | rfl | rfl | rfl
  all_goals
    go_enter Try.func47, Try.ntmps47
    go_wp2
    go_ret
    exact ⟨by first | rfl | (rw [HL.out]; rfl) | (rw [HR.out]; rfl), rfl⟩
theorem bits_bd (o : BinOp) (x y : Int) (h : o = .and ∨ o = .or ∨ o = .xor) : 0 ≤ bits o .u32 x y ∧ bits o .u32 x y ≤ 4294967295 := by
  rcases h with rfl | rfl | rfl
  · show 0 ≤ IntKind.u32.wrap _ ∧ IntKind.u32.wrap _ ≤ 4294967295
    rw [IntKind.wrap_u32]; omega
  · show 0 ≤ IntKind.u32.wrap _ ∧ IntKind.u32.wrap _ ≤ 4294967295
    rw [IntKind.wrap_u32]; omega
  · show 0 ≤ IntKind.u32.wrap _ ∧ IntKind.u32.wrap _ ≤ 4294967295
    rw [IntKind.wrap_u32]; omega
theorem rkP_bd (op a b num : Int) (ha : 0 ≤ a ∧ a ≤ 4294967295) (hb : 0 ≤ b ∧ b ≤ 4294967295) (hn : 0 ≤ num ∧ num ≤ 4294967295) : 0 ≤ rkP op a b num ∧ rkP op a b num ≤ 4294967295 := by
  unfold rkP
  by_cases h1 : op = 1
  · rw [if_pos h1]; exact hn
  rw [if_neg h1]
  by_cases h2 : op = 2
  · rw [if_pos h2]; exact bits_bd _ _ _ (by simp)
  rw [if_neg h2]
  by_cases h3 : op = 3
  · rw [if_pos h3]; exact hb
  rw [if_neg h3]
  by_cases h4 : op = 4
  · rw [if_pos h4]; omega
  rw [if_neg h4]
  by_cases h5 : op = 5
  · rw [if_pos h5]; omega
  rw [if_neg h5]
  by_cases h6 : op = 6
  · rw [if_pos h6]; generalize a * b = q; omega
  rw [if_neg h6]
  by_cases h8 : op = 8
  · rw [if_pos h8]; exact bits_bd _ _ _ (by simp)
  rw [if_neg h8]
  by_cases h9 : op = 9
  · rw [if_pos h9]; exact bits_bd _ _ _ (by simp)
  rw [if_neg h9]
  by_cases h10 : op = 10
  · rw [if_pos h10]; exact bits_bd _ _ _ (by simp)
  rw [if_neg h10]
  by_cases h11 : op = 11
  · rw [if_pos h11]; generalize a * 2 ^ (b % 32).toNat = q; omega
  rw [if_neg h11]
  by_cases h12 : op = 12
  · rw [if_pos h12]
    refine ⟨Int.ediv_nonneg ha.1 (Int.pow_nonneg (by omega)), Int.le_trans (Int.ediv_le_self _ ha.1) ha.2⟩
  rw [if_neg h12]
  by_cases h13 : op = 13
  · rw [if_pos h13]; omega
  rw [if_neg h13]
  exact ha
end Go.Proofs.Ytjlcncdhlcpklaa.Cp
