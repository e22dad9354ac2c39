/-
  Layer 6 (cpu): words for CpuSteps: how many steps there are; a step keeps what is a number of 32 bits.
-/
import Derived.Test.YtjlcncdhlcpklaaCpRefT
import Derived.Test.YtjlcncdhlcpklaaCpBoth2
import Derived.Test.YtjlcncdhlcpklaaCpStores
import Derived.Test.YtjlcncdhlcpklaaCpGd
namespace Go.Proofs.Ytjlcncdhlcpklaa.Cp
open Go.RowKit
open Fr (MemAt Blk hasW hasF) 
open Tl (En TlbAt Ens getE misE ansE en0)
set_option linter.unusedVariables false
theorem and31_i64 (x : Int) : ∃ N : Nat, bits .and .i64 x 31 = (N : Int) ∧ N < 32 := by
  have h3 : (BitVec.ofInt 64 31).toNat = 2 ^ 5 - 1 := by decide
  have key : (BitVec.ofInt 64 x &&& BitVec.ofInt 64 31).toNat = (x % ((2 ^ 64 : Nat) : Int)).toNat % 2 ^ 5 := by
    rw [BitVec.toNat_and, BitVec.toNat_ofInt, h3, Nat.and_two_pow_sub_one_eq_mod]
  refine ⟨(x % ((2 ^ 64 : Nat) : Int)).toNat % 2 ^ 5, ?_, by omega⟩
  show IntKind.i64.wrap ((BitVec.ofInt 64 x &&& BitVec.ofInt 64 31).toNat : Nat) = _
  rw [key, IntKind.wrap_i64]
  omega
theorem end_u {c : List Int} {D : Dn} (h : U32s c) (hd : U32s D.c) : U32s (endD c D).c := by
  unfold endD
  split
  · exact h
  · exact hd
theorem end_x {c : List Int} {D : Dn} : (endD c D).xs = D.xs := by unfold endD; split <;> rfl
theorem sel_u {t : Int} {x y : List Int} (hx : U32s x) (hy : U32s y) : U32s (selC t x y) := by
  unfold selC
  split
  · exact hx
  · exact hy
theorem jmp_bd (c : List Int) (i : Int) (g : Bool) (h : U32s c) : 0 ≤ jmpP c i g ∧ jmpP c i g ≤ 4294967295 := by
  unfold jmpP
  split
  · omega
  · exact h 16
theorem jmp_u (op : Int) (a b : Nat) (i : Int) (c : List Int) (h : U32s c) : U32s (jmpC op a b i c) := by
  unfold jmpC
  have k15 : U32s (c.set 15 (c.getD 16 0)) := h.set (h 16).1 (h 16).2 _
  repeat' split
  · exact h.set (jmp_bd _ _ _ h).1 (jmp_bd _ _ _ h).2 _
  · exact h.set (jmp_bd _ _ _ h).1 (jmp_bd _ _ _ h).2 _
  · exact h.set (jmp_bd _ _ _ h).1 (jmp_bd _ _ _ h).2 _
  · exact h.set (jmp_bd _ _ _ h).1 (jmp_bd _ _ _ h).2 _
  · exact k15.set (jmp_bd _ _ _ k15).1 (jmp_bd _ _ _ k15).2 _
  · exact h.set (h a).1 (h a).2 _
theorem do_u (n : Nat) (xs : List Int) (l : List En) (s op : Int) (a b : Nat) (i : Int) (c : List Int) (h : U32s c) (hx : U32s xs) : U32s (doP n xs l s op a b i c).c := by
  unfold doP
  by_cases h14 : op = 14
  · rw [if_pos h14]; exact sel_u (h.set (getW_bd hx _ _).1 (getW_bd hx _ _).2 _) h
  rw [if_neg h14]
  by_cases h15 : op = 15
  · rw [if_pos h15]; exact h
  rw [if_neg h15]
  by_cases h16 : op = 16
  · rw [if_pos h16]; exact sel_u (h.set (byt_bd _ _).1 (Int.le_trans (byt_bd _ _).2 (by omega)) _) h
  rw [if_neg h16]
  by_cases h17 : op = 17
  · rw [if_pos h17]; exact h
  rw [if_neg h17]
  by_cases h7 : op = 7
  · rw [if_pos h7]
    split
    · exact h
    · exact h.set (Int.ediv_nonneg (h a).1 (h b).1) (Int.le_trans (Int.ediv_le_self _ (h a).1) (h a).2) _
  rw [if_neg h7]
  by_cases h24 : op = 24
  · rw [if_pos h24]; exact h
  rw [if_neg h24]
  split
  · exact jmp_u _ _ _ _ _ h
  · have := rkP_bd op (c.getD a 0) (c.getD b 0) (i % 4294967296) (h a) (h b) (by omega)
    exact h.set this.1 this.2 _
theorem step_u {n : Nat} {xs : List Int} {l : List En} {s : Int} {c : List Int} (h : U32s c) (hx : U32s xs) : U32s (stepP n xs l s c).c := by
  unfold stepP
  split
  · exact h
  · refine end_u h ?_
    unfold stepD
    exact do_u _ _ _ _ _ _ _ _ _ (h.set (by omega) (by omega) _) hx
theorem jmp_len2 (op : Int) (a b : Nat) (i : Int) (c : List Int) : (jmpC op a b i c).length = c.length := by
  unfold jmpC
  repeat' split
  all_goals simp
theorem step_len2 (n : Nat) (xs : List Int) (l : List En) (s : Int) (c : List Int) : (stepP n xs l s c).c.length = c.length := by
  have e : ∀ (op : Int) (a b : Nat) (i : Int) (c : List Int), (doP n xs l s op a b i c).c.length = c.length := fun op a b i c => by
    unfold doP selC
    repeat' split
    all_goals simp [jmp_len2]
  unfold stepP endD stepD
  repeat' split
  all_goals simp [e, pc4]
/-- The document's machine stays as it is where none of its blocks is laid anew. -/
theorem RefAt.keepN {k : List Nat} {w w' : World} {bM bx cx n : Nat} {xs : List Int} {A : Option Addr} {cA lo : Nat} {l : List En} (h : RefAt w bM bx cx n xs A cA lo l) (hk : But k w w') (h1 : bM ∉ k) (h2 : bx ∉ k) (h3 : ∀ x ∈ k, x < lo ∨ EnsNe A l x) : RefAt w' bM bx cx n xs A cA lo l := by
  refine ⟨cell_keep h.mem hk h1, cell_keep h.tlb hk h1, (hk.frozen (p := ⟨bM, 1, none⟩) (lt_of_cell h.tlb) h1).trans h.fz, h.blk.keep hk h2, h.len, ?_, h.lM, h.lx, h.ne⟩
  rcases h.ens with e | ⟨b, off, e, e1, e2, hc⟩
  · exact .inl e
  · refine .inr ⟨b, off, e, e1, Nat.lt_of_lt_of_le e2 hk.size, fun i hi => range_keep (hc i hi) hk (fun hm => ?_)⟩
    rcases h3 b hm with h4 | h4
    · omega
    · rcases h4 with hn | ⟨b', off', e', hne⟩
      · rw [hn] at hi; exact absurd hi (by simp)
      · rw [e] at e'
        injection e' with e'
        injection e' with e1' e2'
        omega
theorem two_ctx (w : World) (c : List Int) (hl : c.length = 17) (t : TypeId) (p q : Nat) (h : (p = w.heap.size ∧ q = w.heap.size + 1) ∨ (p = w.heap.size + 1 ∧ q = w.heap.size)) :
    CtxAt ((((w.drew.alloc (.cells #[.int .u32 0, .int .u32 0, .int .u32 0, .int .u32 0, .int .u32 0, .int .u32 0, .int .u32 0, .int .u32 0, .int .u32 0, .int .u32 0, .int .u32 0, .int .u32 0, .int .u32 0, .int .u32 0, .int .u32 0, .int .u32 0, .int .u32 0] t)).alloc (.cells #[.int .u32 0, .int .u32 0, .int .u32 0, .int .u32 0, .int .u32 0, .int .u32 0, .int .u32 0, .int .u32 0, .int .u32 0, .int .u32 0, .int .u32 0, .int .u32 0, .int .u32 0, .int .u32 0, .int .u32 0, .int .u32 0, .int .u32 0] t)).setCells p 0 (cvl c)).setCells q 0 (cvl c)) p c ∧ CtxAt ((((w.drew.alloc (.cells #[.int .u32 0, .int .u32 0, .int .u32 0, .int .u32 0, .int .u32 0, .int .u32 0, .int .u32 0, .int .u32 0, .int .u32 0, .int .u32 0, .int .u32 0, .int .u32 0, .int .u32 0, .int .u32 0, .int .u32 0, .int .u32 0, .int .u32 0] t)).alloc (.cells #[.int .u32 0, .int .u32 0, .int .u32 0, .int .u32 0, .int .u32 0, .int .u32 0, .int .u32 0, .int .u32 0, .int .u32 0, .int .u32 0, .int .u32 0, .int .u32 0, .int .u32 0, .int .u32 0, .int .u32 0, .int .u32 0, .int .u32 0] t)).setCells p 0 (cvl c)).setCells q 0 (cvl c)) q c ∧ But [] w ((((w.drew.alloc (.cells #[.int .u32 0, .int .u32 0, .int .u32 0, .int .u32 0, .int .u32 0, .int .u32 0, .int .u32 0, .int .u32 0, .int .u32 0, .int .u32 0, .int .u32 0, .int .u32 0, .int .u32 0, .int .u32 0, .int .u32 0, .int .u32 0, .int .u32 0] t)).alloc (.cells #[.int .u32 0, .int .u32 0, .int .u32 0, .int .u32 0, .int .u32 0, .int .u32 0, .int .u32 0, .int .u32 0, .int .u32 0, .int .u32 0, .int .u32 0, .int .u32 0, .int .u32 0, .int .u32 0, .int .u32 0, .int .u32 0, .int .u32 0] t)).setCells p 0 (cvl c)).setCells q 0 (cvl c)) := by
  obtain ⟨h1, h2⟩ := two_new w.drew #[.int .u32 0, .int .u32 0, .int .u32 0, .int .u32 0, .int .u32 0, .int .u32 0, .int .u32 0, .int .u32 0, .int .u32 0, .int .u32 0, .int .u32 0, .int .u32 0, .int .u32 0, .int .u32 0, .int .u32 0, .int .u32 0, .int .u32 0] #[.int .u32 0, .int .u32 0, .int .u32 0, .int .u32 0, .int .u32 0, .int .u32 0, .int .u32 0, .int .u32 0, .int .u32 0, .int .u32 0, .int .u32 0, .int .u32 0, .int .u32 0, .int .u32 0, .int .u32 0, .int .u32 0, .int .u32 0] t t 17 17 rfl rfl
  have hp : ((w.drew.alloc (.cells #[.int .u32 0, .int .u32 0, .int .u32 0, .int .u32 0, .int .u32 0, .int .u32 0, .int .u32 0, .int .u32 0, .int .u32 0, .int .u32 0, .int .u32 0, .int .u32 0, .int .u32 0, .int .u32 0, .int .u32 0, .int .u32 0, .int .u32 0] t)).alloc (.cells #[.int .u32 0, .int .u32 0, .int .u32 0, .int .u32 0, .int .u32 0, .int .u32 0, .int .u32 0, .int .u32 0, .int .u32 0, .int .u32 0, .int .u32 0, .int .u32 0, .int .u32 0, .int .u32 0, .int .u32 0, .int .u32 0, .int .u32 0] t)).there p 0 17 := by rcases h with ⟨rfl, rfl⟩ | ⟨rfl, rfl⟩; exact h1; exact h2
  have hq : ((w.drew.alloc (.cells #[.int .u32 0, .int .u32 0, .int .u32 0, .int .u32 0, .int .u32 0, .int .u32 0, .int .u32 0, .int .u32 0, .int .u32 0, .int .u32 0, .int .u32 0, .int .u32 0, .int .u32 0, .int .u32 0, .int .u32 0, .int .u32 0, .int .u32 0] t)).alloc (.cells #[.int .u32 0, .int .u32 0, .int .u32 0, .int .u32 0, .int .u32 0, .int .u32 0, .int .u32 0, .int .u32 0, .int .u32 0, .int .u32 0, .int .u32 0, .int .u32 0, .int .u32 0, .int .u32 0, .int .u32 0, .int .u32 0, .int .u32 0] t)).there q 0 17 := by rcases h with ⟨rfl, rfl⟩ | ⟨rfl, rfl⟩; exact h2; exact h1
  refine ⟨(CtxAt.sets c hp hl).keep ((But.refl [q] _).setCells (by simp) _ _) (by simp; omega), CtxAt.sets c (World.there_setCells hq _ _ _) hl, ?_⟩
  exact (((((But.refl [] w).drew).alloc _).alloc _).setCells (.inr (by omega)) _ _).setCells (.inr (by omega)) _ _
end Go.Proofs.Ytjlcncdhlcpklaa.Cp
