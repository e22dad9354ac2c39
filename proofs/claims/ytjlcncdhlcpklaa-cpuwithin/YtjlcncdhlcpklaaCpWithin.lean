/-
  Layer 6 (cpu): plainly: an instruction changes no frame but one that a writable entry of its space names; with a trap but Sys nothing at all.
-/
import Derived.Test.YtjlcncdhlcpklaaCpStores
namespace Go.Proofs.Ytjlcncdhlcpklaa.Cp
open Go.RowKit
open Fr (MemAt Blk hasW hasF pgv sameP othM) 
open Tl (En TlbAt Ens getE misE ansE en0 putL isE)
set_option linter.unusedVariables false
set_option maxRecDepth 20000

/-- An entry of the space names the frame, and it may be written. -/
def isN (s f : Int) (e : En) : Bool := e.f == f && e.wr && e.s == s
def nmd (l : List En) (s f : Int) : Bool := l.any (isN s f)
def Wth (n : Nat) (xs : List Int) (l : List En) (s : Int) (ys : List Int) : Prop := ys = xs ∨ ∃ f a v, hasW n f a = true ∧ ys = xs.set (f.toNat * 16 + a.toNat) v ∧ nmd l s f = true
theorem fnd_named {l : List En} {s addr : Int} (h : (fnd l s addr true).t.cause = 0) : nmd l s (fnd l s addr true).f = true := by
  cases he : getE s (addr / 64) l with
  | none => simp [fnd, he] at h
  | some e =>
    have h1 := List.mem_of_find?_eq_some he
    have h2 := List.find?_some he
    simp only [isE, Bool.and_eq_true, beq_iff_eq] at h2
    cases hw : e.wr with
    | false => simp [fnd, he, hw] at h
    | true =>
      have hf : (fnd l s addr true).f = e.f := by simp [fnd, he, hw]
      rw [hf]
      exact List.any_eq_true.2 ⟨e, h1, by simp [isN, hw, h2.1]⟩
theorem fndW_named {l : List En} {s addr : Int} (h : (fndW l s addr true).t.cause = 0) : nmd l s (fndW l s addr true).f = true := by
  unfold fndW at h ⊢
  by_cases e : addr % 4 = 0
  · rw [if_pos e] at h ⊢; exact fnd_named h
  · rw [if_neg e] at h; simp at h
theorem put_within (n : Nat) (xs : List Int) {l : List En} {s f : Int} (a v : Int) (h : nmd l s f = true) : Wth n xs l s (putW n xs f a v) := by
  unfold putW
  by_cases e : hasW n f a = true
  · rw [if_pos e]; exact .inr ⟨f, a, v, e, rfl, h⟩
  · rw [if_neg e]; exact .inl rfl
theorem sel_within {n : Nat} {xs : List Int} {l : List En} {s t : Int} {ys : List Int} (h : t = 0 → Wth n xs l s ys) : Wth n xs l s (selC t ys xs) := by
  unfold selC
  by_cases e : t = 0
  · rw [if_pos e]; exact h e
  · rw [if_neg e]; exact .inl rfl
theorem do_within (n : Nat) (xs : List Int) (l : List En) (s op : Int) (a b : Nat) (i : Int) (c : List Int) : Wth n xs l s (doP n xs l s op a b i c).xs := by
  unfold doP
  by_cases h14 : op = 14
  · rw [if_pos h14]; exact .inl rfl
  rw [if_neg h14]
  by_cases h15 : op = 15
  · rw [if_pos h15]; exact sel_within fun e => put_within _ _ _ _ (fndW_named e)
  rw [if_neg h15]
  by_cases h16 : op = 16
  · rw [if_pos h16]; exact .inl rfl
  rw [if_neg h16]
  by_cases h17 : op = 17
  · rw [if_pos h17]; exact sel_within fun e => put_within _ _ _ _ (fnd_named e)
  rw [if_neg h17]
  split
  · split <;> exact .inl rfl
  · split
    · exact .inl rfl
    · split <;> exact .inl rfl
theorem do_trap (n : Nat) (xs : List Int) (l : List En) (s op : Int) (a b : Nat) (i : Int) (c : List Int) (h : (doP n xs l s op a b i c).t.cause ≠ 0) : (doP n xs l s op a b i c).xs = xs := by
  unfold doP at h ⊢
  by_cases h14 : op = 14
  · rw [if_pos h14]
  rw [if_neg h14] at h ⊢
  by_cases h15 : op = 15
  · rw [if_pos h15] at h ⊢; exact selC_neg h _ _
  rw [if_neg h15] at h ⊢
  by_cases h16 : op = 16
  · rw [if_pos h16]
  rw [if_neg h16] at h ⊢
  by_cases h17 : op = 17
  · rw [if_pos h17] at h ⊢; exact selC_neg h _ _
  rw [if_neg h17]
  split
  · split <;> rfl
  · split
    · rfl
    · split <;> rfl
theorem end_xs (c : List Int) (D : Dn) : (endD c D).xs = D.xs := by unfold endD; split <;> rfl
theorem end_t (c : List Int) (D : Dn) : (endD c D).t = D.t := by unfold endD; split <;> rfl
theorem step_within (n : Nat) (xs : List Int) (l : List En) (s : Int) (c : List Int) : Wth n xs l s (stepP n xs l s c).xs := by
  unfold stepP
  split
  · exact .inl rfl
  · rw [end_xs]; exact do_within _ _ _ _ _ _ _ _ _
theorem step_trap (n : Nat) (xs : List Int) (l : List En) (s : Int) (c : List Int) (h0 : (stepP n xs l s c).t.cause ≠ 0) (h6 : (stepP n xs l s c).t.cause ≠ 6) : (stepP n xs l s c).c = c ∧ (stepP n xs l s c).xs = xs := by
  unfold stepP at h0 h6 ⊢
  split at h0
  · next h => rw [if_pos h]; exact ⟨rfl, rfl⟩
  · next h =>
    rw [if_neg h] at h6 ⊢
    rw [end_t] at h0 h6
    refine ⟨?_, ?_⟩
    · unfold endD; rw [if_pos ⟨h0, h6⟩]
    · rw [end_xs]; exact do_trap _ _ _ _ _ _ _ _ _ h0
theorem within_page {n : Nat} {xs : List Int} {l : List En} {s : Int} {ys : List Int} (h : Wth n xs l s ys) (f : Nat) (hf : nmd l s f = false) : sameP ys xs (f * 16) = true := by
  unfold sameP
  rw [decide_eq_true_eq]
  intro i hi
  rw [List.mem_range] at hi
  rcases h with rfl | ⟨f', a, v, hw, rfl, hn⟩
  · rfl
  · simp only [hasW, decide_eq_true_eq] at hw
    have hne : f' ≠ (f : Int) := fun e => by rw [e, hf] at hn; cases hn
    by_cases hk : f'.toNat * 16 + a.toNat < xs.length
    · rw [Fr.set_get _ _ _ _ hk, if_neg (by omega)]
    · rw [List.set_eq_of_length_le (by omega)]
theorem same_refl (n : Nat) (xs : List Int) : othM n xs xs [] = true := by
  unfold othM
  rw [decide_eq_true_eq]
  intro f hf
  right
  unfold sameP
  rw [decide_eq_true_eq]
  intro i hi
  rfl
/-- The loop over the entries. -/
theorem nmd_succ (l : List En) (s f : Int) (k : Nat) (hk : k < l.length) : nmd (l.take (k + 1)) s f = (nmd (l.take k) s f || isN s f (l.getD k en0)) := by
  unfold nmd
  rw [List.take_add_one, List.any_append, List.getD_eq_getElem?_getD, List.getElem?_eq_getElem hk]
  simp
theorem jmp_len (op : Int) (a b : Nat) (i : Int) (c : List Int) : (jmpC op a b i c).length = c.length := by
  unfold jmpC
  repeat' split
  all_goals simp
theorem do_len (n : Nat) (xs : List Int) (l : List En) (s op : Int) (a b : Nat) (i : Int) (c : List Int) : (doP n xs l s op a b i c).c.length = c.length := by
  unfold doP selC
  repeat' split
  all_goals simp [jmp_len]
theorem step_len (n : Nat) (xs : List Int) (l : List En) (s : Int) (c : List Int) : (stepP n xs l s c).c.length = c.length := by
  unfold stepP endD stepD
  repeat' split
  all_goals simp [do_len, pc4]
end Go.Proofs.Ytjlcncdhlcpklaa.Cp
