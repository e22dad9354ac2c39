/-
  Layer 12 (caps), plainly: the caps that have a number, counted; nobody has it behind Cut.
-/
import Derived.Test.YtlppfcoclpdanaaCsOv
namespace Go.Proofs.Ytlppfcoclpdanaa.Cs
open Sn
set_option linter.unusedVariables false

def ovP (T : Tr) (x : Int) (i : Nat) : Bool := decide (0 < (T i).gen) && hasB (T i).st x
theorem ov_count {T : Tr} {m : Nat} {x : Int} {L : List Nat} (h : Wf T m) (hv : Ov T x L) (hd : Dn T x L) : (nums (ovP T x) 64).length = L.length :=
  nodup_eq (nums_nodup _ _) hv.nodup (fun p => by
    rw [nums_mem]
    unfold ovP
    simp only [Bool.and_eq_true, decide_eq_true_eq]
    constructor
    · rintro ⟨_, h1, h2⟩
      exact hd p h1 h2
    · intro hp
      obtain ⟨j, hj, rfl⟩ := mem_getD hp
      obtain ⟨h1, h2⟩ := hv.mem j hj
      exact ⟨h.lt _ h1, h1, h2⟩)
theorem ov_none {T : Tr} {x : Int} (h : ∀ i, ovP T x i = false) : (nums (ovP T x) 64).length = 0 := by
  simp [nums, h]
theorem has_lo {f : Nat → Bool} {x : Int} (h : x < 0) : hasB f x = false := by unfold hasB; rw [decide_eq_false (by omega)]; rfl
theorem has_hi {f : Nat → Bool} {x : Int} (h : 1023 < x) : hasB f x = false := by unfold hasB; rw [decide_eq_false (show ¬ x < 1024 by omega), Bool.and_false]; rfl
theorem has_mid {f : Nat → Bool} {x : Nat} (h : x < 1024) : hasB f x = f x := by unfold hasB; rw [decide_eq_true (show (0 : Int) ≤ x by omega), decide_eq_true (show (x : Int) < 1024 by omega)]; rfl
theorem ov_far {T : Tr} {x : Int} (h : x < 0 ∨ 1023 < x) (i : Nat) : ovP T x i = false := by
  unfold ovP
  rcases h with h | h
  · rw [has_lo h, Bool.and_false]
  · rw [has_hi h, Bool.and_false]
/-- All are under the first one. -/
theorem und_all {T : Tr} {m : Nat} (h : Wf T m) : ∀ n i, (T i).gen ≤ n → 0 < (T i).gen → inB T 0 i = true := by
  intro n
  induction n with
  | zero => intro i hn hg; omega
  | succ n ih =>
    intro i hn hg
    by_cases e : i = 0
    · subst e; rfl
    · obtain ⟨q, hq, h1, h2, _⟩ := h.par i hg e
      have := ih q (by omega) h1
      unfold inB at this ⊢
      rw [und_step h 0 hg hq]
      simp at this ⊢
      rcases this with h3 | h3
      · exact .inr (.inl h3)
      · exact .inr (.inr h3)
theorem one_iff {M x : Nat} : one (M : Int) ((M : Int) + 1) x = true ↔ x < 1024 ∧ x = M := by
  simp only [one, Bool.and_eq_true, decide_eq_true_eq]
  omega
theorem ov_cut {T : Tr} {m M : Nat} (h : Wf T m) (hM : M < 1024) : ctC T 0 (one (M : Int) ((M : Int) + 1)) = (nums (ovP T M) 64).length := by
  have e : (fun i => inB T 0 i && meets (T i).st (one (M : Int) ((M : Int) + 1))) = ovP T M := by
    funext i
    unfold ovP
    rw [has_mid hM]
    by_cases hg : 0 < (T i).gen
    · rw [und_all h _ i (Nat.le_refl _) hg, decide_eq_true hg, Bool.true_and, Bool.true_and]
      cases hx : (T i).st M with
      | true => exact (nz_iff (bo_lim (h.lim i))).2 ⟨M, bo_true.2 ⟨hx, one_iff.2 ⟨hM, rfl⟩⟩⟩
      | false =>
        cases hz : meets (T i).st (one (M : Int) ((M : Int) + 1)) with
        | false => rfl
        | true =>
          obtain ⟨x, hx2⟩ := (nz_iff (bo_lim (h.lim i))).1 hz
          rw [bo_true] at hx2
          obtain ⟨_, rfl⟩ := one_iff.1 hx2.2
          rw [hx2.1] at hx
          cases hx
    · have hi : inB T 0 i = false := by
        unfold inB
        rw [und_none (by omega)]
        have := h.root
        simp
        intro e
        subst e
        omega
      rw [hi, decide_eq_false hg, Bool.false_and, Bool.false_and]
  unfold ctC
  rw [e]
theorem ov_gone {T : Tr} {m M : Nat} (h : Wf T m) (hM : M < 1024) (i : Nat) : ovP (ctT T 0 (one (M : Int) ((M : Int) + 1))) M i = false := by
  unfold ovP
  rw [has_mid hM]
  by_cases hg : 0 < (ctT T 0 (one (M : Int) ((M : Int) + 1)) i).gen
  · obtain ⟨h1, _, _, h2⟩ := ct_pos h hg
    rw [h2, und_all h _ i (Nat.le_refl _) h1, one_iff.2 ⟨hM, rfl⟩]
    simp
  · rw [decide_eq_false hg, Bool.false_and]
/-- The cap in a row of those that have a number, and the one ahead of it. -/
theorem ov_at {T : Tr} {m : Nat} {x : Int} {L : List Nat} {j : Nat} (h : Wf T m) (hv : Ov T x L) (hj : j < L.length) :
    isB T (L.getD j 0 : Nat) (T (L.getD j 0)).gen = true ∧ hasB (T (L.getD j 0)).st x = true ∧
    ((j = 0 ∧ ParV T (L.getD j 0 : Nat) (T (L.getD j 0)).gen = .tuple #[.agg #[.int .i64 0, .int .u64 0], .bool false]) ∨
     ∃ i, j = i + 1 ∧ ParV T (L.getD j 0 : Nat) (T (L.getD j 0)).gen = .tuple #[.agg #[.int .i64 (L.getD i 0 : Nat), .int .u64 (T (L.getD i 0)).gen], .bool true]) := by
  obtain ⟨h1, h2⟩ := hv.mem j hj
  have hb := isB_nat (h.lt _ h1) h1 rfl
  refine ⟨hb, h2, ?_⟩
  cases j with
  | zero =>
    left
    refine ⟨rfl, ParV_no ?_⟩
    rw [hv.head]
    simp
  | succ i =>
    right
    have hc := hv.chain i hj
    refine ⟨i, rfl, ParV_yes hb (fun e => ?_) hc⟩
    rw [e, h.rpar] at hc
    omega
end Go.Proofs.Ytlppfcoclpdanaa.Cs
