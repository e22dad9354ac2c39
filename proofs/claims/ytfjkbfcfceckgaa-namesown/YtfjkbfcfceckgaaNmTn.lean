/-
  Layer 11 (names): tables of so many names, plainly: what Add, Drop, Through and Own make of them.
-/
import Derived.Test.YtfjkbfcfceckgaaNmRef
import Derived.Test.YtfjkbfcfceckgaaNmMeant
import Derived.Test.YtfjkbfcfceckgaaSnHas
namespace Go.Proofs.Ytfjkbfcfceckgaa.Nm
open Go.RowKit
open Wh Sn
set_option linter.unusedVariables false

/-- A table of so many names: none beyond means anything, no two mean one number. -/
structure Tn (T : Tf) (n : Nat) : Prop where
  ok : Ok T
  le : n ≤ 512
  past : ∀ j, n ≤ j → T j = -1
  inj : ∀ i j, 0 ≤ T i → T i = T j → i = j
theorem tn0 : Tn t0 0 := ⟨ok0, by omega, fun _ _ => rfl, fun i j h => by unfold t0 at h; omega⟩
variable {T U : Tf} {n m : Nat}
theorem Tn.lst_num (h : Tn T n) {v : Int} (hv : 0 ≤ v) : lst T v 512 = if lst T v n < n then lst T v n else 512 := by
  have h1 := lst_le T v n
  have h2 := h.le
  split
  · rename_i hlt
    exact lst_eq (by omega) (lst_not T v n) (fun _ => lst_hit T v n hlt)
  · rename_i hlt
    have h3 : lst T v n = n := by omega
    refine lst_eq (Nat.le_refl _) (fun q hq => ?_) (fun h => absurd h (Nat.lt_irrefl _))
    rcases Nat.lt_or_ge q n with h4 | h4
    · exact lst_not T v n q (by omega)
    · rw [h.past q h4]; omega
theorem Tn.lst_free (h : Tn T n) : lst T (-1) 512 = lst T (-1) n := by
  have h1 := lst_le T (-1) n
  have h2 := h.le
  refine lst_eq (by omega) (lst_not T (-1) n) (fun h3 => ?_)
  rcases Nat.lt_or_ge (lst T (-1) n) n with h4 | h4
  · exact lst_hit T (-1) n h4
  · exact h.past _ h4
/-- The document finds the same. -/
theorem Tn.rf_eq (h : Tn T n) (v : Int) : rf T n v = fnT T v := by
  unfold rf fnT ix
  by_cases hv : 0 ≤ v
  · rw [h.lst_num hv]
    by_cases h1 : lst T v n < n
    · have h2 := lst_hit T v n h1
      have h3 := h.ok.le (lst T v n)
      have h4 := h.le
      rw [if_pos h1, if_pos ⟨hv, h1⟩, if_pos ⟨hv, by omega⟩, if_pos (by omega)]
    · rw [if_neg h1, if_neg (fun h => h1 h.2), if_neg (Nat.lt_irrefl 512)]
      split <;> rfl
  · rw [if_neg (fun h => hv h.1), if_neg (fun h => hv h.1)]
theorem Tn.rg_eq (h : Tn T n) (v : Int) : rg T n v = getT T v := by
  unfold rg getT
  have := h.le
  by_cases h1 : 0 ≤ v ∧ v < n
  · rw [if_pos h1, if_pos ⟨h1.1, by omega⟩]
  · rw [if_neg h1]
    split
    · exact (h.past _ (by omega)).symm
    · rfl
theorem Tn.fn_none (h : Tn T n) {v : Int} (h0 : 0 ≤ v) (h5 : v ≤ 1023) (hf : fnT T v < 0) (j : Nat) : T j ≠ v := by
  have h9 : fnT T v = ix T v := by unfold fnT; rw [if_pos ⟨h0, h5⟩]
  rw [h9] at hf
  unfold ix at hf
  split at hf
  · omega
  · rename_i h1
    have h2 := lst_le T v 512
    rcases Nat.lt_or_ge j 512 with h4 | h4
    · exact lst_not T v 512 j (by omega)
    · rw [h.past j (by have := h.le; omega)]; omega
/-- How many names a list has behind Add. -/
def adn (T : Tf) (n : Nat) (v : Int) : Nat := if adk T v < n then n else n + 1
/-- The name that Add gives: the least one of none, and what is told. -/
theorem Tn.adk_yes (h : Tn T n) {v : Int} (h0 : 0 ≤ v) (h5 : v ≤ 1023) (hf : fnT T v < 0) : adk T v = if lst T (-1) n < 512 then (lst T (-1) n : Int) else -1 := by
  unfold adk
  rw [if_pos ⟨h0, h5, hf⟩]
  unfold ix
  rw [h.lst_free]
theorem adk_no {v : Int} (h : ¬ (0 ≤ v ∧ v ≤ 1023 ∧ fnT T v < 0)) : adk T v = -1 := by unfold adk; rw [if_neg h]
theorem adT_no {v : Int} (h : adk T v < 0) : adT T v = T := by unfold adT; rw [if_pos h]
theorem adT_yes {v : Int} {k : Nat} (h : adk T v = k) : adT T v = upd T k v := by unfold adT; rw [h, if_neg (by omega)]; rfl
theorem Tn.add (h : Tn T n) (v : Int) : Tn (adT T v) (adn T n v) := by
  by_cases hc : 0 ≤ v ∧ v ≤ 1023 ∧ fnT T v < 0
  · obtain ⟨h0, h5, hf⟩ := hc
    have e := h.adk_yes h0 h5 hf
    have h1 := lst_le T (-1) n
    have h2 := h.le
    by_cases hk : lst T (-1) n < 512
    · rw [if_pos hk] at e
      have ht := adT_yes e
      have hn : adn T n v = if lst T (-1) n < n then n else n + 1 := by
        unfold adn; rw [e]
        by_cases h6 : lst T (-1) n < n
        · rw [if_pos h6, if_pos (by omega)]
        · rw [if_neg h6, if_neg (by omega)]
      have hno := h.fn_none h0 h5 hf
      rw [ht, hn]
      generalize lst T (-1) n = k at *
      refine ⟨h.ok.upd k (by omega) h5, by split <;> omega, fun j hj => ?_, fun i j hi hij => ?_⟩
      · unfold upd
        have : j ≠ k := by split at hj <;> omega
        rw [if_neg this]
        exact h.past j (by split at hj <;> omega)
      · unfold upd at hi hij
        split at hij
        · split at hij
          · omega
          · exact absurd hij.symm (hno j)
        · split at hij
          · exact absurd hij (hno i)
          · rename_i h7 h8
            rw [if_neg h7] at hi
            exact h.inj i j hi hij
    · rw [if_neg hk] at e
      rw [adT_no (by omega)]
      unfold adn
      rw [if_pos (by omega)]
      exact h
  · have e := adk_no hc
    rw [adT_no (by omega)]
    unfold adn
    rw [if_pos (by omega)]
    exact h
theorem getT_some {v : Int} (h : 0 ≤ getT T v) : 0 ≤ v ∧ v < 512 := by
  by_cases hn : 0 ≤ v ∧ v < 512
  · exact hn
  · unfold getT at h; rw [if_neg hn] at h; omega
theorem Tn.drop (h : Tn T n) (v : Int) : Tn (drT T v) n := by
  unfold drT
  split
  · refine ⟨h.ok.upd _ (by omega) (by omega), h.le, fun j hj => ?_, fun i j hi hij => ?_⟩
    · unfold upd
      split
      · rfl
      · exact h.past j hj
    · unfold upd at hi hij
      split at hi
      · omega
      · rename_i h1
        rw [if_neg h1] at hij
        split at hij
        · omega
        · exact h.inj i j hi hij
  · exact h
theorem Tn.nums_eq (h : Tn T n) : nums (has T) 512 = nums (has T) n :=
  nums_none h.le (fun j hj _ => by unfold has; rw [h.past j hj]; rfl)
theorem Tn.thr (h : Tn T n) (h' : Tn U m) : Tn (thr T U) n := by
  refine ⟨thr_ok h'.ok, h.le, fun j hj => ?_, fun i j hi hij => ?_⟩
  · unfold Nm.thr
    rw [h.past j hj]; rfl
  · unfold Nm.thr at hi hij
    by_cases h1 : 0 ≤ T i ∧ T i < 512
    · rw [if_pos h1] at hi hij
      by_cases h2 : 0 ≤ T j ∧ T j < 512
      · rw [if_pos h2] at hij
        have := h'.inj _ _ hi hij
        exact h.inj i j h1.1 (by omega)
      · rw [if_neg h2] at hij; omega
    · rw [if_neg h1] at hi; omega
theorem Tn.thr_eq (h' : Tn U m) : (fun j => rg U m (T j)) = Nm.thr T U := by
  funext j
  rw [h'.rg_eq]
  unfold getT
  rfl
theorem thr_thr (T U V : Tf) : thr (thr T U) V = thr T (thr U V) := by
  funext j
  unfold thr
  by_cases h1 : 0 ≤ T j ∧ T j < 512
  · rw [if_pos h1, if_pos h1]
  · rw [if_neg h1, if_neg h1, if_neg (by omega)]
/-- What is meant. -/
theorem mn_iff (T : Tf) (v : Nat) : mn T v = true ↔ ∃ j, j < 512 ∧ T j = v := by
  unfold mn mnS
  rw [List.any_eq_true]
  constructor
  · rintro ⟨j, hj, he⟩
    refine ⟨j, List.mem_range.1 hj, ?_⟩
    rw [beq_iff_eq, Nat.zero_add] at he
    exact he
  · rintro ⟨j, hj, he⟩
    exact ⟨j, List.mem_range.2 hj, by rw [beq_iff_eq, Nat.zero_add]; exact he⟩
theorem mn_thr (T U : Tf) (v : Nat) (h : mn (thr T U) v = true) : mn U v = true := by
  obtain ⟨j, hj, he⟩ := (mn_iff _ _).1 h
  unfold thr at he
  split at he
  · rename_i h1
    exact (mn_iff _ _).2 ⟨(T j).toNat, by omega, he⟩
  · omega
theorem wo_none {f g : Nat → Bool} (h : ∀ v, f v = true → g v = true) : nums (wo f g) 1024 = [] :=
  nums_zero (fun v => by
    show (f v && !g v) = false
    cases hf : f v
    · rfl
    · rw [h v hf]; rfl) _
theorem own_len {a : Int} {kk : Nat} (h : ∀ j : Nat, (j : Int) < a ∧ j < 512 ↔ j < kk) (hk : kk ≤ 512) : (nums (has (ownT a)) 512).length = kk := by
  have e : ∀ j, has (ownT a) j = decide (j < kk) := fun j => by
    unfold has ownT
    by_cases hj : j < kk
    · rw [if_pos ((h j).2 hj), decide_eq_true (by omega), decide_eq_true hj]
    · rw [if_neg (fun h1 => hj ((h j).1 h1)), decide_eq_false (by omega), decide_eq_false hj]
  rw [nums_none hk (fun j hj _ => by rw [e, decide_eq_false (by omega)]), nums_full (Nat.zero_le kk) (fun j _ hj => by rw [e, decide_eq_true hj])]
  show (nums _ 0).length + (kk - 0) = kk
  have := nums_le (has (ownT a)) 0
  omega
theorem thr_own {a : Int} {kk : Nat} (hT : Tn T n) (hb : ∀ q, q < n → T q < kk) (h : ∀ j : Nat, (j : Int) < a ∧ j < 512 ↔ j < kk) : thr T (ownT a) = T := by
  funext j
  have h1 := hT.ok.ge j
  unfold thr ownT
  rcases Nat.lt_or_ge j n with hj | hj
  · have h2 := hb j hj
    by_cases h3 : 0 ≤ T j
    · have h4 := (h (T j).toNat).2 (by omega)
      rw [if_pos ⟨h3, by omega⟩, if_pos h4]
      omega
    · rw [if_neg (fun h => h3 h.1)]; omega
  · rw [hT.past j hj, if_neg (by omega)]
/-- All of the first i mean something below k. -/
def Bz (z : Bool) (T : Tf) (i k : Nat) : Prop := z = true ↔ ∀ q, q < i → T q < k
theorem Bz.nil (T : Tf) (k : Nat) : Bz true T 0 k := ⟨fun _ q hq => absurd hq (Nat.not_lt_zero _), fun _ => rfl⟩
theorem Bz.yes {i k : Nat} (h : Bz true T i k) (hx : T i < k) : Bz true T (i + 1) k := ⟨fun _ q hq => by
  rcases Nat.lt_or_ge q i with h1 | h1
  · exact Iff.mp h rfl q h1
  · obtain rfl : q = i := by omega
    exact hx, fun _ => rfl⟩
theorem Bz.no {i k : Nat} (hx : ¬ T i < k) : Bz false T (i + 1) k := ⟨(fun h => by cases h), fun h => absurd (h i (Nat.lt_succ_self i)) hx⟩
theorem Bz.still {i k : Nat} (h : Bz false T i k) : Bz false T (i + 1) k := ⟨(fun h => by cases h), fun h1 => Iff.mpr h (fun q hq => h1 q (by omega))⟩
theorem nums_plus {f g : Nat → Bool} {x : Nat} (hf : f x = false) (hg : ∀ v, g v = (f v || decide (v = x))) : ∀ p, (nums g p).length = (nums f p).length + if x < p then 1 else 0
  | 0 => rfl
  | p + 1 => by
    have ih := nums_plus hf hg p
    rw [nums_succ, nums_succ, List.length_append, List.length_append, ih]
    by_cases e : p = x
    · subst e
      rw [hg, hf, decide_eq_true rfl, if_neg (Nat.lt_irrefl _), if_pos (Nat.lt_succ_self _)]
      rfl
    · rw [hg, decide_eq_false e, Bool.or_false]
      have e2 : (x < p) ↔ (x < p + 1) := by omega
      by_cases h : x < p
      · rw [if_pos h, if_pos (e2.1 h)]; omega
      · rw [if_neg h, if_neg (fun h2 => h (e2.2 h2))]; omega
theorem meant_len (h : Tn T n) : ∀ k, (nums (mnS T 0 k) 1024).length = (nums (has T) k).length
  | 0 => by
    have e : ∀ p, nums (mnS T 0 0) p = [] := nums_zero (fun _ => rfl)
    exact congrArg List.length (e _)
  | k + 1 => by
    have ih := meant_len h k
    have hs : ∀ v, mnS T 0 (k + 1) v = (mnS T 0 k v || (T k == (v : Int))) := fun v => by
      have h1 : mnS T (0 + k) 1 v = (T k == (v : Int)) := by
        show (T (0 + k + 0) == (v : Int) || false) = _
        rw [Bool.or_false, Nat.zero_add, Nat.add_zero]
      rw [mnS_add T 0 k 1 v, h1]
    rw [nums_succ (has T) k, List.length_append]
    by_cases hx : 0 ≤ T k
    · obtain ⟨x, hxx⟩ : ∃ x : Nat, T k = x := ⟨(T k).toNat, by omega⟩
      have hle := h.ok.le k
      have hno : mnS T 0 k x = false := by
        cases hc : mnS T 0 k x
        · rfl
        · unfold mnS at hc
          obtain ⟨j, hj, he⟩ := List.any_eq_true.1 hc
          rw [beq_iff_eq, Nat.zero_add] at he
          have := h.inj j k (by omega) (by omega)
          have := List.mem_range.1 hj
          omega
      rw [nums_plus (f := mnS T 0 k) (x := x) hno (fun v => by
        have h2 : ((x : Int) == (v : Int)) = decide (v = x) := by
          by_cases e : v = x
          · rw [decide_eq_true e, beq_iff_eq.2 (by omega)]
          · rw [decide_eq_false e, beq_eq_false_iff_ne.2 (by omega)]
        rw [hs v, hxx, h2]), if_pos (by omega), ih, show has T k = true from decide_eq_true hx]
      rfl
    · have he : nums (mnS T 0 (k + 1)) 1024 = nums (mnS T 0 k) 1024 := by
        unfold nums
        refine List.filter_congr (fun v _ => ?_)
        rw [hs v, beq_eq_false_iff_ne.2 (by omega), Bool.or_false]
      rw [he, ih, show has T k = false from decide_eq_false hx]
      rfl
theorem Tn.mn_len (h : Tn T n) : (nums (mn T) 1024).length = (nums (has T) n).length := by
  unfold mn
  rw [meant_len h 512, h.nums_eq]
theorem mn_has {j : Nat} (h : Tn T n) (hj : j < n) (hx : 0 ≤ T j) : hasB (mn T) (T j) = true := by
  have h1 := h.ok.le j
  have h2 := h.le
  unfold hasB
  rw [decide_eq_true hx, decide_eq_true (by omega), (mn_iff T (T j).toNat).2 ⟨j, by omega, by omega⟩]
  rfl
/-- The first i mean the same. -/
def Ez (z : Bool) (T U : Tf) (i : Nat) : Prop := z = true ↔ ∀ q, q < i → T q = U q
theorem Ez.nil (T U : Tf) : Ez true T U 0 := ⟨fun _ q hq => absurd hq (Nat.not_lt_zero _), fun _ => rfl⟩
theorem Ez.yes {i : Nat} (h : Ez true T U i) (hx : T i = U i) : Ez true T U (i + 1) := ⟨fun _ q hq => by
  rcases Nat.lt_or_ge q i with h1 | h1
  · exact Iff.mp h rfl q h1
  · obtain rfl : q = i := by omega
    exact hx, fun _ => rfl⟩
theorem Ez.no {i : Nat} (hx : ¬ T i = U i) : Ez false T U (i + 1) := ⟨(fun h => by cases h), fun h => absurd (h i (Nat.lt_succ_self i)) hx⟩
theorem Ez.still {i : Nat} (h : Ez false T U i) : Ez false T U (i + 1) := ⟨(fun h => by cases h), fun h1 => Iff.mpr h (fun q hq => h1 q (by omega))⟩
theorem Tn.rg_at (h : Tn T n) (i : Nat) : rg T n (i : Int) = T i := by
  unfold rg
  by_cases hi : i < n
  · rw [if_pos (by omega)]; rfl
  · rw [if_neg (by omega), h.past i (by omega)]
attribute [irreducible] adn
end Go.Proofs.Ytfjkbfcfceckgaa.Nm
