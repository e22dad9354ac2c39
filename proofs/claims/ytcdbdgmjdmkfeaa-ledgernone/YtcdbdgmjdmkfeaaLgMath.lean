/-
  Layer 13 (ledger), plainly: quotas and uses by environment and kind; what Take, Free, Move, Close make of them; sums.
-/
import Derived.Test.YtcdbdgmjdmkfeaaBut
namespace Go.Proofs.Ytcdbdgmjdmkfeaa.Lg
set_option linter.unusedVariables false

/-- Quotas, or uses: by environment, and by kind. -/
abbrev Tb := Nat → Nat → Int
/-- One number is another one. -/
def up (q : Tb) (e k : Nat) (v : Int) : Tb := fun i j => if i = e ∧ j = k then v else q i j
theorem up_same (q : Tb) (e k : Nat) (v : Int) : up q e k v e k = v := by simp [up]
theorem up_else (q : Tb) (e k : Nat) (v : Int) (i j : Nat) (h : ¬ (i = e ∧ j = k)) : up q e k v i j = q i j := by simp [up, h]
/-- All of one environment, of the first n kinds, goes to another one, too. -/
def mvn (q : Tb) (e t n : Nat) : Tb := fun i j => if i = t ∧ j < n then q t j + q e j else q i j
/-- An environment has nothing. -/
def zr (q : Tb) (e : Nat) : Tb := fun i j => if i = e then 0 else q i j
theorem mvn_zero (q : Tb) (e t : Nat) : mvn q e t 0 = q := by funext i j; simp [mvn]
theorem mvn_succ (q : Tb) (e t n : Nat) (h : e ≠ t) : up (mvn q e t n) t n (q t n + q e n) = mvn q e t (n + 1) := by
  funext i j
  unfold up mvn
  by_cases h1 : i = t ∧ j = n
  · obtain ⟨rfl, rfl⟩ := h1
    simp
  · rw [if_neg h1]
    by_cases h2 : i = t ∧ j < n
    · rw [if_pos h2, if_pos ⟨h2.1, by omega⟩]
    · rw [if_neg h2, if_neg (by omega)]
/-- The sum of the first n environments' numbers of a kind. -/
def sm (q : Tb) (k : Nat) : Nat → Int
  | 0 => 0
  | n + 1 => sm q k n + q n k
theorem sm_succ (q : Tb) (k n : Nat) : sm q k (n + 1) = sm q k n + q n k := rfl
theorem sm_congr (q q' : Tb) (k k' : Nat) : ∀ n : Nat, (∀ i, i < n → q i k = q' i k') → sm q k n = sm q' k' n
  | 0, _ => rfl
  | n + 1, h => by rw [sm_succ, sm_succ, sm_congr q q' k k' n (fun i hi => h i (by omega)), h n (by omega)]
theorem sm_up (q : Tb) (e k : Nat) (v : Int) : ∀ n : Nat, sm (up q e k v) k n = sm q k n + if e < n then v - q e k else 0
  | 0 => by simp [sm]
  | n + 1 => by
    rw [sm_succ, sm_succ, sm_up q e k v n]
    by_cases h : n = e
    · subst h
      rw [up_same, if_neg (by omega), if_pos (by omega)]
      omega
    · rw [up_else _ _ _ _ _ _ (fun h' => h h'.1)]
      by_cases h2 : e < n
      · rw [if_pos h2, if_pos (by omega)]; omega
      · rw [if_neg h2, if_neg (by omega)]; omega
theorem sm_other (q : Tb) (e k k' : Nat) (v : Int) (n : Nat) (h : k' ≠ k) : sm (up q e k v) k' n = sm q k' n := sm_congr _ _ _ _ n fun i _ => up_else _ _ _ _ _ _ (fun h' => h h'.2)
theorem sm_pos (q : Tb) (k : Nat) : ∀ n : Nat, (∀ i, i < n → 0 ≤ q i k) → 0 ≤ sm q k n
  | 0, _ => by simp [sm]
  | n + 1, h => by have h1 := sm_pos q k n (fun i hi => h i (by omega)); have h2 := h n (by omega); rw [sm_succ]; omega
theorem sm_le (q : Tb) (k : Nat) : ∀ (n e : Nat), (∀ i, i < n → 0 ≤ q i k) → e < n → q e k ≤ sm q k n
  | 0, _, _, h => by omega
  | n + 1, e, hp, h => by
    rw [sm_succ]
    have h2 := hp n (by omega)
    by_cases he : e = n
    · subst he
      have := sm_pos q k e (fun i hi => hp i (by omega))
      omega
    · have := sm_le q k n e (fun i hi => hp i (by omega)) (by omega)
      omega
theorem sm_two (q : Tb) (k : Nat) (n e t : Nat) (hp : ∀ i, i < n → 0 ≤ q i k) (he : e < n) (ht : t < n) (hne : e ≠ t) : q e k + q t k ≤ sm q k n := by
  have h1 := sm_up q e k 0 n
  rw [if_pos he] at h1
  have h2 := sm_le (up q e k 0) k n t (fun i hi => by
    unfold up
    split
    · exact Int.le_refl 0
    · exact hp i hi) ht
  rw [up_else _ _ _ _ _ _ (fun h => hne h.1.symm), h1] at h2
  omega

/-- A ledger as it can come about: nobody uses more than its own; of each kind there are T. -/
structure Ok (q u : Tb) (T : Nat → Int) : Prop where
  low : ∀ e k, e < 16 → k < 4 → 0 ≤ u e k ∧ u e k ≤ q e k
  sum : ∀ k, k < 4 → sm q k 16 = T k
  most : ∀ k, k < 4 → T k ≤ 512
theorem Ok.le {q u : Tb} {T : Nat → Int} (h : Ok q u T) (e k : Nat) (he : e < 16) (hk : k < 4) : 0 ≤ u e k ∧ u e k ≤ q e k ∧ q e k ≤ 512 := by
  have h1 := h.low e k he hk
  have h2 := sm_le q k 16 e (fun i hi => by have := h.low i k hi hk; omega) he
  rw [h.sum k hk] at h2
  have := h.most k hk
  omega
theorem Ok.two {q u : Tb} {T : Nat → Int} (h : Ok q u T) (e t k : Nat) (he : e < 16) (ht : t < 16) (hk : k < 4) (hne : e ≠ t) : q e k + q t k ≤ 512 := by
  have h2 := sm_two q k 16 e t (fun i hi => by have := h.low i k hi hk; omega) he ht hne
  rw [h.sum k hk] at h2
  have := h.most k hk
  omega
/-- Another use of one's own. -/
theorem Ok.use {q u : Tb} {T : Nat → Int} (h : Ok q u T) (e k : Nat) (v : Int) (h0 : 0 ≤ v) (h1 : v ≤ q e k) : Ok q (up u e k v) T :=
  ⟨fun i j hi hj => by
    unfold up
    by_cases hc : i = e ∧ j = k
    · rw [if_pos hc, hc.1, hc.2]; exact ⟨h0, h1⟩
    · rw [if_neg hc]; exact h.low i j hi hj, h.sum, h.most⟩
/-- A part of what is left goes to another one, or to itself. -/
theorem Ok.move {q u : Tb} {T : Nat → Int} (h : Ok q u T) (e t k : Nat) (n : Int) (he : e < 16) (ht : t < 16) (hk : k < 4) (h0 : 0 ≤ n) (h1 : n ≤ q e k - u e k) :
    Ok (up (up q e k (q e k - n)) t k (up q e k (q e k - n) t k + n)) u T :=
  ⟨fun i j hi hj => by
    have hij := h.low i j hi hj
    unfold up
    by_cases hc : i = t ∧ j = k
    · rw [if_pos hc]
      obtain ⟨rfl, rfl⟩ := hc
      by_cases hd : i = e ∧ j = j
      · rw [if_pos hd]; obtain ⟨rfl, -⟩ := hd; omega
      · rw [if_neg hd]; omega
    · rw [if_neg hc]
      by_cases hd : i = e ∧ j = k
      · rw [if_pos hd]; obtain ⟨rfl, rfl⟩ := hd; omega
      · rw [if_neg hd]; exact hij,
  fun j hj => by
    by_cases hjk : j = k
    · subst hjk
      rw [sm_up, sm_up, if_pos ht, if_pos he, ← h.sum j hk]
      omega
    · rw [sm_other _ _ _ _ _ _ hjk, sm_other _ _ _ _ _ _ hjk]
      exact h.sum j hj, h.most⟩
/-- All of one goes to another one. -/
theorem Ok.close {q u : Tb} {T : Nat → Int} (h : Ok q u T) (e t : Nat) (he : e < 16) (ht : t < 16) (hne : e ≠ t) : Ok (zr (mvn q e t 4) e) (zr u e) T :=
  ⟨fun i j hi hj => by
    have h1 := h.low i j hi hj
    have h2 := h.low e j he hj
    have h3 := h.low t j ht hj
    unfold zr mvn
    by_cases hc : i = e
    · rw [if_pos hc, if_pos hc]; omega
    · rw [if_neg hc, if_neg hc]
      by_cases hd : i = t ∧ j < 4
      · rw [if_pos hd, hd.1]; omega
      · rw [if_neg hd]; exact h1,
  fun k hk => by
    have e1 : sm (zr (mvn q e t 4) e) k 16 = sm (up (up q t k (q t k + q e k)) e k 0) k 16 := sm_congr _ _ _ _ 16 fun i hi => by
      unfold zr mvn up
      by_cases hc : i = e
      · simp [hc]
      · by_cases hd : i = t
        · simp [hd, hk]
        · simp [hc, hd]
    rw [e1, sm_up, sm_up, if_pos he, if_pos ht, up_else _ _ _ _ _ _ (fun h' => hne h'.1), ← h.sum k hk]
    omega, h.most⟩

/-- Are there such an environment and such a kind? -/
abbrev hsP (e k : Int) : Prop := (0 ≤ e ∧ e < 16) ∧ 0 ≤ k ∧ k < 4
/-- Is it a number that may be asked for? -/
abbrev amP (n : Int) : Prop := 0 ≤ n ∧ n ≤ 512
/-- What is told of a row: 0 of what there is not. -/
def gt (q : Tb) (e k : Int) : Int := if hsP e k then q e.toNat k.toNat else 0
theorem gt_nat (q : Tb) (e k : Nat) (he : e < 16) (hk : k < 4) : gt q (e : Int) (k : Int) = q e k := by
  exact if_pos ⟨⟨by omega, by omega⟩, by omega, by omega⟩
/-- The answer to Take, and what is used then. -/
def tkC (q u : Tb) (e k n : Int) : Int := if ¬ (hsP e k ∧ amP n) then 1 else if n > gt q e k - gt u e k then 21 else 0
def tkU (q u : Tb) (e k n : Int) : Tb := if (hsP e k ∧ amP n) ∧ n ≤ gt q e k - gt u e k then up u e.toNat k.toNat (gt u e k + n) else u
/-- The answer to Free, and what is used then. -/
def frC (u : Tb) (e k n : Int) : Int := if ¬ (hsP e k ∧ amP n) ∨ n > gt u e k then 1 else 0
def frU (u : Tb) (e k n : Int) : Tb := if (hsP e k ∧ amP n) ∧ n ≤ gt u e k then up u e.toNat k.toNat (gt u e k - n) else u
/-- The answer to Move, and the quotas then. -/
def mvC (q u : Tb) (e t k n : Int) : Int := if ¬ (hsP e k ∧ hsP t k ∧ amP n) then 1 else if n > gt q e k - gt u e k then 21 else 0
def mvQ (q u : Tb) (e t k n : Int) : Tb :=
  if (hsP e k ∧ hsP t k ∧ amP n) ∧ n ≤ gt q e k - gt u e k then up (up q e.toNat k.toNat (gt q e k - n)) t.toNat k.toNat (gt (up q e.toNat k.toNat (gt q e k - n)) t k + n) else q
/-- May the one be closed, for the other one? -/
abbrev clP (e t : Int) : Prop := (0 ≤ e ∧ e < 16) ∧ (0 ≤ t ∧ t < 16) ∧ e ≠ t
/-- The answer to Close, the quotas and what is used then. -/
def clC (e t : Int) : Int := if clP e t then 0 else 1
def clQ (q : Tb) (e t : Int) : Tb := if clP e t then zr (mvn q e.toNat t.toNat 4) e.toNat else q
def clU (u : Tb) (e t : Int) : Tb := if clP e t then zr u e.toNat else u

theorem Ok.take {q u : Tb} {T : Nat → Int} (h : Ok q u T) (e k n : Int) : Ok q (tkU q u e k n) T := by
  unfold tkU
  split
  · rename_i hc
    obtain ⟨⟨hs, ha⟩, hl⟩ := hc
    have hs' := hs
    obtain ⟨⟨h0, h1⟩, h2, h3⟩ := hs'
    have hq : gt q e k = q e.toNat k.toNat := if_pos hs
    have hu : gt u e k = u e.toNat k.toNat := if_pos hs
    have hlow := h.low e.toNat k.toNat (by omega) (by omega)
    obtain ⟨ha0, ha1⟩ := ha
    exact h.use _ _ _ (by omega) (by omega)
  · exact h
theorem Ok.free {q u : Tb} {T : Nat → Int} (h : Ok q u T) (e k n : Int) : Ok q (frU u e k n) T := by
  unfold frU
  split
  · rename_i hc
    obtain ⟨⟨hs, ha⟩, hl⟩ := hc
    have hs' := hs
    obtain ⟨⟨h0, h1⟩, h2, h3⟩ := hs'
    have hu : gt u e k = u e.toNat k.toNat := if_pos hs
    have hlow := h.low e.toNat k.toNat (by omega) (by omega)
    obtain ⟨ha0, ha1⟩ := ha
    exact h.use _ _ _ (by omega) (by omega)
  · exact h
theorem Ok.moved {q u : Tb} {T : Nat → Int} (h : Ok q u T) (e t k n : Int) : Ok (mvQ q u e t k n) u T := by
  unfold mvQ
  split
  · rename_i hc
    obtain ⟨⟨hs, ht, ha⟩, hl⟩ := hc
    have hs' := hs
    have ht' := ht
    obtain ⟨⟨h0, h1⟩, h2, h3⟩ := hs'
    obtain ⟨⟨h4, h5⟩, -, -⟩ := ht'
    have hq : gt q e k = q e.toNat k.toNat := if_pos hs
    have hu : gt u e k = u e.toNat k.toNat := if_pos hs
    have hr : ∀ r : Tb, gt r t k = r t.toNat k.toNat := fun r => if_pos ht
    obtain ⟨ha0, ha1⟩ := ha
    rw [hq, hu] at hl
    rw [hr, hq]
    exact h.move _ _ _ _ (by omega) (by omega) (by omega) ha0 hl
  · exact h
theorem Ok.closed {q u : Tb} {T : Nat → Int} (h : Ok q u T) (e t : Int) : Ok (clQ q e t) (clU u e t) T := by
  unfold clQ clU
  split
  · rename_i hc
    obtain ⟨⟨h0, h1⟩, ⟨h2, h3⟩, h4⟩ := hc
    exact h.close _ _ (by omega) (by omega) (by omega)
  · exact h

/-- What New makes of a number: at least 0, at most 512. -/
def clm (n : Int) : Int := if n < 0 then 0 else if 512 < n then 512 else n
theorem clm_le (n : Int) : 0 ≤ clm n ∧ clm n ≤ 512 := by
  unfold clm
  split
  · omega
  · split <;> omega
/-- The quotas of a new one, of whose kinds the first n are laid. -/
def q0 (a : Nat → Int) (n : Nat) : Tb := fun i j => if i = 0 ∧ j < n then clm (a j) else 0
def u0 : Tb := fun _ _ => 0
theorem q0_zero (a : Nat → Int) : q0 a 0 = u0 := by funext i j; simp [q0, u0]
theorem q0_succ (a : Nat → Int) (n : Nat) : up (q0 a n) 0 n (clm (a n)) = q0 a (n + 1) := by
  funext i j
  unfold up q0
  by_cases h : i = 0 ∧ j = n
  · obtain ⟨rfl, rfl⟩ := h
    simp
  · rw [if_neg h]
    by_cases h2 : i = 0 ∧ j < n
    · rw [if_pos h2, if_pos ⟨h2.1, by omega⟩]
    · rw [if_neg h2, if_neg (by omega)]
theorem Ok.first (a : Nat → Int) : Ok (q0 a 4) u0 (fun k => clm (a k)) :=
  ⟨fun e k he hk => by
    have := clm_le (a k)
    unfold q0 u0
    split <;> omega,
  fun k hk => by
    have e1 : sm (q0 a 4) k 16 = sm (up u0 0 k (clm (a k))) k 16 := sm_congr _ _ _ _ 16 fun i hi => by
      unfold q0 up u0
      by_cases h : i = 0
      · simp [h, hk]
      · simp [h]
    rw [e1, sm_up, if_pos (by omega)]
    have : sm u0 k 16 = 0 := by simp [sm, u0]
    rw [this]
    simp [u0],
  fun k hk => (clm_le (a k)).2⟩
end Go.Proofs.Ytcdbdgmjdmkfeaa.Lg
