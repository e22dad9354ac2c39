/-
  Layer 15 (bind), plainly: what each page of each space is bound to; what Put, Drop, Empty, Release make of it; the pages of a space, the pages that are bound to a frame, how many.
-/
import Derived.Test.YtiklneamdfgahaaBut
namespace Go.Proofs.Ytiklneamdfgahaa.Bd
set_option linter.unusedVariables false

/-- A frame, and may it be written. -/
abbrev Fw := Int × Bool
/-- Bindings: by the page's place, 32 to a space. -/
abbrev Tb := Nat → Option Fw
def no : Tb := fun _ => none
/-- One page is bound otherwise. -/
def up (T : Tb) (k : Nat) (v : Option Fw) : Tb := fun j => if j = k then v else T j
theorem up_same (T : Tb) (k : Nat) (v : Option Fw) : up T k v k = v := by simp [up]
theorem up_else (T : Tb) (k : Nat) (v : Option Fw) (j : Nat) (h : j ≠ k) : up T k v j = T j := by simp [up, h]
/-- Some pages are bound no more. -/
def cut (T : Tb) (g : Nat → Bool) : Tb := fun k => if g k = true then none else T k
/-- Is there such a page? -/
abbrev hsP (s p : Int) : Prop := (0 ≤ s ∧ s < 64) ∧ 0 ≤ p ∧ p < 32
/-- May it be a frame? -/
abbrev frP (f : Int) : Prop := 0 ≤ f ∧ f < 512
/-- Its place. -/
def pl (s p : Int) : Nat := s.toNat * 32 + p.toNat
theorem pl_lt {s p : Int} (h : hsP s p) : pl s p < 2048 := by
  obtain ⟨⟨h0, h1⟩, h2, h3⟩ := h
  unfold pl; omega
theorem pl_div {s p : Int} (h : hsP s p) : ((pl s p / 32 : Nat) : Int) = s := by
  obtain ⟨⟨h0, h1⟩, h2, h3⟩ := h
  unfold pl; omega
theorem pl_mod {s p : Int} (h : hsP s p) : ((pl s p % 32 : Nat) : Int) = p := by
  obtain ⟨⟨h0, h1⟩, h2, h3⟩ := h
  unfold pl; omega
theorem pl_of (k : Nat) : pl ((k / 32 : Nat) : Int) ((k % 32 : Nat) : Int) = k := by unfold pl; omega
theorem pl_nat (s p : Nat) : pl (s : Int) (p : Int) = s * 32 + p := rfl
theorem hs_of {k : Nat} (h : k < 2048) : hsP ((k / 32 : Nat) : Int) ((k % 32 : Nat) : Int) := ⟨⟨by omega, by omega⟩, by omega, by omega⟩
/-- What a page is bound to. -/
def gt (T : Tb) (s p : Int) : Option Fw := if hsP s p then T (pl s p) else none
theorem gt_in {T : Tb} {s p : Int} (h : hsP s p) : gt T s p = T (pl s p) := if_pos h
theorem gt_out {T : Tb} {s p : Int} (h : ¬ hsP s p) : gt T s p = none := if_neg h
theorem gt_of (T : Tb) {k : Nat} (h : k < 2048) : gt T ((k / 32 : Nat) : Int) ((k % 32 : Nat) : Int) = T k := by rw [gt_in (hs_of h), pl_of]
theorem gt_nat (T : Tb) (s p : Nat) (hs : s < 64) (hp : p < 32) : gt T (s : Int) (p : Int) = T (s * 32 + p) := gt_in ⟨⟨by omega, by omega⟩, by omega, by omega⟩
/-- A table as it can come about. -/
def Ok (T : Tb) : Prop := ∀ k b, T k = some b → k < 2048 ∧ frP b.1
theorem Ok.no : Ok no := fun _ _ h => by cases h
theorem Ok.cut {T : Tb} (h : Ok T) (g : Nat → Bool) : Ok (cut T g) := fun k b hb => by
  unfold Bd.cut at hb
  split at hb
  · cases hb
  · exact h k b hb
theorem Ok.gt {T : Tb} (h : Ok T) {s p : Int} {b : Fw} (hb : gt T s p = some b) : hsP s p ∧ frP b.1 := by
  unfold Bd.gt at hb
  split at hb
  · rename_i hs
    exact ⟨hs, (h _ _ hb).2⟩
  · cases hb
/-- Put: is it done? the table then. -/
abbrev ptP (s p f : Int) : Prop := hsP s p ∧ frP f
def pt (T : Tb) (s p : Int) (b : Fw) : Tb := if ptP s p b.1 then up T (pl s p) (some b) else T
theorem Ok.put {T : Tb} (h : Ok T) (s p : Int) (b : Fw) : Ok (pt T s p b) := by
  unfold pt
  split
  · rename_i hc
    intro k b' hb
    unfold up at hb
    split at hb
    · rename_i hk
      injection hb with hb
      subst hb
      subst hk
      exact ⟨pl_lt hc.1, hc.2⟩
    · exact h k b' hb
  · exact h
/-- Drop. -/
def dl (T : Tb) (s p : Int) : Tb := if hsP s p then up T (pl s p) none else T
theorem dl_cut (T : Tb) (s p : Int) (h : hsP s p) : dl T s p = cut T (fun k => k == pl s p) := by
  funext k
  unfold dl cut
  rw [if_pos h]
  unfold up
  simp
theorem Ok.drop {T : Tb} (h : Ok T) (s p : Int) : Ok (dl T s p) := by
  unfold dl
  split
  · intro k b hb
    unfold up at hb
    split at hb
    · cases hb
    · exact h k b hb
  · exact h
theorem dl_none {T : Tb} {s p : Int} (h : gt T s p = none) : dl T s p = T := by
  unfold dl
  split
  · rename_i hs
    rw [gt_in hs] at h
    funext k
    unfold up
    split
    · rename_i hk; rw [hk, h]
    · rfl
  · rfl
theorem gt_up (T : Tb) {s p : Int} (h : hsP s p) (v : Option Fw) : gt (up T (pl s p) v) s p = v := by rw [gt_in h, up_same]
theorem gt_up_else (T : Tb) {s p s' p' : Int} (h : hsP s p) (v : Option Fw) (hne : ¬ (s' = s ∧ p' = p)) : gt (up T (pl s p) v) s' p' = gt T s' p' := by
  by_cases hs : hsP s' p'
  · rw [gt_in hs, gt_in hs, up_else]
    intro he
    have e1 := pl_div hs
    have e2 := pl_mod hs
    rw [he] at e1 e2
    exact hne ⟨e1.symm.trans (pl_div h), e2.symm.trans (pl_mod h)⟩
  · rw [gt_out hs, gt_out hs]

/-- How many of the first n there are. -/
def ct (g : Nat → Bool) : Nat → Nat
  | 0 => 0
  | n + 1 => ct g n + if g n = true then 1 else 0
theorem ct_zero (g : Nat → Bool) : ct g 0 = 0 := rfl
theorem ct_succ (g : Nat → Bool) (n : Nat) : ct g (n + 1) = ct g n + if g n = true then 1 else 0 := rfl
theorem ct_le (g : Nat → Bool) : ∀ n, ct g n ≤ n
  | 0 => Nat.le_refl 0
  | n + 1 => by rw [ct_succ]; have := ct_le g n; split <;> omega
theorem ct_mono (g : Nat → Bool) (n : Nat) : ∀ d, ct g n ≤ ct g (n + d)
  | 0 => Nat.le_refl _
  | d + 1 => by rw [← Nat.add_assoc, ct_succ]; have := ct_mono g n d; omega
theorem ct_congr {g g' : Nat → Bool} : ∀ n, (∀ k, k < n → g k = g' k) → ct g n = ct g' n
  | 0, _ => rfl
  | n + 1, h => by rw [ct_succ, ct_succ, ct_congr n (fun k hk => h k (by omega)), h n (by omega)]
theorem ct_none {g : Nat → Bool} : ∀ n, (∀ k, k < n → g k = false) → ct g n = 0
  | 0, _ => rfl
  | n + 1, h => by rw [ct_succ, ct_none n (fun k hk => h k (by omega)), h n (by omega)]; rfl
theorem ct_split (a b : Nat → Bool) : ∀ n, ct (fun k => a k && !b k) n + ct (fun k => a k && b k) n = ct a n
  | 0 => rfl
  | n + 1 => by
    have := ct_split a b n
    simp only [ct_succ]
    cases a n <;> cases b n <;> simp <;> omega
/-- Is it bound? -/
def bd1 (T : Tb) (k : Nat) : Bool := (T k).isSome
/-- How many of the first n places are bound. -/
def cn (T : Tb) (n : Nat) : Nat := ct (bd1 T) n
theorem cn_le (T : Tb) (n : Nat) : cn T n ≤ n := ct_le _ n
theorem cn_up (T : Tb) (k : Nat) (b : Fw) : ∀ n, cn (up T k (some b)) n = cn T n + if k < n ∧ bd1 T k = false then 1 else 0
  | 0 => by simp [cn, ct]
  | n + 1 => by
    have ih := cn_up T k b n
    unfold cn at ih ⊢
    rw [ct_succ, ct_succ, ih]
    by_cases h : n = k
    · subst h
      have e1 : bd1 (up T n (some b)) n = true := by unfold bd1; rw [up_same]; rfl
      rw [e1, if_neg (by omega)]
      cases h2 : bd1 T n <;> simp
    · have e1 : bd1 (up T k (some b)) n = bd1 T n := by unfold bd1; rw [up_else _ _ _ _ h]
      rw [e1]
      have : (k < n + 1 ∧ bd1 T k = false) ↔ (k < n ∧ bd1 T k = false) := ⟨fun hh => ⟨by omega, hh.2⟩, fun hh => ⟨by omega, hh.2⟩⟩
      simp only [this]
      omega
theorem cn_down (T : Tb) (k : Nat) : ∀ n, cn (up T k none) n + (if k < n ∧ bd1 T k = true then 1 else 0) = cn T n
  | 0 => by simp [cn, ct]
  | n + 1 => by
    have ih := cn_down T k n
    unfold cn at ih ⊢
    rw [ct_succ, ct_succ, ← ih]
    by_cases h : n = k
    · subst h
      have e1 : bd1 (up T n none) n = false := by unfold bd1; rw [up_same]; rfl
      have e2 : ¬ (n < n ∧ bd1 T n = true) := fun hh => absurd hh.1 (Nat.lt_irrefl n)
      rw [e1, if_neg e2]
      cases h2 : bd1 T n <;> simp
    · have e1 : bd1 (up T k none) n = bd1 T n := by unfold bd1; rw [up_else _ _ _ _ h]
      rw [e1]
      have : (k < n + 1 ∧ bd1 T k = true) ↔ (k < n ∧ bd1 T k = true) := ⟨fun hh => ⟨by omega, hh.2⟩, fun hh => ⟨by omega, hh.2⟩⟩
      simp only [this]
      omega
/-- How many are bound, and go. -/
def dn (T : Tb) (g : Nat → Bool) (n : Nat) : Nat := ct (fun k => bd1 T k && g k) n
theorem dn_cut (T : Tb) (g : Nat → Bool) : cn (cut T g) 2048 + dn T g 2048 = cn T 2048 := by
  have e : cn (cut T g) 2048 = ct (fun k => bd1 T k && !g k) 2048 := ct_congr 2048 fun k _ => by
    unfold bd1 cut
    cases g k <;> simp
  rw [e]
  exact ct_split (bd1 T) g 2048
theorem dn_le (T : Tb) (g : Nat → Bool) (n : Nat) : dn T g n ≤ n := ct_le _ n
theorem dn_succ (T : Tb) (g : Nat → Bool) (n : Nat) : dn T g (n + 1) = dn T g n + if (bd1 T n && g n) = true then 1 else 0 := rfl
theorem dn_congr {T : Tb} {g g' : Nat → Bool} (h : ∀ k, k < 2048 → bd1 T k = true → g k = g' k) : dn T g 2048 = dn T g' 2048 :=
  ct_congr 2048 fun k hk => by
    cases hb : bd1 T k
    · rfl
    · rw [h k hk hb]
theorem cut_congr {T : Tb} (ho : Ok T) {g g' : Nat → Bool} (h : ∀ k, k < 2048 → bd1 T k = true → g k = g' k) : cut T g = cut T g' := by
  funext k
  unfold cut
  cases hb : T k with
  | none => simp
  | some b => rw [h k (ho k b hb).1 (by unfold bd1; rw [hb]; rfl)]
/-- Is it bound to the frame? -/
def isF (T : Tb) (f : Int) (k : Nat) : Bool := match T k with | some b => b.1 == f | none => false
theorem isF_some {T : Tb} {f : Int} {k : Nat} {b : Fw} (h : T k = some b) : isF T f k = (b.1 == f) := by unfold isF; rw [h]
theorem isF_none {T : Tb} {f : Int} {k : Nat} (h : T k = none) : isF T f k = false := by unfold isF; rw [h]
theorem isF_cut (T : Tb) (f : Int) (k : Nat) : isF (cut T (isF T f)) f k = false := by
  cases hb : T k with
  | none => exact isF_none (by unfold cut; rw [hb]; simp)
  | some b =>
    cases hf : isF T f k with
    | true => exact isF_none (by unfold cut; rw [if_pos hf])
    | false => rw [isF_some (b := b) (by unfold cut; rw [if_neg (by rw [hf]; simp), hb]), ← isF_some hb, hf]
/-- Is it of the space? -/
def isS (s : Int) (k : Nat) : Bool := decide (((k / 32 : Nat) : Int) = s)

/-- The pages of a space that are bound, of the first n. -/
def pgl (T : Tb) (s : Int) : Nat → List Nat
  | 0 => []
  | n + 1 => pgl T s n ++ if (gt T s (n : Int)).isSome = true then [n] else []
theorem pgl_succ (T : Tb) (s : Int) (n : Nat) : pgl T s (n + 1) = pgl T s n ++ if (gt T s (n : Int)).isSome = true then [n] else [] := rfl
theorem pgl_len (T : Tb) (s : Int) : ∀ n, (pgl T s n).length ≤ n
  | 0 => Nat.le_refl 0
  | n + 1 => by rw [pgl_succ, List.length_append]; have := pgl_len T s n; split <;> simp <;> omega
theorem pgl_cn (T : Tb) (s : Nat) (hs : s < 64) : ∀ n, n ≤ 32 → (pgl T (s : Int) n).length + cn T (s * 32) = cn T (s * 32 + n)
  | 0, _ => by simp [pgl]
  | n + 1, h => by
    have ih := pgl_cn T s hs n (by omega)
    rw [pgl_succ, List.length_append, gt_nat T s n hs (by omega)]
    unfold cn at ih ⊢
    rw [← Nat.add_assoc, ct_succ, ← ih]
    unfold bd1
    cases (T (s * 32 + n)).isSome <;> simp <;> omega
/-- The places of the pages that are bound to a frame, of the first n. -/
def usl (T : Tb) (f : Int) : Nat → List Nat
  | 0 => []
  | n + 1 => usl T f n ++ if isF T f n = true then [n] else []
theorem usl_succ (T : Tb) (f : Int) (n : Nat) : usl T f (n + 1) = usl T f n ++ if isF T f n = true then [n] else [] := rfl
theorem usl_len (T : Tb) (f : Int) : ∀ n, (usl T f n).length ≤ n
  | 0 => Nat.le_refl 0
  | n + 1 => by rw [usl_succ, List.length_append]; have := usl_len T f n; split <;> simp <;> omega
theorem usl_mem (T : Tb) (f : Int) (k : Nat) : ∀ n, k ∈ usl T f n ↔ k < n ∧ isF T f k = true
  | 0 => by simp [usl]
  | n + 1 => by
    rw [usl_succ, List.mem_append, usl_mem T f k n]
    by_cases h : isF T f n = true
    · rw [if_pos h, List.mem_singleton]
      constructor
      · rintro (⟨h1, h2⟩ | rfl)
        · exact ⟨by omega, h2⟩
        · exact ⟨by omega, h⟩
      · rintro ⟨h1, h2⟩
        by_cases hk : k = n
        · exact .inr hk
        · exact .inl ⟨by omega, h2⟩
    · rw [if_neg h]
      constructor
      · rintro (⟨h1, h2⟩ | h1)
        · exact ⟨by omega, h2⟩
        · cases h1
      · rintro ⟨h1, h2⟩
        refine .inl ⟨?_, h2⟩
        by_cases hk : k = n
        · subst hk; exact absurd h2 h
        · omega
theorem usl_none {T : Tb} {f : Int} : ∀ n, (∀ k, k < n → isF T f k = false) → usl T f n = []
  | 0, _ => rfl
  | n + 1, h => by rw [usl_succ, usl_none n (fun k hk => h k (by omega)), if_neg (by rw [h n (by omega)]; simp)]; rfl
theorem usl_sorted (T : Tb) (f : Int) : ∀ n, (usl T f n).Pairwise (· < ·)
  | 0 => List.Pairwise.nil
  | n + 1 => by
    rw [usl_succ]
    refine List.pairwise_append.2 ⟨usl_sorted T f n, ?_, fun a ha b hb => ?_⟩
    · split
      · exact List.pairwise_singleton _ _
      · exact List.Pairwise.nil
    · have h1 := ((usl_mem T f a n).1 ha).1
      split at hb
      · rw [List.mem_singleton] at hb; omega
      · cases hb
/-- Two lists that rise, of the same numbers, are the same. -/
theorem rise_eq : ∀ (l l' : List Nat), l.Pairwise (· < ·) → l'.Pairwise (· < ·) → (∀ k, k ∈ l ↔ k ∈ l') → l = l'
  | [], [], _, _, _ => rfl
  | [], b :: l', _, _, h => by have := (h b).2 (by simp); cases this
  | a :: l, [], _, _, h => by have := (h a).1 (by simp); cases this
  | a :: l, b :: l', h1, h2, h => by
    obtain ⟨p1, q1⟩ := List.pairwise_cons.1 h1
    obtain ⟨p2, q2⟩ := List.pairwise_cons.1 h2
    have hab : a = b := by
      have ha := (h a).1 (by simp)
      have hb := (h b).2 (by simp)
      rcases List.mem_cons.1 ha with e | ha
      · exact e
      · rcases List.mem_cons.1 hb with e | hb
        · exact e.symm
        · have := p1 b hb; have := p2 a ha; omega
    subst hab
    congr 1
    refine rise_eq l l' q1 q2 fun k => ?_
    have hk := h k
    constructor
    · intro hm
      have := p1 k hm
      rcases List.mem_cons.1 (hk.1 (by simp [hm])) with e | e
      · omega
      · exact e
    · intro hm
      have := p2 k hm
      rcases List.mem_cons.1 (hk.2 (by simp [hm])) with e | e
      · omega
      · exact e
attribute [irreducible] ct pgl usl
end Go.Proofs.Ytiklneamdfgahaa.Bd
