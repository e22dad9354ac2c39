/-
  Layer 12 (caps), plainly: trees of caps, what is derived from what, what calls make of them. Nothing of the program is named here.
-/
import Derived.Test.YtlppfcoclpdanaaSnLay
namespace Go.Proofs.Ytlppfcoclpdanaa.Cs
open Sn
set_option linter.unusedVariables false

/-- What stands at a place. -/
structure Nd where
  gen : Nat
  par : Int
  st : Nat → Bool
theorem Nd.ext' {x y : Nd} (h1 : x.gen = y.gen) (h2 : x.par = y.par) (h3 : ∀ k, x.st k = y.st k) : x = y := by
  cases x; cases y
  obtain rfl : _ = _ := h1
  obtain rfl : _ = _ := h2
  congr 1
  exact funext h3
abbrev Tr := Nat → Nd
def nd0 : Nd := ⟨0, 0, fun _ => false⟩
def updN (T : Tr) (k : Nat) (x : Nd) : Tr := fun j => if j = k then x else T j
theorem updN_same (T : Tr) (k : Nat) (x : Nd) : updN T k x k = x := if_pos rfl
theorem updN_other (T : Tr) {k j : Nat} (x : Nd) (h : j ≠ k) : updN T k x j = T j := if_neg h

theorem nums_mem (f : Nat → Bool) : ∀ (n x : Nat), x ∈ nums f n ↔ x < n ∧ f x = true := fun n x => by simp [nums]
theorem nums_nodup (f : Nat → Bool) (n : Nat) : (nums f n).Nodup := by
  unfold nums
  exact List.Pairwise.filter _ List.nodup_range
theorem nodup_le {l : List Nat} : ∀ {k : List Nat}, l.Nodup → (∀ x, x ∈ l → x ∈ k) → l.length ≤ k.length := by
  induction l with
  | nil => intro k _ _; simp
  | cons a l ih =>
    intro k hn hs
    have ha : a ∈ k := hs a (by simp)
    have h1 := List.nodup_cons.1 hn
    have := ih (k := k.erase a) h1.2 (fun x hx => by
      have hxa : x ≠ a := fun e => h1.1 (e ▸ hx)
      exact (List.mem_erase_of_ne hxa).2 (hs x (by simp [hx])))
    rw [List.length_erase_of_mem ha] at this
    have hp : 0 < k.length := List.length_pos_of_mem ha
    simp
    omega
theorem nodup_eq {l k : List Nat} (h1 : l.Nodup) (h2 : k.Nodup) (h : ∀ x, x ∈ l ↔ x ∈ k) : l.length = k.length :=
  Nat.le_antisymm (nodup_le h1 (fun x hx => (h x).1 hx)) (nodup_le h2 (fun x hx => (h x).2 hx))
theorem nodup_64 {l : List Nat} (h : l.Nodup) (hl : ∀ x, x ∈ l → x < 64) : l.length ≤ 64 := by
  have := nodup_le (k := List.range 64) h (fun x hx => List.mem_range.2 (hl x hx))
  simpa using this
/-- A set with a number. -/
def nz (f : Nat → Bool) : Bool := decide (0 < (nums f 1024).length)
theorem nz_iff {f : Nat → Bool} (h : Lim f) : nz f = true ↔ ∃ x, f x = true := by
  unfold nz
  rw [decide_eq_true_iff]
  constructor
  · intro hp
    obtain ⟨x, hx⟩ := List.exists_mem_of_length_pos hp
    exact ⟨x, ((nums_mem f 1024 x).1 hx).2⟩
  · rintro ⟨x, hx⟩
    have hlt : x < 1024 := by
      rcases Nat.lt_or_ge x 1024 with h1 | h1
      · exact h1
      · rw [h x h1] at hx; cases hx
    exact List.length_pos_of_mem ((nums_mem f 1024 x).2 ⟨hlt, hx⟩)
theorem nz_no {f : Nat → Bool} (h : Lim f) (hf : nz f = false) (x : Nat) : f x = false := by
  cases hx : f x with
  | false => rfl
  | true => rw [(nz_iff h).2 ⟨x, hx⟩] at hf; cases hf
theorem len_nz {f : Nat → Bool} : ((nums f 1024).length == 0) = !nz f := by
  unfold nz
  cases h : (nums f 1024).length <;> simp

/-- Derived from place a. -/
def kid (T : Tr) (a : Int) (p : Nat) : Bool := decide (0 < (T p).gen) && decide ((T p).par = a)
def kids (T : Tr) (a : Int) : List Nat := nums (kid T a) 64
theorem kid_iff {T : Tr} {a : Int} {p : Nat} : kid T a p = true ↔ 0 < (T p).gen ∧ (T p).par = a := by simp [kid]
/-- A tree as it can come about; m caps there ever were. -/
structure Wf (T : Tr) (m : Nat) : Prop where
  root : 0 < (T 0).gen
  rpar : (T 0).par = -1
  lim : ∀ p, Lim (T p).st
  le : ∀ p, (T p).gen ≤ m
  lt : ∀ p, 0 < (T p).gen → p < 64
  inj : ∀ p q, 0 < (T p).gen → (T p).gen = (T q).gen → p = q
  par : ∀ p, 0 < (T p).gen → p ≠ 0 → ∃ q : Nat, (T p).par = q ∧ 0 < (T q).gen ∧ (T q).gen < (T p).gen ∧ ∀ x, (T p).st x = true → (T q).st x = true
  some : ∀ p, 0 < (T p).gen → p ≠ 0 → ∃ x, (T p).st x = true
  apart : ∀ p q x, p ≠ q → 0 < (T p).gen → 0 < (T q).gen → p ≠ 0 → q ≠ 0 → (T p).par = (T q).par → (T p).st x = true → (T q).st x = false
  bound : ∀ p, -1 ≤ (T p).par ∧ (T p).par < 64
theorem kids_mem {T : Tr} {m : Nat} (h : Wf T m) {a : Int} {p : Nat} : p ∈ kids T a ↔ 0 < (T p).gen ∧ (T p).par = a := by
  unfold kids
  rw [nums_mem, kid_iff]
  exact ⟨fun h => h.2, fun h1 => ⟨h.lt p h1.1, h1⟩⟩
theorem kids_nodup (T : Tr) (a : Int) : (kids T a).Nodup := nums_nodup _ _

/-- Is a place under a? As many steps up as n. -/
def udr (T : Tr) (a : Int) : Nat → Nat → Bool
  | 0, _ => false
  | n + 1, i => if (T i).gen = 0 then false else if (T i).par = a then true else if (T i).par < 0 then false else udr T a n (T i).par.toNat
def rank (T : Tr) (i : Nat) : Nat := (nums (fun p => decide (0 < (T p).gen) && decide ((T p).gen < (T i).gen)) 64).length
theorem rank_le (T : Tr) (i : Nat) : rank T i ≤ 64 := nums_le _ _
theorem rank_lt {T : Tr} {m : Nat} (h : Wf T m) {i q : Nat} (hq : 0 < (T q).gen) (hl : (T q).gen < (T i).gen) : rank T q < rank T i := by
  have := nodup_le (l := q :: nums (fun p => decide (0 < (T p).gen) && decide ((T p).gen < (T q).gen)) 64) (k := nums (fun p => decide (0 < (T p).gen) && decide ((T p).gen < (T i).gen)) 64)
    (List.nodup_cons.2 ⟨fun hm => by have := ((nums_mem _ _ _).1 hm).2; simp at this, nums_nodup _ _⟩)
    (fun x hx => by
      rw [nums_mem]
      rcases List.mem_cons.1 hx with rfl | hx
      · exact ⟨h.lt x hq, by simp [hq, hl]⟩
      · rw [nums_mem] at hx
        obtain ⟨h1, h2⟩ := hx
        simp at h2 ⊢
        omega)
  rw [List.length_cons] at this
  exact this
theorem udr_fuel {T : Tr} {m : Nat} (h : Wf T m) (a : Nat) : ∀ n k i, rank T i ≤ n → rank T i ≤ k → udr T a n i = udr T a k i := by
  have key : ∀ i, rank T i ≤ 0 → ∀ k, udr T a k i = false := fun i h0 k => by
    cases k with
    | zero => rfl
    | succ k =>
      unfold udr
      by_cases hg : (T i).gen = 0
      · rw [if_pos hg]
      · rw [if_neg hg]
        by_cases hi : i = 0
        · subst hi
          rw [h.rpar, if_neg (by omega), if_pos (by omega)]
        · obtain ⟨q, _, h2, h3, _⟩ := h.par i (by omega) hi
          have := rank_lt h h2 h3
          omega
  intro n
  induction n with
  | zero => intro k i h1 h2; rw [key i h1, key i h1]
  | succ n ih =>
    intro k i h1 h2
    cases k with
    | zero => rw [key i h2, key i h2]
    | succ k =>
      unfold udr
      by_cases hg : (T i).gen = 0
      · rw [if_pos hg, if_pos hg]
      · rw [if_neg hg, if_neg hg]
        by_cases hi : i = 0
        · subst hi
          rw [h.rpar, if_neg (by omega), if_pos (by omega), if_neg (by omega), if_pos (by omega)]
        · obtain ⟨q, hp, h3, h4, _⟩ := h.par i (by omega) hi
          have := rank_lt h h3 h4
          rw [hp, Int.toNat_natCast]
          split
          · rfl
          · split
            · rfl
            · exact ih k q (by omega) (by omega)
/-- Under a. -/
def und (T : Tr) (a : Int) (i : Nat) : Bool := udr T a 64 i
theorem und_none {T : Tr} {a : Int} {i : Nat} (hg : (T i).gen = 0) : und T a i = false := by
  show udr T a (63 + 1) i = false
  unfold udr
  rw [if_pos hg]
theorem und_root {T : Tr} {m : Nat} (h : Wf T m) (a : Nat) : und T a 0 = false := by
  show udr T a (63 + 1) 0 = false
  unfold udr
  have := h.root
  rw [if_neg (by omega), h.rpar, if_neg (by omega), if_pos (by omega)]
theorem und_step {T : Tr} {m : Nat} (h : Wf T m) (a : Nat) {i q : Nat} (hg : 0 < (T i).gen) (hp : (T i).par = q) : und T a i = (decide (q = a) || und T a q) := by
  show udr T a 64 i = _
  rw [udr_fuel h a 64 65 i (rank_le T i) (Nat.le_succ_of_le (rank_le T i))]
  show udr T a (64 + 1) i = _
  unfold udr
  rw [if_neg (by omega), hp, Int.toNat_natCast]
  by_cases e : q = a
  · subst e
    simp
  · rw [if_neg (by omega), if_neg (by omega)]
    simp [e, und]
theorem und_gen {T : Tr} {m : Nat} (h : Wf T m) (a : Nat) : ∀ n i, (T i).gen ≤ n → und T a i = true → 0 < (T i).gen ∧ (T a).gen < (T i).gen ∧ 0 < (T a).gen := by
  intro n
  induction n with
  | zero => intro i hn hu; rw [und_none (by omega)] at hu; cases hu
  | succ n ih =>
    intro i hn hu
    by_cases hg : (T i).gen = 0
    · rw [und_none hg] at hu; cases hu
    · by_cases hi : i = 0
      · subst hi; rw [und_root h] at hu; cases hu
      · obtain ⟨q, hp, h3, h4, _⟩ := h.par i (by omega) hi
        rw [und_step h a (by omega) hp] at hu
        by_cases e : q = a
        · subst e
          exact ⟨by omega, h4, h3⟩
        · simp [e] at hu
          have := ih q (by omega) hu
          omega
theorem und_lt {T : Tr} {m : Nat} (h : Wf T m) {a i : Nat} (hu : und T a i = true) : 0 < (T i).gen ∧ (T a).gen < (T i).gen ∧ i ≠ 0 ∧ i ≠ a ∧ i < 64 := by
  obtain ⟨h1, h2, h3⟩ := und_gen h a _ i (Nat.le_refl _) hu
  refine ⟨h1, h2, fun e => ?_, fun e => ?_, h.lt i h1⟩
  · subst e; rw [und_root h] at hu; cases hu
  · subst e; omega
theorem und_kid {T : Tr} {m : Nat} (h : Wf T m) {a i : Nat} (hg : 0 < (T i).gen) (hp : (T i).par = a) : und T a i = true := by
  rw [und_step h a hg hp]; simp
theorem und_far {T : Tr} {m : Nat} (h : Wf T m) {a i q : Nat} (hg : 0 < (T i).gen) (hp : (T i).par = q) (hu : und T a q = true) : und T a i = true := by
  rw [und_step h a hg hp, hu]; simp

/-- How far the list of those under a is. -/
structure Bf (T : Tr) (a : Nat) (L : List Nat) (i : Nat) : Prop where
  und : ∀ x, x ∈ L → und T a x = true
  nd : L.Nodup
  le : i ≤ L.length
  all : ∀ x, x ∈ L ↔ 0 < (T x).gen ∧ ((T x).par = a ∨ ∃ j, j < i ∧ (T x).par = (L.getD j 0 : Nat))
theorem Bf.start {T : Tr} {m : Nat} (h : Wf T m) (a : Nat) : Bf T a (kids T a) 0 :=
  ⟨fun x hx => by rw [kids_mem h] at hx; exact und_kid h hx.1 hx.2, kids_nodup _ _, Nat.zero_le _, fun x => by
    rw [kids_mem h]
    exact ⟨fun h => ⟨h.1, .inl h.2⟩, fun h => ⟨h.1, by rcases h.2 with h | ⟨j, hj, _⟩; exact h; omega⟩⟩⟩
theorem getD_mem {L : List Nat} {j : Nat} (h : j < L.length) : L.getD j 0 ∈ L := by
  rw [List.getD_eq_getElem?_getD, List.getElem?_eq_getElem h]
  exact List.getElem_mem h
theorem getD_inj {L : List Nat} (hn : L.Nodup) {i j : Nat} (hi : i < L.length) (hj : j < L.length) (e : L.getD i 0 = L.getD j 0) : i = j := by
  rw [List.getD_eq_getElem?_getD, List.getD_eq_getElem?_getD, List.getElem?_eq_getElem hi, List.getElem?_eq_getElem hj] at e
  have hp := List.pairwise_iff_getElem.1 hn
  rcases Nat.lt_trichotomy i j with h | h | h
  · exact absurd e (hp i j hi hj h)
  · exact h
  · exact absurd e.symm (hp j i hj hi h)
theorem getD_left {L K : List Nat} {j : Nat} (h : j < L.length) : (L ++ K).getD j 0 = L.getD j 0 := by
  rw [List.getD_eq_getElem?_getD, List.getD_eq_getElem?_getD, List.getElem?_append_left h]
theorem Bf.lt {T : Tr} {m : Nat} (h : Wf T m) {a : Nat} {L : List Nat} {i : Nat} (hb : Bf T a L i) : ∀ x, x ∈ L → x < 64 := fun x hx => (und_lt h (hb.und x hx)).2.2.2.2
theorem Bf.len {T : Tr} {m : Nat} (h : Wf T m) {a : Nat} {L : List Nat} {i : Nat} (hb : Bf T a L i) : L.length ≤ 64 := nodup_64 hb.nd (hb.lt h)
theorem Bf.step {T : Tr} {m : Nat} (h : Wf T m) {a : Nat} {L : List Nat} {i : Nat} (hb : Bf T a L i) (hi : i < L.length) : Bf T a (L ++ kids T (L.getD i 0 : Nat)) (i + 1) := by
  have hm := getD_mem hi
  have hu := hb.und _ hm
  refine ⟨fun x hx => ?_, ?_, ?_, fun x => ?_⟩
  · rcases List.mem_append.1 hx with hx | hx
    · exact hb.und x hx
    · rw [kids_mem h] at hx
      exact und_far h hx.1 hx.2 hu
  · refine List.nodup_append.2 ⟨hb.nd, kids_nodup _ _, fun x hx y hy e => ?_⟩
    subst e
    rw [kids_mem h] at hy
    rcases ((hb.all x).1 hx).2 with h1 | ⟨j, hj, h1⟩
    · have e : L.getD i 0 = a := by omega
      rw [e] at hu
      exact (und_lt h hu).2.2.2.1 rfl
    · have := getD_inj hb.nd (by omega) hi (show L.getD j 0 = L.getD i 0 by omega)
      omega
  · rw [List.length_append]; omega
  · rw [List.mem_append, kids_mem h, hb.all x]
    constructor
    · rintro (⟨h1, h2 | ⟨j, hj, h2⟩⟩ | ⟨h1, h2⟩)
      · exact ⟨h1, .inl h2⟩
      · exact ⟨h1, .inr ⟨j, by omega, by rw [getD_left (by omega)]; exact h2⟩⟩
      · exact ⟨h1, .inr ⟨i, by omega, by rw [getD_left hi]; exact h2⟩⟩
    · rintro ⟨h1, h2 | ⟨j, hj, h2⟩⟩
      · exact .inl ⟨h1, .inl h2⟩
      · rw [getD_left (by omega)] at h2
        by_cases e : j = i
        · subst e; exact .inr ⟨h1, h2⟩
        · exact .inl ⟨h1, .inr ⟨j, by omega, h2⟩⟩
theorem mem_getD {L : List Nat} {x : Nat} (h : x ∈ L) : ∃ j, j < L.length ∧ L.getD j 0 = x := by
  obtain ⟨j, hj, e⟩ := List.getElem_of_mem h
  exact ⟨j, hj, by rw [List.getD_eq_getElem?_getD, List.getElem?_eq_getElem hj]; exact e⟩
theorem Bf.done {T : Tr} {m : Nat} (h : Wf T m) {a : Nat} {L : List Nat} {i : Nat} (hb : Bf T a L i) (hi : i = L.length) : ∀ x, x ∈ L ↔ Cs.und T a x = true := by
  have key : ∀ n x, (T x).gen ≤ n → Cs.und T a x = true → x ∈ L := by
    intro n
    induction n with
    | zero => intro x hn hu; have := (und_lt h hu).1; omega
    | succ n ih =>
      intro x hn hu
      obtain ⟨h1, _, h0, _⟩ := und_lt h hu
      obtain ⟨q, hp, h3, h4, _⟩ := h.par x h1 h0
      rw [hb.all x]
      refine ⟨h1, ?_⟩
      rw [und_step h a h1 hp] at hu
      by_cases e : q = a
      · exact .inl (by rw [hp, e])
      · simp [e] at hu
        obtain ⟨j, hj, e2⟩ := mem_getD (ih q (by omega) hu)
        exact .inr ⟨j, by omega, by rw [hp, e2]⟩
  exact fun x => ⟨hb.und x, key _ x (Nat.le_refl _)⟩

/-- The numbers that those of a list have. -/
def sAny (T : Tr) (l : List Nat) : Nat → Bool := fun x => l.any fun p => (T p).st x
theorem sAny_snoc (T : Tr) (l : List Nat) (p : Nat) : wi (sAny T l) (T p).st = sAny T (l ++ [p]) := by
  funext x
  simp [wi, lay, sAny]
theorem sAny_lim {T : Tr} (h : ∀ p, Lim (T p).st) (l : List Nat) : Lim (sAny T l) := fun x hx => by
  simp only [sAny, List.any_eq_false]
  intro p _
  rw [h p x hx]; simp
def lentS (T : Tr) (a : Int) : Nat → Bool := sAny T (kids T a)
theorem take_snoc {l : List Nat} {j : Nat} (h : j < l.length) : l.take (j + 1) = l.take j ++ [l.getD j 0] := by
  rw [List.take_add_one, List.getElem?_eq_getElem h, List.getD_eq_getElem?_getD, List.getElem?_eq_getElem h]; rfl

/-- Behind Revoke | Drop. -/
def rvT (T : Tr) (a : Nat) (self : Bool) : Tr := fun i => if (und T a i || (self && decide (i = a))) = true then nd0 else T i
/-- The place and all under it. -/
def inB (T : Tr) (a : Nat) (i : Nat) : Bool := decide (i = a) || und T a i
def meets (f s : Nat → Bool) : Bool := nz (bo f s)
def cutN (i : Nat) (x : Nd) (s : Nat → Bool) : Nd := if nz (wo x.st s) = false ∧ i ≠ 0 then nd0 else { x with st := wo x.st s }
/-- Behind Cut. -/
def ctT (T : Tr) (a : Nat) (s : Nat → Bool) : Tr := fun i => if (inB T a i && meets (T i).st s) = true then cutN i (T i) s else T i
def ctC (T : Tr) (a : Nat) (s : Nat → Bool) : Nat := (nums (fun i => inB T a i && meets (T i).st s) 64).length
def isB (T : Tr) (at_ : Int) (g : Nat) : Bool := decide (0 ≤ at_) && decide (at_ < 64) && decide (0 < g) && decide ((T at_.toNat).gen = g)
theorem isB_iff {T : Tr} {at_ : Int} {g : Nat} : isB T at_ g = true ↔ ∃ a : Nat, at_ = a ∧ a < 64 ∧ 0 < g ∧ (T a).gen = g := by
  simp only [isB, Bool.and_eq_true, decide_eq_true_iff]
  constructor
  · rintro ⟨⟨⟨h1, h2⟩, h3⟩, h4⟩
    exact ⟨at_.toNat, by omega, by omega, h3, h4⟩
  · rintro ⟨a, rfl, h1, h2, h3⟩
    exact ⟨⟨⟨by omega, by omega⟩, h2⟩, by rw [Int.toNat_natCast]; exact h3⟩
theorem isB_nat {T : Tr} {a g : Nat} (ha : a < 64) (hg : 0 < g) (h : (T a).gen = g) : isB T a g = true := isB_iff.2 ⟨a, rfl, ha, hg, h⟩
theorem wo_lim {f g : Nat → Bool} (h : Lim f) : Lim (wo f g) := fun x hx => by simp [wo, lay, h x hx]
theorem bo_lim {f g : Nat → Bool} (h : Lim f) : Lim (bo f g) := fun x hx => by simp [bo, lay, h x hx]
theorem wo_true {f g : Nat → Bool} {x : Nat} : wo f g x = true ↔ f x = true ∧ g x = false := by simp [wo, lay]
theorem bo_true {f g : Nat → Bool} {x : Nat} : bo f g x = true ↔ f x = true ∧ g x = true := by simp [bo, lay]

/-- The least free place, 64 if none. -/
def frP (T : Tr) : Nat → Nat
  | 0 => 0
  | n + 1 => if frP T n < n then frP T n else if (T n).gen = 0 then n else n + 1
theorem frP_le (T : Tr) : ∀ n, frP T n ≤ n
  | 0 => Nat.le_refl _
  | n + 1 => by
    have := frP_le T n
    unfold frP
    split
    · omega
    · split <;> omega
theorem frP_eq {T : Tr} {k n : Nat} (hk : k ≤ n) (h1 : ∀ q, q < k → 0 < (T q).gen) (h2 : k < n → (T k).gen = 0) : frP T n = k := by
  induction n with
  | zero => unfold frP; omega
  | succ n ih =>
    unfold frP
    by_cases e : k = n + 1
    · subst e
      have hl : ∀ j, j ≤ n → frP T j = j := by
        intro j
        induction j with
        | zero => intro _; rfl
        | succ j ihj =>
          intro hj
          unfold frP
          rw [ihj (by omega), if_neg (by omega), if_neg (by have := h1 j (by omega); omega)]
      rw [hl n (by omega), if_neg (by omega), if_neg (by have := h1 n (by omega); omega)]
    · by_cases e2 : k = n
      · subst e2
        have hl : ∀ j, j ≤ k → frP T j = j := by
          intro j
          induction j with
          | zero => intro _; rfl
          | succ j ihj =>
            intro hj
            unfold frP
            rw [ihj (by omega), if_neg (by omega), if_neg (by have := h1 j (by omega); omega)]
        rw [hl k (Nat.le_refl _), if_neg (by omega), if_pos (h2 (by omega))]
      · have := ih (by omega) (fun _ => h2 (by omega))
        rw [this, if_pos (by omega)]
theorem frP_spec (T : Tr) : ∀ n, (∀ q, q < frP T n → 0 < (T q).gen) ∧ (frP T n < n → (T (frP T n)).gen = 0)
  | 0 => ⟨fun q hq => by unfold frP at hq; omega, fun h => by unfold frP at h; omega⟩
  | n + 1 => by
    obtain ⟨h1, h2⟩ := frP_spec T n
    have hle := frP_le T n
    unfold frP
    by_cases e : frP T n < n
    · rw [if_pos e]
      exact ⟨h1, fun _ => h2 e⟩
    · rw [if_neg e]
      have e3 : frP T n = n := by omega
      rw [e3] at h1
      by_cases e4 : (T n).gen = 0
      · rw [if_pos e4]
        exact ⟨h1, fun _ => e4⟩
      · rw [if_neg e4]
        exact ⟨fun q hq => by
          by_cases e5 : q = n
          · subst e5; omega
          · exact h1 q (by omega), fun h => by omega⟩
/-- What Derive tells of an error. -/
def dcode (T : Tr) (at_ : Int) (g : Nat) (s : Nat → Bool) : Int :=
  if isB T at_ g = false then 3 else if nz s = false then 1 else if nz (wo s (T at_.toNat).st) = true then 2 else if nz (bo s (lentS T at_)) = true then 24 else if frP T 64 < 64 then 0 else 5
def dvK (T : Tr) (at_ : Int) (g : Nat) (s : Nat → Bool) : Nat := if dcode T at_ g s = 0 then frP T 64 else 0
def dvG (T : Tr) (m : Nat) (at_ : Int) (g : Nat) (s : Nat → Bool) : Nat := if dcode T at_ g s = 0 then m + 1 else 0
def dvM (T : Tr) (m : Nat) (at_ : Int) (g : Nat) (s : Nat → Bool) : Nat := if dcode T at_ g s = 0 then m + 1 else m
def dvT (T : Tr) (m : Nat) (at_ : Int) (g : Nat) (s : Nat → Bool) : Tr := if dcode T at_ g s = 0 then updN T (frP T 64) ⟨m + 1, at_, s⟩ else T
theorem dv_no {T : Tr} {m : Nat} {at_ : Int} {g : Nat} {s : Nat → Bool} (h : dcode T at_ g s ≠ 0) : dvK T at_ g s = 0 ∧ dvG T m at_ g s = 0 ∧ dvM T m at_ g s = m ∧ dvT T m at_ g s = T :=
  ⟨if_neg h, if_neg h, if_neg h, if_neg h⟩
theorem dv_yes {T : Tr} {m : Nat} {at_ : Int} {g : Nat} {s : Nat → Bool} (h : dcode T at_ g s = 0) : dvK T at_ g s = frP T 64 ∧ dvG T m at_ g s = m + 1 ∧ dvM T m at_ g s = m + 1 ∧ dvT T m at_ g s = updN T (frP T 64) ⟨m + 1, at_, s⟩ :=
  ⟨if_pos h, if_pos h, if_pos h, if_pos h⟩
theorem dcode_zero {T : Tr} {at_ : Int} {g : Nat} {s : Nat → Bool} (h : dcode T at_ g s = 0) : isB T at_ g = true ∧ nz s = true ∧ nz (wo s (T at_.toNat).st) = false ∧ nz (bo s (lentS T at_)) = false ∧ frP T 64 < 64 := by
  unfold dcode at h
  split at h
  · omega
  · rename_i h1
    split at h
    · omega
    · rename_i h2
      split at h
      · omega
      · rename_i h3
        split at h
        · omega
        · rename_i h4
          split at h
          · rename_i h5
            exact ⟨by simpa using h1, by simpa using h2, by simpa using h3, by simpa using h4, h5⟩
          · omega

/-- What a deed may do to who is there. -/
def Stp (T : Tr) (m : Nat) (T' : Tr) (m' : Nat) : Prop := m ≤ m' ∧ m' ≤ m + 1 ∧ ∀ k, (T' k).gen = (T k).gen ∨ (T' k).gen = 0 ∨ m < (T' k).gen
theorem Stp.refl (T : Tr) (m : Nat) : Stp T m T m := ⟨Nat.le_refl _, Nat.le_succ _, fun k => .inl rfl⟩

theorem new_wf {s : Nat → Bool} (hs : Lim s) : Wf (updN (fun _ => nd0) 0 ⟨1, -1, s⟩) 1 := by
  have h0 : ∀ p, p ≠ 0 → updN (fun _ => nd0) 0 ⟨1, -1, s⟩ p = nd0 := fun p hp => updN_other _ _ hp
  have hr : updN (fun _ => nd0) 0 ⟨1, -1, s⟩ 0 = ⟨1, -1, s⟩ := updN_same _ _ _
  have hg : ∀ p, 0 < (updN (fun _ => nd0) 0 ⟨1, -1, s⟩ p).gen → p = 0 := fun p hp => by
    by_cases e : p = 0
    · exact e
    · rw [h0 p e] at hp; exact absurd hp (Nat.lt_irrefl 0)
  refine ⟨by rw [hr]; exact Nat.one_pos, by rw [hr], fun p => ?_, fun p => ?_, fun p hp => by rw [hg p hp]; omega, fun p q hp e => ?_, fun p hp h => absurd (hg p hp) h, fun p hp h => absurd (hg p hp) h, fun p q x _ hp _ h => absurd (hg p hp) h, fun p => ?_⟩
  · by_cases e : p = 0
    · subst e; rw [hr]; exact hs
    · rw [h0 p e]; exact fun _ _ => rfl
  · by_cases e : p = 0
    · subst e; rw [hr]; exact Nat.le_refl _
    · rw [h0 p e]; exact Nat.zero_le _
  · rw [hg p hp, hg q (by omega)]
  · by_cases e : p = 0
    · subst e; rw [hr]; exact ⟨Int.le_refl _, by show (-1 : Int) < 64; omega⟩
    · rw [h0 p e]; exact ⟨by show (-1 : Int) ≤ 0; omega, by show (0 : Int) < 64; omega⟩

theorem rv_gone {T : Tr} {a : Nat} {self : Bool} {i : Nat} (h : (und T a i || (self && decide (i = a))) = true) : rvT T a self i = nd0 := if_pos h
theorem rv_stay {T : Tr} {a : Nat} {self : Bool} {i : Nat} (h : (und T a i || (self && decide (i = a))) = false) : rvT T a self i = T i := if_neg (by rw [h]; simp)
theorem rv_pos {T : Tr} {a : Nat} {self : Bool} {i : Nat} (h : 0 < (rvT T a self i).gen) : rvT T a self i = T i ∧ 0 < (T i).gen ∧ (und T a i || (self && decide (i = a))) = false := by
  cases e : (und T a i || (self && decide (i = a))) with
  | false => exact ⟨rv_stay e, by rw [rv_stay e] at h; exact h, rfl⟩
  | true => rw [rv_gone e] at h; exact absurd h (Nat.lt_irrefl 0)
theorem rv_wf {T : Tr} {m : Nat} (h : Wf T m) {a : Nat} {self : Bool} (hs : self = true → a ≠ 0) : Wf (rvT T a self) m := by
  have h0 : (und T a 0 || (self && decide (0 = a))) = false := by
    rw [und_root h]
    cases self with
    | false => rfl
    | true => have := hs rfl; simp; omega
  have hk : ∀ i, rvT T a self i = T i ∨ rvT T a self i = nd0 := fun i => by
    cases e : (und T a i || (self && decide (i = a))) with
    | false => exact .inl (rv_stay e)
    | true => exact .inr (rv_gone e)
  refine ⟨by rw [rv_stay h0]; exact h.root, by rw [rv_stay h0]; exact h.rpar, fun p => ?_, fun p => ?_, fun p hp => h.lt p (rv_pos hp).2.1, fun p q hp e => ?_, fun p hp hn => ?_, fun p hp hn => ?_, fun p q x hpq hp hq hp0 hq0 e hx => ?_, fun p => ?_⟩
  · rcases hk p with e | e <;> rw [e]
    · exact h.lim p
    · exact fun _ _ => rfl
  · rcases hk p with e | e <;> rw [e]
    · exact h.le p
    · exact Nat.zero_le _
  · obtain ⟨e1, h1, _⟩ := rv_pos hp
    obtain ⟨e2, h2, _⟩ := rv_pos (T := T) (a := a) (self := self) (i := q) (by omega)
    rw [e1, e2] at e
    exact h.inj p q h1 e
  · obtain ⟨e1, h1, h2⟩ := rv_pos hp
    obtain ⟨q, hq, h3, h4, h5⟩ := h.par p h1 hn
    rw [e1]
    have e2 : rvT T a self q = T q := by
      apply rv_stay
      cases e : (und T a q || (self && decide (q = a))) with
      | false => rfl
      | true =>
        have : und T a p = true := by
          rw [und_step h a h1 hq]
          cases hu : und T a q with
          | true => simp
          | false =>
            rw [hu] at e
            simp at e
            simp [e.2]
        rw [this] at h2
        cases h2
    exact ⟨q, hq, by rw [e2]; exact h3, by rw [e2]; exact h4, fun x hx => by rw [e2]; exact h5 x hx⟩
  · obtain ⟨e1, h1, _⟩ := rv_pos hp
    rw [e1]
    exact h.some p h1 hn
  · obtain ⟨e1, h1, _⟩ := rv_pos hp
    obtain ⟨e2, h2, _⟩ := rv_pos hq
    rw [e1, e2] at e
    rw [e1] at hx
    rw [e2]
    exact h.apart p q x hpq h1 h2 hp0 hq0 e hx
  · rcases hk p with e | e <;> rw [e]
    · exact h.bound p
    · exact ⟨by show (-1 : Int) ≤ 0; omega, by show (0 : Int) < 64; omega⟩
theorem rv_stp {T : Tr} {m a : Nat} {self : Bool} : Stp T m (rvT T a self) m := ⟨Nat.le_refl _, Nat.le_succ _, fun k => by
  cases e : (und T a k || (self && decide (k = a))) with
  | false => rw [rv_stay e]; exact .inl rfl
  | true => rw [rv_gone e]; exact .inr (.inl rfl)⟩

theorem ct_is (T : Tr) (a : Nat) (s : Nat → Bool) (i : Nat) : ctT T a s i = T i ∨ ctT T a s i = nd0 ∨ ctT T a s i = { T i with st := wo (T i).st s } := by
  unfold ctT cutN
  split
  · split
    · exact .inr (.inl rfl)
    · exact .inr (.inr rfl)
  · exact .inl rfl
/-- Who is there behind Cut: as it was, but for its numbers. -/
theorem ct_pos {T : Tr} {m : Nat} (h : Wf T m) {a : Nat} {s : Nat → Bool} {i : Nat} (hp : 0 < (ctT T a s i).gen) : 0 < (T i).gen ∧ (ctT T a s i).gen = (T i).gen ∧ (ctT T a s i).par = (T i).par ∧
    ∀ x, (ctT T a s i).st x = ((T i).st x && !(inB T a i && s x)) := by
  unfold ctT at hp ⊢
  by_cases e : (inB T a i && meets (T i).st s) = true
  · rw [if_pos e] at hp ⊢
    unfold cutN at hp ⊢
    by_cases e2 : nz (wo (T i).st s) = false ∧ i ≠ 0
    · rw [if_pos e2] at hp
      exact absurd hp (Nat.lt_irrefl 0)
    · rw [if_neg e2] at hp ⊢
      simp at e
      exact ⟨hp, rfl, rfl, fun x => by rw [e.1]; simp [wo, lay]⟩
  · rw [if_neg e] at hp ⊢
    refine ⟨hp, rfl, rfl, fun x => ?_⟩
    cases hb : inB T a i with
    | false => simp
    | true =>
      rw [hb] at e
      have hn : nz (bo (T i).st s) = false := by simpa [meets] using e
      have := nz_no (bo_lim (h.lim i)) hn x
      simp only [bo, lay] at this
      simp
      intro h1
      rw [h1] at this
      simpa using this
theorem ct_gone {T : Tr} {m : Nat} (h : Wf T m) {a : Nat} {s : Nat → Bool} {i : Nat} (hg : 0 < (T i).gen) (h0 : ¬ 0 < (ctT T a s i).gen) : inB T a i = true ∧ i ≠ 0 ∧ ∀ x, (T i).st x = true → s x = true := by
  unfold ctT at h0
  by_cases e : (inB T a i && meets (T i).st s) = true
  · rw [if_pos e] at h0
    unfold cutN at h0
    by_cases e2 : nz (wo (T i).st s) = false ∧ i ≠ 0
    · simp at e
      refine ⟨e.1, e2.2, fun x hx => ?_⟩
      have := nz_no (wo_lim (h.lim i)) e2.1 x
      simp only [wo, lay, hx] at this
      simpa using this
    · rw [if_neg e2] at h0
      exact absurd hg h0
  · rw [if_neg e] at h0
    exact absurd hg h0
theorem ct_stays {T : Tr} {m : Nat} (h : Wf T m) {a : Nat} {s : Nat → Bool} {i : Nat} (hg : 0 < (T i).gen) {x : Nat} (hx : (T i).st x = true) (hb : (inB T a i && s x) = false) : 0 < (ctT T a s i).gen := by
  rcases Nat.lt_or_ge 0 (ctT T a s i).gen with h1 | h1
  · exact h1
  · obtain ⟨h2, _, h3⟩ := ct_gone h (a := a) (s := s) hg (by omega)
    rw [h2, h3 x hx] at hb
    cases hb
theorem ct_root {T : Tr} {m : Nat} (h : Wf T m) {a : Nat} {s : Nat → Bool} : 0 < (ctT T a s 0).gen := by
  rcases Nat.lt_or_ge 0 (ctT T a s 0).gen with h1 | h1
  · exact h1
  · exact absurd rfl (ct_gone h (a := a) (s := s) h.root (by omega)).2.1
theorem ct_wf {T : Tr} {m : Nat} (h : Wf T m) {a : Nat} {s : Nat → Bool} : Wf (ctT T a s) m := by
  refine ⟨ct_root h, by rw [(ct_pos h (ct_root h)).2.2.1]; exact h.rpar, fun p => ?_, fun p => ?_, fun p hp => h.lt p (ct_pos h hp).1, fun p q hp e => ?_, fun p hp hn => ?_, fun p hp hn => ?_, fun p q x hpq hp hq hp0 hq0 e hx => ?_, fun p => ?_⟩
  · rcases ct_is T a s p with e | e | e <;> rw [e]
    · exact h.lim p
    · exact fun _ _ => rfl
    · exact wo_lim (h.lim p)
  · rcases ct_is T a s p with e | e | e <;> rw [e]
    · exact h.le p
    · exact Nat.zero_le _
    · exact h.le p
  · obtain ⟨h1, e1, _⟩ := ct_pos h hp
    obtain ⟨h2, e2, _⟩ := ct_pos h (a := a) (s := s) (i := q) (by omega)
    exact h.inj p q h1 (by omega)
  · obtain ⟨h1, e1, e2, e3⟩ := ct_pos h hp
    obtain ⟨q, hq, h3, h4, h5⟩ := h.par p h1 hn
    have hin : inB T a q = true → inB T a p = true := fun hb => by
      unfold inB at hb ⊢
      rw [und_step h a h1 hq]
      simp at hb ⊢
      exact .inr hb
    have hsub : ∀ x, (ctT T a s p).st x = true → (T q).st x = true ∧ (inB T a q && s x) = false := fun x hx => by
      rw [e3] at hx
      simp at hx
      refine ⟨h5 x hx.1, ?_⟩
      cases hb : inB T a q with
      | false => rfl
      | true =>
        rcases hx.2 with h6 | h6
        · rw [hin hb] at h6; cases h6
        · simpa using h6
    have hstay : 0 < (ctT T a s q).gen := by
      rcases Nat.lt_or_ge 0 (ctT T a s q).gen with h6 | h6
      · exact h6
      · exfalso
        obtain ⟨h7, _, h8⟩ := ct_gone h (a := a) (s := s) h3 (by omega)
        have hgp : ¬ 0 < (ctT T a s p).gen := by
          obtain ⟨x0, hx0⟩ := h.some p h1 hn
          have hm : meets (T p).st s = true := (nz_iff (bo_lim (h.lim p))).2 ⟨x0, bo_true.2 ⟨hx0, h8 x0 (h5 x0 hx0)⟩⟩
          have hl : nz (wo (T p).st s) = false := by
            cases hz : nz (wo (T p).st s) with
            | false => rfl
            | true =>
              obtain ⟨x, hx⟩ := (nz_iff (wo_lim (h.lim p))).1 hz
              rw [wo_true] at hx
              rw [h8 x (h5 x hx.1)] at hx
              cases hx.2
          unfold ctT cutN
          rw [hin h7, hm, if_pos (by rfl), if_pos ⟨hl, hn⟩]
          exact Nat.lt_irrefl 0
        exact hgp hp
    obtain ⟨_, f1, f2, f3⟩ := ct_pos h hstay
    refine ⟨q, by rw [e2]; exact hq, hstay, by rw [e1, f1]; exact h4, fun x hx => ?_⟩
    obtain ⟨h9, h10⟩ := hsub x hx
    rw [f3, h9, h10]; rfl
  · obtain ⟨h1, e1, e2, e3⟩ := ct_pos h hp
    obtain ⟨x0, hx0⟩ := h.some p h1 hn
    unfold ctT at hp ⊢
    by_cases e : (inB T a p && meets (T p).st s) = true
    · rw [if_pos e] at hp ⊢
      unfold cutN at hp ⊢
      by_cases e5 : nz (wo (T p).st s) = false ∧ p ≠ 0
      · rw [if_pos e5] at hp
        exact absurd hp (Nat.lt_irrefl 0)
      · rw [if_neg e5]
        have : nz (wo (T p).st s) = true := by
          cases hz : nz (wo (T p).st s) with
          | true => rfl
          | false => exact absurd ⟨hz, hn⟩ e5
        exact (nz_iff (wo_lim (h.lim p))).1 this
    · rw [if_neg e]
      exact ⟨x0, hx0⟩
  · obtain ⟨h1, e1, e2, e3⟩ := ct_pos h hp
    obtain ⟨h2, f1, f2, f3⟩ := ct_pos h hq
    rw [e3] at hx
    simp at hx
    have := h.apart p q x hpq h1 h2 hp0 hq0 (by rw [← e2, ← f2]; exact e) hx.1
    rw [f3, this]; rfl
  · rcases ct_is T a s p with e | e | e <;> rw [e]
    · exact h.bound p
    · exact ⟨by show (-1 : Int) ≤ 0; omega, by show (0 : Int) < 64; omega⟩
    · exact h.bound p
theorem ct_stp {T : Tr} {m a : Nat} {s : Nat → Bool} : Stp T m (ctT T a s) m := ⟨Nat.le_refl _, Nat.le_succ _, fun k => by
  rcases ct_is T a s k with e | e | e <;> rw [e]
  · exact .inl rfl
  · exact .inr (.inl rfl)
  · exact .inl rfl⟩

theorem lentS_true {T : Tr} {m : Nat} (h : Wf T m) {a : Int} {x : Nat} : lentS T a x = true ↔ ∃ p, 0 < (T p).gen ∧ (T p).par = a ∧ (T p).st x = true := by
  unfold lentS sAny
  rw [List.any_eq_true]
  constructor
  · rintro ⟨p, hp, hx⟩
    rw [kids_mem h] at hp
    exact ⟨p, hp.1, hp.2, hx⟩
  · rintro ⟨p, h1, h2, h3⟩
    exact ⟨p, (kids_mem h).2 ⟨h1, h2⟩, h3⟩
theorem dv_wf {T : Tr} {m : Nat} (h : Wf T m) {at_ : Int} {g : Nat} {s : Nat → Bool} (hs : Lim s) : Wf (dvT T m at_ g s) (dvM T m at_ g s) := by
  by_cases hc : dcode T at_ g s = 0
  · obtain ⟨_, _, eM, eT⟩ := dv_yes (m := m) hc
    obtain ⟨h1, h2, h3, h4, h5⟩ := dcode_zero hc
    obtain ⟨a, rfl, ha, hg, hag⟩ := isB_iff.1 h1
    rw [eM, eT]
    obtain ⟨f1, f2⟩ := frP_spec T 64
    have hf := f2 h5
    rw [Int.toNat_natCast] at h3
    generalize frP T 64 = k at *
    have hk0 : k ≠ 0 := fun e => by subst e; have := h.root; omega
    have hka : a ≠ k := fun e => by subst e; omega
    have ek : updN T k ⟨m + 1, a, s⟩ k = ⟨m + 1, a, s⟩ := updN_same _ _ _
    have eo : ∀ j, j ≠ k → updN T k ⟨m + 1, a, s⟩ j = T j := fun j hj => updN_other _ _ hj
    have hsub : ∀ x, s x = true → (T a).st x = true := fun x hx => by
      have := nz_no (wo_lim hs) h3 x
      simp only [wo, lay, hx] at this
      simpa using this
    have hap : ∀ q x, 0 < (T q).gen → (T q).par = a → s x = true → (T q).st x = false := fun q x hq hpa hx => by
      cases hx2 : (T q).st x with
      | false => rfl
      | true =>
        have := nz_no (bo_lim hs) h4 x
        simp only [bo, lay, hx, (lentS_true h).2 ⟨q, hq, hpa, hx2⟩] at this
        cases this
    refine ⟨by rw [eo 0 (Ne.symm hk0)]; exact h.root, by rw [eo 0 (Ne.symm hk0)]; exact h.rpar, fun p => ?_, fun p => ?_, fun p hp => ?_, fun p q hp e => ?_, fun p hp hn => ?_, fun p hp hn => ?_, fun p q x hpq hp hq hp0 hq0 e hx => ?_, fun p => ?_⟩
    · by_cases e : p = k
      · subst e; rw [ek]; exact hs
      · rw [eo p e]; exact h.lim p
    · by_cases e : p = k
      · subst e; rw [ek]; exact Nat.le_refl _
      · rw [eo p e]; exact Nat.le_succ_of_le (h.le p)
    · by_cases e : p = k
      · omega
      · rw [eo p e] at hp; exact h.lt p hp
    · by_cases e1 : p = k
      · by_cases e2 : q = k
        · omega
        · rw [e1, ek, eo q e2] at e
          have := h.le q
          simp at e
          omega
      · by_cases e2 : q = k
        · rw [e2, ek, eo p e1] at e
          have := h.le p
          simp at e
          omega
        · rw [eo p e1] at hp e
          rw [eo q e2] at e
          exact h.inj p q hp e
    · by_cases e1 : p = k
      · subst e1
        rw [ek]
        refine ⟨a, rfl, ?_, ?_, ?_⟩
        · rw [eo a hka]; omega
        · rw [eo a hka]; have := h.le a; show (T a).gen < m + 1; omega
        · rw [eo a hka]; exact hsub
      · rw [eo p e1] at hp ⊢
        obtain ⟨q, h6, h7, h8, h9⟩ := h.par p hp hn
        have e2 : q ≠ k := fun e => by subst e; omega
        exact ⟨q, h6, by rw [eo q e2]; exact h7, by rw [eo q e2]; exact h8, fun x hx => by rw [eo q e2]; exact h9 x hx⟩
    · by_cases e1 : p = k
      · subst e1
        rw [ek]
        exact (nz_iff hs).1 h2
      · rw [eo p e1] at hp ⊢
        exact h.some p hp hn
    · by_cases e1 : p = k
      · have e2 : q ≠ k := fun e2 => hpq (e1.trans e2.symm)
        rw [e1, ek] at hx
        rw [e1, ek, eo q e2] at e
        rw [eo q e2] at hq ⊢
        exact hap q x hq e.symm hx
      · by_cases e2 : q = k
        · rw [eo p e1] at hx hp e
          rw [e2, ek] at e ⊢
          cases hx2 : s x with
          | false => exact hx2
          | true => rw [hap p x hp e hx2] at hx; cases hx
        · rw [eo p e1] at hx hp e
          rw [eo q e2] at hq e ⊢
          exact h.apart p q x hpq hp hq hp0 hq0 e hx
    · by_cases e : p = k
      · subst e; rw [ek]; exact ⟨by show (-1 : Int) ≤ a; omega, by show (a : Int) < 64; omega⟩
      · rw [eo p e]; exact h.bound p
  · obtain ⟨_, _, eM, eT⟩ := dv_no (m := m) hc
    rw [eM, eT]
    exact h
theorem dv_stp {T : Tr} {m : Nat} {at_ : Int} {g : Nat} {s : Nat → Bool} : Stp T m (dvT T m at_ g s) (dvM T m at_ g s) := by
  by_cases hc : dcode T at_ g s = 0
  · obtain ⟨_, _, eM, eT⟩ := dv_yes (m := m) hc
    rw [eM, eT]
    refine ⟨Nat.le_succ _, Nat.le_refl _, fun k => ?_⟩
    by_cases e : k = frP T 64
    · rw [e, updN_same]; exact .inr (.inr (Nat.lt_succ_self _))
    · rw [updN_other _ _ e]; exact .inl rfl
  · obtain ⟨_, _, eM, eT⟩ := dv_no (m := m) hc
    rw [eM, eT]
    exact Stp.refl T m
end Go.Proofs.Ytlppfcoclpdanaa.Cs
