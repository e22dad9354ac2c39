/-
  Layer 10 (span), plainly: where a set's numbers begin and are over; its numbers; sets laid together. Nothing of the program is named here.
-/
import Derived.Test.YtlppfcoclpdanaaMem
namespace Go.Proofs.Ytlppfcoclpdanaa.Sn
set_option linter.unusedVariables false

/-- What f says of the number ahead. -/
def pv (f : Nat → Bool) : Nat → Bool
  | 0 => false
  | n + 1 => f n
/-- The numbers below p at which f turns, rising. -/
def edg (f : Nat → Bool) : Nat → List Nat
  | 0 => []
  | p + 1 => if f p = pv f p then edg f p else edg f p ++ [p]
theorem edg_same {f : Nat → Bool} {p : Nat} (h : f p = pv f p) : edg f (p + 1) = edg f p := if_pos h
theorem edg_turn {f : Nat → Bool} {p : Nat} (h : f p ≠ pv f p) : edg f (p + 1) = edg f p ++ [p] := if_neg h
theorem edg_par (f : Nat → Bool) : ∀ p, (edg f p).length % 2 = (pv f p).toNat
  | 0 => rfl
  | p + 1 => by
    have ih := edg_par f p
    by_cases h : f p = pv f p
    · rw [edg_same h]
      show _ = (f p).toNat
      rw [h]; exact ih
    · rw [edg_turn h, List.length_append, List.length_singleton]
      show _ = (f p).toNat
      cases h1 : f p <;> cases h2 : pv f p <;> rw [h1, h2] at h <;> rw [h2] at ih <;> simp at h ih ⊢ <;> omega
theorem edg_lt (f : Nat → Bool) : ∀ p x, x ∈ edg f p → x < p
  | 0, x, h => by cases h
  | p + 1, x, h => by
    by_cases e : f p = pv f p
    · rw [edg_same e] at h
      have := edg_lt f p x h
      omega
    · rw [edg_turn e, List.mem_append, List.mem_singleton] at h
      rcases h with h | rfl
      · have := edg_lt f p x h
        omega
      · omega
theorem edg_len (f : Nat → Bool) : ∀ p, (edg f p).length ≤ p
  | 0 => Nat.le_refl _
  | p + 1 => by
    have ih := edg_len f p
    by_cases e : f p = pv f p
    · rw [edg_same e]; omega
    · rw [edg_turn e, List.length_append, List.length_singleton]; omega
theorem edg_pre (f : Nat → Bool) (p : Nat) : ∀ d, ∃ t, edg f (p + d) = edg f p ++ t ∧ ∀ x ∈ t, p ≤ x
  | 0 => ⟨[], by simp⟩
  | d + 1 => by
    obtain ⟨t, ht, hx⟩ := edg_pre f p d
    by_cases e : f (p + d) = pv f (p + d)
    · exact ⟨t, by rw [← Nat.add_assoc, edg_same e, ht], hx⟩
    · refine ⟨t ++ [p + d], by rw [← Nat.add_assoc, edg_turn e, ht, List.append_assoc], fun x h => ?_⟩
      rw [List.mem_append, List.mem_singleton] at h
      rcases h with h | rfl
      · exact hx x h
      · omega
theorem edg_idx (f : Nat → Bool) {q P j : Nat} (hq : q ≤ P) (hj : j < (edg f P).length) : (edg f P).getD j 1024 < q ↔ j < (edg f q).length := by
  obtain ⟨d, rfl⟩ : ∃ d, P = q + d := ⟨P - q, by omega⟩
  obtain ⟨t, ht, hx⟩ := edg_pre f q d
  rw [ht] at hj ⊢
  rw [List.getD_eq_getElem?_getD]
  by_cases h : j < (edg f q).length
  · rw [List.getElem?_append_left h, List.getElem?_eq_getElem h]
    exact ⟨fun _ => h, fun _ => edg_lt f q _ (List.getElem_mem h)⟩
  · rw [List.length_append] at hj
    rw [List.getElem?_append_right (by omega), List.getElem?_eq_getElem (by omega)]
    have := hx _ (List.getElem_mem (l := t) (n := j - (edg f q).length) (by omega))
    refine ⟨fun h2 => ?_, fun h2 => absurd h2 h⟩
    simp only [Option.getD_some] at h2
    omega
theorem edg_inc (f : Nat → Bool) {P i j : Nat} (hij : i < j) (hj : j < (edg f P).length) : (edg f P).getD i 1024 < (edg f P).getD j 1024 := by
  have hx : (edg f P).getD j 1024 < P := by
    rw [List.getD_eq_getElem?_getD, List.getElem?_eq_getElem hj]
    exact edg_lt f P _ (List.getElem_mem hj)
  have h1 := (edg_idx f (q := (edg f P).getD j 1024) (Nat.le_of_lt hx) hj)
  refine (edg_idx f (Nat.le_of_lt hx) (by omega)).2 ?_
  have h2 : ¬ j < (edg f ((edg f P).getD j 1024)).length := fun h => by have := h1.2 h; omega
  have h3 := (edg_idx f (q := (edg f P).getD j 1024 + 1) (P := P) (by omega) hj).1 (by omega)
  by_cases e : f ((edg f P).getD j 1024) = pv f ((edg f P).getD j 1024)
  · rw [edg_same e] at h3; omega
  · rw [edg_turn e, List.length_append, List.length_singleton] at h3; omega
/-- f does not turn from p on, ahead of q. -/
def Stay (f : Nat → Bool) (p q : Nat) : Prop := ∀ n, p ≤ n → n < q → f n = pv f n
theorem Stay.less {f : Nat → Bool} {p q q' : Nat} (h : Stay f p q) (hq : q' ≤ q) : Stay f p q' := fun n h1 h2 => h n h1 (by omega)
theorem stay_edg {f : Nat → Bool} {p : Nat} : ∀ {d : Nat}, Stay f p (p + d) → edg f (p + d) = edg f p ∧ pv f (p + d) = pv f p
  | 0, _ => ⟨rfl, rfl⟩
  | d + 1, h => by
    obtain ⟨h1, h2⟩ := stay_edg (h.less (by omega) : Stay f p (p + d))
    have h3 := h (p + d) (by omega) (by omega)
    exact ⟨by rw [← Nat.add_assoc, edg_same h3, h1], by show f (p + d) = _; rw [h3, h2]⟩
theorem Stay.edg {f : Nat → Bool} {p q : Nat} (h : Stay f p q) (hpq : p ≤ q) : edg f q = edg f p := by
  obtain ⟨d, rfl⟩ : ∃ d, q = p + d := ⟨q - p, by omega⟩
  exact (stay_edg h).1
theorem Stay.pv {f : Nat → Bool} {p q : Nat} (h : Stay f p q) (hpq : p ≤ q) : pv f q = pv f p := by
  obtain ⟨d, rfl⟩ : ∃ d, q = p + d := ⟨q - p, by omega⟩
  exact (stay_edg h).2
theorem Stay.val {f : Nat → Bool} {p q n : Nat} (h : Stay f p q) (h1 : p ≤ n) (h2 : n < q) : f n = Sn.pv f p := by
  rw [h n h1 h2]
  exact (h.less (by omega) : Stay f p n).pv h1
theorem stay_of {f : Nat → Bool} {p q : Nat} {b : Bool} (h0 : pv f p = b) (h : ∀ n, p ≤ n → n < q → f n = b) : Stay f p q := fun n h1 h2 => by
  rw [h n h1 h2]
  cases n with
  | zero => obtain rfl : p = 0 := by omega
            exact h0.symm
  | succ m =>
    show b = f m
    by_cases e : p = m + 1
    · subst e; exact h0.symm
    · exact (h m (by omega) (by omega)).symm
theorem nxt0 (f : Nat → Bool) (p : Nat) : ∀ d, (∃ x, p ≤ x ∧ x < p + d ∧ Stay f p x ∧ f x ≠ pv f x) ∨ Stay f p (p + d)
  | 0 => .inr fun n h1 h2 => by omega
  | d + 1 => by
    rcases nxt0 f p d with ⟨x, h1, h2, h3⟩ | h
    · exact .inl ⟨x, h1, by omega, h3⟩
    · by_cases e : f (p + d) = pv f (p + d)
      · refine .inr fun n h1 h2 => ?_
        by_cases e2 : n = p + d
        · rw [e2]; exact e
        · exact h n h1 (by omega)
      · exact .inl ⟨p + d, by omega, by omega, h, e⟩
theorem edg_at {f : Nat → Bool} {p x q : Nat} (h : p ≤ x) (hx : x < q) (hs : Stay f p x) (ht : f x ≠ pv f x) : (edg f p).length < (edg f q).length ∧ (edg f q).getD (edg f p).length 1024 = x := by
  obtain ⟨d, rfl⟩ : ∃ d, q = x + 1 + d := ⟨q - (x + 1), by omega⟩
  obtain ⟨t, hq, _⟩ := edg_pre f (x + 1) d
  rw [edg_turn ht, hs.edg h] at hq
  rw [hq]
  refine ⟨by simp, ?_⟩
  rw [List.getD_eq_getElem?_getD, List.getElem?_append_left (by simp)]
  simp
/-- Where a set's numbers begin, and are over, in turn. -/
def E (f : Nat → Bool) : List Nat := edg f 1025
def ed (f : Nat → Bool) (i : Nat) : Nat := (E f).getD i 1024
/-- No number beyond the greatest one. -/
def Lim (f : Nat → Bool) : Prop := ∀ n, 1024 ≤ n → f n = false
theorem ed_le {f : Nat → Bool} (i : Nat) : ed f i ≤ 1024 := by
  unfold ed
  rw [List.getD_eq_getElem?_getD]
  by_cases h : i < (E f).length
  · rw [List.getElem?_eq_getElem h]
    have : (E f)[i] < 1025 := edg_lt f 1025 _ (List.getElem_mem h)
    show (E f)[i] ≤ 1024
    omega
  · rw [List.getElem?_eq_none (by omega)]; exact Nat.le_refl _
theorem E_even {f : Nat → Bool} (h : Lim f) : (E f).length % 2 = 0 := by
  rw [E, edg_par]
  show (f 1024).toNat = 0
  rw [h 1024 (Nat.le_refl _)]; rfl
theorem E_le (f : Nat → Bool) : (E f).length ≤ 1025 := edg_len f 1025
/-- The next place at which a set turns. -/
theorem nxt {f : Nat → Bool} {p : Nat} (hp : p ≤ 1024) : p ≤ ed f (edg f p).length ∧ Stay f p (ed f (edg f p).length) ∧ (ed f (edg f p).length < 1024 → f (ed f (edg f p).length) ≠ pv f (ed f (edg f p).length)) := by
  rcases nxt0 f p (1025 - p) with ⟨x, h1, h2, h3, h4⟩ | h
  · have := (edg_at h1 (q := 1025) (by omega) h3 h4).2
    have e : ed f (edg f p).length = x := this
    rw [e]
    exact ⟨h1, h3, fun _ => h4⟩
  · rw [show p + (1025 - p) = 1025 by omega] at h
    have h' := h.edg (by omega)
    have e : ed f (edg f p).length = 1024 := by
      unfold ed E
      rw [h', List.getD_eq_getElem?_getD, List.getElem?_eq_none (Nat.le_refl _)]; rfl
    rw [e]
    exact ⟨hp, h.less (by omega), fun h => absurd h (by omega)⟩
/-- A row, or none. -/
theorem row_at {f : Nat → Bool} (hf : Lim f) {p k : Nat} (hp : p ≤ 1025) (hk : (edg f p).length = k * 2) (hlt : k * 2 < (E f).length) :
    k * 2 + 1 < (E f).length ∧ p ≤ ed f (k * 2) ∧ ed f (k * 2) < ed f (k * 2 + 1) ∧ ed f (k * 2 + 1) ≤ 1024 ∧ (∀ n, p ≤ n → n < ed f (k * 2) → f n = false) ∧ (∀ n, ed f (k * 2) ≤ n → n < ed f (k * 2 + 1) → f n = true) ∧
      (edg f (ed f (k * 2 + 1) + 1)).length = (k + 1) * 2 ∧ f (ed f (k * 2 + 1)) = false := by
  have hpv : pv f p = false := by
    have := edg_par f p
    rw [hk] at this
    cases h : pv f p with
    | false => rfl
    | true => rw [h] at this; simp at this
  rcases nxt0 f p (1025 - p) with ⟨a, h1, h2, h3, h4⟩ | h
  · have ha := (edg_at h1 (q := 1025) (by omega) h3 h4).2
    have ea : ed f (k * 2) = a := by rw [← hk]; exact ha
    have hpa : pv f a = false := by rw [h3.pv h1, hpv]
    have hfa : f a = true := by rw [hpa] at h4; simpa using h4
    have ha4 : a < 1024 := by
      rcases Nat.lt_or_ge a 1024 with h | h
      · exact h
      · rw [hf a h] at hfa; cases hfa
    have hl1 : (edg f (a + 1)).length = k * 2 + 1 := by rw [edg_turn h4, h3.edg h1, List.length_append, hk]; rfl
    rcases nxt0 f (a + 1) (1025 - (a + 1)) with ⟨b, g1, g2, g3, g4⟩ | g
    · have hb := edg_at g1 (q := 1025) (by omega) g3 g4
      have eb : ed f (k * 2 + 1) = b := by rw [← hl1]; exact hb.2
      have hpb : pv f b = true := by rw [g3.pv g1]; exact hfa
      have hfb : f b = false := by rw [hpb] at g4; simpa using g4
      rw [ea, eb]
      refine ⟨by rw [← hl1]; exact hb.1, h1, by omega, by omega, fun n n1 n2 => ?_, fun n n1 n2 => ?_, ?_, hfb⟩
      · rw [h3.val n1 n2, hpv]
      · by_cases e : n = a
        · rw [e]; exact hfa
        · rw [g3.val (by omega) n2]; exact hfa
      · rw [edg_turn g4, g3.edg g1, List.length_append, hl1, List.length_singleton]; omega
    · have := g.val (n := 1024) (by omega) (by omega)
      rw [hf 1024 (Nat.le_refl _)] at this
      have h' : pv f (a + 1) = true := hfa
      rw [h'] at this; cases this
  · rw [show p + (1025 - p) = 1025 by omega] at h
    have := h.edg hp
    unfold E at hlt
    rw [this, hk] at hlt; omega
theorem row_end {f : Nat → Bool} {p k : Nat} (hf : Lim f) (hp : p ≤ 1025) (hk : (edg f p).length = k * 2) (hlt : (E f).length = k * 2) : ∀ n, p ≤ n → f n = false := by
  have hpv : pv f p = false := by
    have := edg_par f p
    rw [hk] at this
    cases h : pv f p with
    | false => rfl
    | true => rw [h] at this; simp at this
  intro n hn
  rcases nxt0 f p (1025 - p) with ⟨a, h1, h2, h3, h4⟩ | h
  · have ha := (edg_at h1 (q := 1025) (by omega) h3 h4).1
    unfold E at hlt
    omega
  · rw [show p + (1025 - p) = 1025 by omega] at h
    rcases Nat.lt_or_ge n 1024 with h2 | h2
    · rw [h.val hn (by omega), hpv]
    · exact hf n h2
/-- One row more. -/
theorem edg_block {h : Nat → Bool} {p a b c : Nat} (h0 : pv h p = false) (hpa : p ≤ a) (hab : a < b) (hbc : b ≤ c) (h1 : ∀ n, p ≤ n → n < a → h n = false) (h2 : ∀ n, a ≤ n → n < b → h n = true) (h3 : ∀ n, b ≤ n → n ≤ c → h n = false) :
    edg h (c + 1) = edg h p ++ [a, b] ∧ pv h (c + 1) = false := by
  have s1 := stay_of h0 h1
  have e1 : h a ≠ pv h a := by rw [s1.pv hpa, h0, h2 a (Nat.le_refl _) hab]; decide
  have s2 : Stay h (a + 1) b := stay_of (b := true) (h2 a (Nat.le_refl _) hab) (fun n n1 n2 => h2 n (by omega) n2)
  have e2 : h b ≠ pv h b := by rw [s2.pv hab, show pv h (a + 1) = true from h2 a (Nat.le_refl _) hab, h3 b (Nat.le_refl _) hbc]; decide
  have s3 : Stay h (b + 1) (c + 1) := stay_of (b := false) (h3 b (Nat.le_refl _) hbc) (fun n n1 n2 => h3 n (by omega) (by omega))
  exact ⟨by rw [s3.edg (by omega), edg_turn e2, s2.edg hab, edg_turn e1, s1.edg hpa, List.append_assoc]; rfl, h3 c hbc (Nat.le_refl _)⟩
/-- A set's numbers below p, rising. -/
def nums (f : Nat → Bool) (p : Nat) : List Nat := (List.range p).filter f
theorem nums_succ (f : Nat → Bool) (p : Nat) : nums f (p + 1) = nums f p ++ if f p then [p] else [] := by
  unfold nums
  rw [List.range_succ, List.filter_append]
  congr 1
  cases h : f p <;> simp [h]
theorem nums_no {f : Nat → Bool} {p : Nat} : ∀ {d : Nat}, (∀ n, p ≤ n → n < p + d → f n = false) → nums f (p + d) = nums f p
  | 0, _ => rfl
  | d + 1, h => by
    rw [← Nat.add_assoc, nums_succ, h (p + d) (by omega) (by omega), nums_no (fun n h1 h2 => h n h1 (by omega))]
    simp
theorem nums_none {f : Nat → Bool} {p q : Nat} (hpq : p ≤ q) (h : ∀ n, p ≤ n → n < q → f n = false) : nums f q = nums f p := by
  obtain ⟨d, rfl⟩ : ∃ d, q = p + d := ⟨q - p, by omega⟩
  exact nums_no h
theorem nums_yes {f : Nat → Bool} {p : Nat} : ∀ {d : Nat}, (∀ n, p ≤ n → n < p + d → f n = true) → (nums f (p + d)).length = (nums f p).length + d
  | 0, _ => rfl
  | d + 1, h => by
    rw [← Nat.add_assoc, nums_succ, h (p + d) (by omega) (by omega), List.length_append, nums_yes (fun n h1 h2 => h n h1 (by omega))]
    rfl
theorem nums_full {f : Nat → Bool} {p q : Nat} (hpq : p ≤ q) (h : ∀ n, p ≤ n → n < q → f n = true) : (nums f q).length = (nums f p).length + (q - p) := by
  obtain ⟨d, rfl⟩ : ∃ d, q = p + d := ⟨q - p, by omega⟩
  rw [nums_yes h]; omega
theorem nums_le (f : Nat → Bool) (p : Nat) : (nums f p).length ≤ p := by
  unfold nums
  have := List.length_filter_le f (List.range p)
  simpa using this
theorem nums_zero {f : Nat → Bool} (h : ∀ n, f n = false) (p : Nat) : nums f p = [] := by
  have := nums_none (f := f) (p := 0) (q := p) (Nat.zero_le _) (fun n _ _ => h n)
  rw [this]; rfl
/-- The first n numbers of f. -/
def fst (f : Nat → Bool) (n : Nat) : Nat → Bool := fun m => f m && decide ((nums f m).length < n)
theorem fst_lim {f : Nat → Bool} (h : Lim f) (n : Nat) : Lim (fst f n) := fun m hm => by unfold fst; rw [h m hm]; rfl
theorem fst_nums (f : Nat → Bool) (n : Nat) : ∀ p, nums (fst f n) p = (nums f p).take n
  | 0 => by simp [nums]
  | p + 1 => by
    rw [nums_succ, nums_succ, fst_nums f n p]
    unfold fst
    cases h : f p with
    | false => simp
    | true =>
      by_cases hl : (nums f p).length < n
      · have e1 : (nums f p).take n = nums f p := List.take_of_length_le (by omega)
        have e2 : (nums f p ++ [p]).take n = nums f p ++ [p] := List.take_of_length_le (by simp; omega)
        simp [hl, e1, e2]
      · have e2 : (nums f p ++ [p]).take n = (nums f p).take n := List.take_append_of_le_length (by omega)
        simp [hl, e2]
/-- What was laid so far, as rows: the last one goes on to the end, if the set does. -/
def pad (h : Nat → Bool) (p : Nat) : List Nat := edg h p ++ if pv h p then [1024] else []
theorem pad_end {h : Nat → Bool} (hl : Lim h) : pad h 1024 = E h := by
  have h4 := hl 1024 (Nat.le_refl _)
  show edg h 1024 ++ _ = edg h (1024 + 1)
  cases hp : pv h 1024 with
  | false => rw [edg_same (p := 1024) (by rw [h4, hp])]; simp
  | true => rw [edg_turn (p := 1024) (by rw [h4, hp]; decide)]; rfl
theorem pad_stay {h : Nat → Bool} {p q : Nat} (hs : Stay h p q) (hpq : p ≤ q) : pad h q = pad h p := by unfold pad; rw [hs.edg hpq, hs.pv hpq]
theorem pad_same {h : Nat → Bool} {x : Nat} (e : h x = pv h x) : pad h (x + 1) = pad h x := by
  unfold pad
  rw [edg_same e]
  show _ ++ (if h x then _ else _) = _
  rw [e]
theorem pad_off {h : Nat → Bool} {x : Nat} (e : pv h x = true) (e2 : h x = false) : pad h x = edg h x ++ [1024] ∧ pad h (x + 1) = edg h x ++ [x] := by
  unfold pad
  refine ⟨by rw [e]; rfl, ?_⟩
  rw [edg_turn (by rw [e, e2]; decide)]
  show _ ++ (if h x then _ else _) = _
  rw [e2]; simp
theorem pad_on {h : Nat → Bool} {x : Nat} (e : pv h x = false) (e2 : h x = true) : pad h x = edg h x ∧ pad h (x + 1) = edg h x ++ [x, 1024] := by
  unfold pad
  refine ⟨by rw [e]; simp, ?_⟩
  rw [edg_turn (by rw [e, e2]; decide)]
  show _ ++ (if h x then _ else _) = _
  rw [e2]; simp
theorem pad_even (h : Nat → Bool) (p : Nat) : (pad h p).length % 2 = 0 := by
  have := edg_par h p
  unfold pad
  cases e : pv h p <;> rw [e] at this <;> simp at this ⊢ <;> omega
/-- The document's rows, number by number. -/
def rws (h : Nat → Bool) (p : Nat) : List Nat := edg h p ++ if pv h p then [p] else []
theorem rws_end {h : Nat → Bool} (hl : Lim h) : rws h 1024 = E h := pad_end hl
theorem rws_no {h : Nat → Bool} {x : Nat} (e : h x = false) : rws h (x + 1) = rws h x := by
  unfold rws
  show _ ++ (if h x then _ else _) = _
  cases hp : pv h x with
  | false => rw [edg_same (by rw [e, hp]), e]; simp
  | true => rw [edg_turn (by rw [e, hp]; decide), e]; simp
theorem rws_on {h : Nat → Bool} {x : Nat} (e : h x = true) (hp : pv h x = true) : rws h x = edg h x ++ [x] ∧ rws h (x + 1) = edg h x ++ [x + 1] := by
  unfold rws
  refine ⟨by rw [hp]; rfl, ?_⟩
  show _ ++ (if h x then _ else _) = _
  rw [edg_same (by rw [e, hp]), e]; rfl
theorem rws_new {h : Nat → Bool} {x : Nat} (e : h x = true) (hp : pv h x = false) : rws h x = edg h x ∧ rws h (x + 1) = edg h x ++ [x, x + 1] := by
  unfold rws
  refine ⟨by rw [hp]; simp, ?_⟩
  show _ ++ (if h x then _ else _) = _
  rw [edg_turn (by rw [e, hp]; decide), e]; simp
theorem rws_even (h : Nat → Bool) (p : Nat) : (rws h p).length % 2 = 0 := by
  have := edg_par h p
  unfold rws
  cases e : pv h p <;> rw [e] at this <;> simp at this ⊢ <;> omega
/-- Two sets laid together by a rule. -/
def lay (r : Bool → Bool → Bool) (f g : Nat → Bool) : Nat → Bool := fun n => r (f n) (g n)
theorem lay_lim {r : Bool → Bool → Bool} (hr : r false false = false) {f g : Nat → Bool} (hf : Lim f) (hg : Lim g) : Lim (lay r f g) := fun n hn => by unfold lay; rw [hf n hn, hg n hn, hr]
theorem lay_pv {r : Bool → Bool → Bool} (hr : r false false = false) (f g : Nat → Bool) (p : Nat) : pv (lay r f g) p = r (pv f p) (pv g p) := by
  cases p with
  | zero => exact hr.symm
  | succ n => rfl
theorem lay_stay {r : Bool → Bool → Bool} (hr : r false false = false) {f g : Nat → Bool} {p q : Nat} (hf : Stay f p q) (hg : Stay g p q) : Stay (lay r f g) p q := fun n h1 h2 => by
  rw [lay_pv hr, ← hf n h1 h2, ← hg n h1 h2]; rfl
/-- How many turns there are up to the next place. -/
theorem cnt_next {f : Nat → Bool} {p x : Nat} (hp : p ≤ 1024) (hx : x < 1024) (hpx : p ≤ x) (hle : x ≤ ed f (edg f p).length) : (edg f (x + 1)).length = (if ed f (edg f p).length = x then (edg f p).length + 1 else (edg f p).length) := by
  obtain ⟨h1, h2, h3⟩ := nxt (f := f) hp
  have hs := h2.less hle
  by_cases e : ed f (edg f p).length = x
  · rw [if_pos e, edg_turn (by have := h3 (by omega); rwa [e] at this), List.length_append, hs.edg hpx]; rfl
  · rw [if_neg e, edg_same (h2 x hpx (by omega)), hs.edg hpx]
theorem par_is (f : Nat → Bool) (x : Nat) : (((edg f (x + 1)).length % 2 : Nat) == 1) = f x := by
  have := edg_par f (x + 1)
  rw [this]
  show ((f x).toNat == 1) = f x
  cases f x <;> rfl
/-- A number is of a set just if so many turns are ahead of it. -/
theorem has_yes {f : Nat → Bool} {i m : Nat} (hi : i * 2 + 1 < (E f).length) (h1 : ed f (i * 2) ≤ m) (h2 : m < ed f (i * 2 + 1)) : f m = true := by
  have hm := ed_le (f := f) (i * 2 + 1)
  have k1 := (edg_idx f (q := m + 1) (P := 1025) (by omega) (j := i * 2) (by unfold E at hi; omega)).1 (by show ed f (i * 2) < m + 1; omega)
  have k2 : ¬ i * 2 + 1 < (edg f (m + 1)).length := fun h => by
    have := (edg_idx f (q := m + 1) (P := 1025) (by omega) (j := i * 2 + 1) hi).2 h
    have e : ed f (i * 2 + 1) < m + 1 := this
    omega
  have := par_is f m
  rw [show (edg f (m + 1)).length = i * 2 + 1 by omega] at this
  rw [← this]
  simp
theorem has_no {f : Nat → Bool} (hf : Lim f) {i n m : Nat} (hn : (E f).length = n * 2) (hin : i ≤ n) (h1 : ∀ k, k < i → ed f (k * 2 + 1) ≤ m) (h2 : i < n → m < ed f (i * 2)) : f m = false := by
  rcases Nat.lt_or_ge m 1024 with hm | hm
  · have k1 : i * 2 ≤ (edg f (m + 1)).length := by
      rcases Nat.eq_zero_or_pos i with rfl | hi
      · omega
      · have := (edg_idx f (q := m + 1) (P := 1025) (by omega) (j := (i - 1) * 2 + 1) (by unfold E at hn; omega)).1 (by have := h1 (i - 1) (by omega); show ed f ((i - 1) * 2 + 1) < m + 1; omega)
        omega
    have k2 : (edg f (m + 1)).length ≤ i * 2 := by
      rcases Nat.lt_or_ge i n with h | h
      · rcases Nat.lt_or_ge (i * 2) (edg f (m + 1)).length with h3 | h3
        · have := (edg_idx f (q := m + 1) (P := 1025) (by omega) (j := i * 2) (by unfold E at hn; omega)).2 h3
          have e : ed f (i * 2) < m + 1 := this
          have := h2 h
          omega
        · exact h3
      · obtain rfl : i = n := by omega
        obtain ⟨t, ht, _⟩ := edg_pre f (m + 1) (1025 - (m + 1))
        rw [show m + 1 + (1025 - (m + 1)) = 1025 by omega] at ht
        unfold E at hn
        rw [ht, List.length_append] at hn
        omega
    have := par_is f m
    rw [show (edg f (m + 1)).length = i * 2 by omega] at this
    rw [← this]
    simp
  · exact hf m hm
theorem ends_inc {f : Nat → Bool} {i j n : Nat} (hn : (E f).length = n * 2) (hij : i < j) (hj : j < n) : ed f (i * 2 + 1) < ed f (j * 2 + 1) :=
  edg_inc f (P := 1025) (by omega) (by unfold E at hn; omega)
/-- One row of numbers. -/
def one (a b : Int) : Nat → Bool := fun n => decide (n < 1024) && decide (a ≤ n) && decide ((n : Int) < b)
theorem one_lim (a b : Int) : Lim (one a b) := fun n hn => by unfold one; rw [decide_eq_false (by omega)]; rfl
theorem E_none {f : Nat → Bool} (h : ∀ n, f n = false) : E f = [] := by
  have := (stay_of (f := f) (p := 0) (q := 1025) (b := false) rfl (fun n _ _ => h n)).edg (Nat.zero_le _)
  exact this
theorem E_one {f : Nat → Bool} {a b : Nat} (hab : a < b) (hb : b ≤ 1024) (h : ∀ n, f n = (decide (a ≤ n) && decide (n < b))) : E f = [a, b] := by
  have := (edg_block (h := f) (p := 0) (a := a) (b := b) (c := 1024) rfl (Nat.zero_le _) hab hb (fun n _ h2 => by rw [h, decide_eq_false (by omega)]; rfl) (fun n h1 h2 => by rw [h, decide_eq_true h1, decide_eq_true h2]; rfl) (fun n h1 _ => by rw [h, decide_eq_false (show ¬ n < b by omega), Bool.and_false])).1
  exact this
theorem one_none {a b : Int} (h : min b 1024 ≤ max a 0) (n : Nat) : one a b n = false := by
  unfold one
  by_cases h1 : n < 1024
  · by_cases h2 : a ≤ n
    · rw [decide_eq_false (show ¬ (n : Int) < b by omega), Bool.and_false]
    · rw [decide_eq_false h2, Bool.and_false, Bool.false_and]
  · rw [decide_eq_false h1]; rfl
theorem one_some {a b : Int} {p q : Nat} (hp : max a 0 = (p : Int)) (hq : min b 1024 = (q : Int)) (n : Nat) : one a b n = (decide (p ≤ n) && decide (n < q)) := by
  unfold one
  by_cases h1 : n < q
  · rw [decide_eq_true h1, Bool.and_true, decide_eq_true (show n < 1024 by omega), Bool.true_and, decide_eq_true (show (n : Int) < b by omega), Bool.and_true]
    exact decide_eq_decide.2 (by omega)
  · rw [decide_eq_false h1, Bool.and_false]
    by_cases h2 : n < 1024
    · rw [decide_eq_false (show ¬ (n : Int) < b by omega), Bool.and_false]
    · rw [decide_eq_false h2]; rfl
/-- The first n numbers, row by row. -/
theorem fst_row {f : Nat → Bool} {p a b n : Nat} (h1 : ∀ m, p ≤ m → m < a → f m = false) (h2 : ∀ m, a ≤ m → m < b → f m = true) (h3 : f b = false) (hpa : p ≤ a) (hab : a < b) (hp : pv (fst f n) p = false) (hc : (nums f p).length < n) :
    edg (fst f n) (b + 1) = edg (fst f n) p ++ [a, a + min (n - (nums f p).length) (b - a)] ∧ pv (fst f n) (b + 1) = false := by
  have ha : nums f a = nums f p := nums_none hpa h1
  have hm : ∀ m, a ≤ m → m ≤ b → (nums f m).length = (nums f p).length + (m - a) := fun m m1 m2 => by rw [nums_full m1 (fun k k1 k2 => h2 k k1 (by omega)), ha]
  refine edg_block hp hpa (by omega) (by omega) (fun m m1 m2 => by unfold fst; rw [h1 m m1 m2]; rfl) (fun m m1 m2 => ?_) (fun m m1 m2 => ?_)
  · unfold fst
    rw [h2 m m1 (by omega), hm m m1 (by omega), decide_eq_true (by omega)]; rfl
  · unfold fst
    by_cases e : m = b
    · rw [e, h3]; rfl
    · rw [h2 m (by omega) (by omega), hm m (by omega) (by omega), decide_eq_false (by omega)]; rfl
theorem fst_over {f : Nat → Bool} {p n : Nat} (hp : pv (fst f n) p = false) (h5 : p ≤ 1025) (hc : n ≤ (nums f p).length ∨ ∀ m, p ≤ m → f m = false) : E (fst f n) = edg (fst f n) p := by
  refine (stay_of (b := false) hp (fun m m1 m2 => ?_)).edg h5
  unfold fst
  rcases hc with hc | hc
  · have : (nums f p).length ≤ (nums f m).length := by
      obtain ⟨d, rfl⟩ : ∃ d, m = p + d := ⟨m - p, by omega⟩
      unfold nums
      rw [List.range_add, List.filter_append, List.length_append]
      omega
    rw [decide_eq_false (by omega), Bool.and_false]
  · rw [hc m m1]; rfl
end Go.Proofs.Ytlppfcoclpdanaa.Sn
