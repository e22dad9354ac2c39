/-
  Layer 17 (abort): wants and lists of them, plainly; wants as cells; rows of wants in memory. Nothing of the program is named here.
-/
import Derived.Test.YtfopmdiepaonnaaWhole
import Derived.Test.YtfopmdiepaonnaaMaskMath
namespace Go.Proofs.Ytfopmdiepaonnaa.Ao
open Go.RowKit
set_option linter.unusedVariables false

theorem hid {p : Prop} (h : p) : Hid p := h
/-- A want: whose, of which kind, its name, the turns that are left. -/
structure Wn where
  e : Int
  k : Int
  n : Int
  t : Int
  deriving DecidableEq
def nw : Wn := ⟨0, 0, 0, 0⟩
def Wn.at_ (a : Wn) : Nat → Int
  | 0 => a.e
  | 1 => a.k
  | 2 => a.n
  | _ => a.t
def Wn.vs (a : Wn) : List Value := [.int .i64 a.e, .int .i64 a.k, .int .i64 a.n, .int .i64 a.t]
theorem Wn.vs_get (a : Wn) (r : Nat) (h : r < 4) : a.vs[r]? = some (.int .i64 (a.at_ r)) := by
  match r, h with
  | 0, _ => rfl
  | 1, _ => rfl
  | 2, _ => rfl
  | 3, _ => rfl
theorem vs_one (a : Wn) : ∀ u ∈ a.vs, u.oneCell' = true := by
  intro u hu
  simp only [Wn.vs, List.mem_cons, List.not_mem_nil, or_false] at hu
  rcases hu with rfl | rfl | rfl | rfl <;> rfl
/-- Wants as cells. -/
def wl : List Wn → List Value
  | [] => []
  | a :: r => a.vs ++ wl r
theorem wl_len : ∀ l : List Wn, (wl l).length = l.length * 4
  | [] => rfl
  | a :: r => by rw [wl, List.length_append, wl_len r]; simp [Wn.vs]; omega
theorem wl_app : ∀ l k : List Wn, wl (l ++ k) = wl l ++ wl k
  | [], k => rfl
  | a :: r, k => by rw [List.cons_append, wl, wl, wl_app r k, List.append_assoc]
theorem wl_one : ∀ l : List Wn, ∀ u ∈ wl l, u.oneCell' = true
  | [], u, hu => by cases hu
  | a :: r, u, hu => by
    rw [wl, List.mem_append] at hu
    rcases hu with h | h
    · exact vs_one a u h
    · exact wl_one r u h
theorem wl_get : ∀ (l : List Wn) (j r : Nat), j < l.length → r < 4 → (wl l)[j * 4 + r]? = some (.int .i64 ((l.getD j nw).at_ r))
  | [], j, r, h, _ => by simp at h
  | a :: l, 0, r, _, hr => by
    rw [wl, List.getElem?_append_left (by simp [Wn.vs]; omega), Nat.zero_mul, Nat.zero_add]
    exact a.vs_get r hr
  | a :: l, j + 1, r, h, hr => by
    have e : a.vs.length = 4 := rfl
    rw [wl, List.getElem?_append_right (by rw [e]; omega), e, show (j + 1) * 4 + r - 4 = j * 4 + r by omega, wl_get l j r (by simpa using h) hr]
    rfl
theorem wl_nil {l : List Wn} (h : l.length = 0) : wl l = [] := by rw [List.eq_nil_of_length_eq_zero h]; rfl
theorem wn_ext {a b : Wn} (h : ∀ r, r < 4 → a.at_ r = b.at_ r) : a = b := by
  obtain ⟨e, k, n, t⟩ := a
  obtain ⟨e', k', n', t'⟩ := b
  have h0 := h 0 (by omega)
  have h1 := h 1 (by omega)
  have h2 := h 2 (by omega)
  have h3 := h 3 (by omega)
  simp only [Wn.at_] at h0 h1 h2 h3
  subst h0; subst h1; subst h2; subst h3
  rfl
/-- Wants that lie at A. -/
def Li (w : World) (A : Option Addr) (l : List Wn) : Prop := l = [] ∨ ∃ g off, A = some ⟨g, off, none⟩ ∧ g < w.heap.size ∧ w.rangeAt g off (wl l)
theorem Li.keep {w w' : World} {A : Option Addr} {l : List Wn} (h : Li w A l) (k : But [] w w') : Li w' A l := by
  rcases h with h0 | ⟨g, off, e, h1, h2⟩
  · exact .inl h0
  · exact .inr ⟨g, off, e, Nat.lt_of_lt_of_le h1 k.size, range_keep h2 k (by simp)⟩
theorem row_at {w : World} {g off : Nat} {l : List Wn} (h : w.rangeAt g off (wl l)) {k : Nat} (hk : k < l.length) : w.rangeAt g (off + k * 4) (l.getD k nw).vs := fun j v hv => by
  have hj : j < 4 := (List.getElem?_eq_some_iff.1 hv).1
  rw [Wn.vs_get _ _ hj] at hv
  have := h (k * 4 + j) v (by rw [wl_get l k j hk hj]; exact hv)
  rwa [← Nat.add_assoc] at this
theorem Li.at_ {w : World} {A : Option Addr} {l : List Wn} (h : Li w A l) {k : Nat} (hk : k < l.length) : ∃ g off, A = some ⟨g, off, none⟩ ∧ g < w.heap.size ∧ ∀ j, j < l.length → w.rangeAt g (off + j * 4) (l.getD j nw).vs := by
  rcases h with rfl | ⟨g, off, e, h1, h2⟩
  · simp at hk
  · exact ⟨g, off, e, h1, fun j hj => row_at h2 hj⟩
/-- A row of the call's own, as it is read. -/
theorem que_li {w : World} {base n : Nat} {v : Value} {l : List Wn} (h : Que w base 4 v n (wl l)) : ∃ A c, v = .slice A n c ∧ l.length = n ∧ Li w A l := by
  have hl : l.length = n := by have := h.1; rw [wl_len] at this; omega
  rcases h.2 with ⟨rfl, rfl⟩ | ⟨g, off, cap, rfl, hb, hg, hnc, hcm, hth, hr⟩
  · exact ⟨_, _, rfl, hl, .inl (List.eq_nil_of_length_eq_zero hl)⟩
  · exact ⟨_, _, rfl, hl, .inr ⟨g, off, rfl, hg, hr⟩⟩
theorem que_lower {w : World} {base base' size n : Nat} {v : Value} {xs : List Value} (h : Que w base size v n xs) (hb : base' ≤ base) : Que w base' size v n xs := by
  refine ⟨h.1, ?_⟩
  rcases h.2 with h0 | ⟨g, off, cap, rfl, hb', hg, hr⟩
  · exact .inl h0
  · exact .inr ⟨g, off, cap, rfl, by omega, hg, hr⟩
/-- Wants that lie at A, not in block b. -/
def Xa (w : World) (b : Nat) (A : Option Addr) (l : List Wn) : Prop := l = [] ∨ ∃ g off, A = some ⟨g, off, none⟩ ∧ g ≠ b ∧ g < w.heap.size ∧ w.rangeAt g off (wl l)
theorem Xa.keep {w w' : World} {b : Nat} {A : Option Addr} {l : List Wn} (h : Xa w b A l) {ks : List Nat} (k : But ks w w') (hk : ∀ i ∈ ks, i = b) : Xa w' b A l := by
  rcases h with h | ⟨g, off, e, h1, h2, h3⟩
  · exact .inl h
  · exact .inr ⟨g, off, e, h1, Nat.lt_of_lt_of_le h2 k.size, range_keep h3 k (fun hm => h1 (hk g hm))⟩
theorem Xa.li {w : World} {b : Nat} {A : Option Addr} {l : List Wn} (h : Xa w b A l) : Li w A l := by
  rcases h with h | ⟨g, off, e, h1, h2, h3⟩
  · exact .inl h
  · exact .inr ⟨g, off, e, h2, h3⟩
theorem que_xa {w : World} {lo b n : Nat} {v : Value} {l : List Wn} (h : Que w lo 4 v n (wl l)) (hb : b < lo) : ∃ A c, v = .slice A n c ∧ l.length = n ∧ n ≤ c ∧ Xa w b A l := by
  have hl : l.length = n := by have := h.1; rw [wl_len] at this; omega
  rcases h.2 with ⟨rfl, rfl⟩ | ⟨g, off, cap, rfl, hb', hg, hnc, hcm, hth, hr⟩
  · exact ⟨_, _, rfl, hl, Nat.le_refl _, .inl (List.eq_nil_of_length_eq_zero hl)⟩
  · exact ⟨_, _, rfl, hl, hnc, .inr ⟨g, off, rfl, by omega, hg, hr⟩⟩
theorem take_snoc (l : List Wn) (j : Nat) (h : j < l.length) : l.take (j + 1) = l.take j ++ [l.getD j nw] := by
  rw [List.take_add_one]
  simp [List.getD, h]
theorem filt_snoc (p : Wn → Bool) (l : List Wn) (j : Nat) (h : j < l.length) : (l.take (j + 1)).filter p = if p (l.getD j nw) = true then (l.take j).filter p ++ [l.getD j nw] else (l.take j).filter p := by
  rw [take_snoc l j h, List.filter_append]
  by_cases hp : p (l.getD j nw) = true
  · rw [if_pos hp, List.filter_cons_of_pos hp]; rfl
  · rw [if_neg hp, List.filter_cons_of_neg hp]; simp
theorem getD_mem {l : List Wn} {j : Nat} (h : j < l.length) : l.getD j nw ∈ l := by
  rw [List.getD_eq_getElem?_getD, List.getElem?_eq_getElem h]
  exact List.getElem_mem h
theorem mem_getD {l : List Wn} {a : Wn} (h : a ∈ l) : ∃ j, j < l.length ∧ l.getD j nw = a := by
  obtain ⟨j, hj, rfl⟩ := List.mem_iff_getElem.1 h
  exact ⟨j, hj, by simp [List.getD, hj]⟩
theorem any_hit {p : Wn → Bool} {l : List Wn} {j : Nat} (h : j < l.length) (hp : p (l.getD j nw) = true) : l.any p = true := List.any_eq_true.2 ⟨_, getD_mem h, hp⟩
theorem any_no {p : Wn → Bool} {l : List Wn} (h : ∀ q, q < l.length → p (l.getD q nw) = false) : l.any p = false := by
  rw [List.any_eq_false]
  intro a ha
  obtain ⟨j, hj, rfl⟩ := mem_getD ha
  rw [h j hj]
  simp
/-- May such a want be? -/
def mb (a : Wn) : Bool := decide (0 ≤ a.e) && decide (a.e ≤ 15) && decide (0 ≤ a.k) && decide (a.k ≤ 3) && decide (0 ≤ a.n) && decide (a.n ≤ 511) && decide (1 ≤ a.t) && decide (a.t ≤ 100)
theorem mb_iff {a : Wn} : mb a = true ↔ 0 ≤ a.e ∧ a.e ≤ 15 ∧ 0 ≤ a.k ∧ a.k ≤ 3 ∧ 0 ≤ a.n ∧ a.n ≤ 511 ∧ 1 ≤ a.t ∧ a.t ≤ 100 := by
  unfold mb
  simp only [Bool.and_eq_true, decide_eq_true_eq, and_assoc]
/-- Which wants are meant. -/
def key (e k n : Int) (a : Wn) : Bool := a.e == e && a.k == k && a.n == n
def ofE (e : Int) (a : Wn) : Bool := a.e == e
def ofK (e k : Int) (a : Wn) : Bool := a.e == e && a.k == k
def z0 (a : Wn) : Bool := a.t == 0
def wth (e k n : Int) (a : Wn) : Bool := a.e == e && (decide (k < 0) || a.k == k && a.n == n)
theorem key_iff {e k n : Int} {a : Wn} : key e k n a = true ↔ a.e = e ∧ a.k = k ∧ a.n = n := by simp [key, and_assoc]
theorem ofK_iff {e k : Int} {a : Wn} : ofK e k a = true ↔ a.e = e ∧ a.k = k := by simp [ofK]
/-- A list as it can come about. -/
def Ok (l : List Wn) : Prop := l.length ≤ 64 ∧ ∀ a ∈ l, mb a = true
theorem Ok.nil : Ok [] := ⟨by simp, fun a h => by cases h⟩
theorem Ok.filter {l : List Wn} (h : Ok l) (p : Wn → Bool) : Ok (l.filter p) := ⟨Nat.le_trans (List.length_filter_le _ _) h.1, fun a ha => h.2 a (List.mem_filter.1 ha).1⟩
/-- What Ask answers, and the list behind it. -/
def askC (l : List Wn) (a : Wn) : Int := if mb a = false then 1 else if l.any (key a.e a.k a.n) = true then 4 else if l.length = 64 then 7 else 0
def askL (l : List Wn) (a : Wn) : List Wn := if askC l a = 0 then l ++ [a] else l
theorem ask_may {l : List Wn} {a : Wn} (h : mb a = false) : askC l a = 1 ∧ askL l a = l := by
  have e : askC l a = 1 := if_pos h
  exact ⟨e, by unfold askL; rw [e]; rfl⟩
theorem ask_is {l : List Wn} {a : Wn} (h : mb a = true) (h1 : l.any (key a.e a.k a.n) = true) : askC l a = 4 ∧ askL l a = l := by
  have e : askC l a = 4 := by unfold askC; rw [h, if_neg (by simp), if_pos h1]
  exact ⟨e, by unfold askL; rw [e]; rfl⟩
theorem ask_full {l : List Wn} {a : Wn} (h : mb a = true) (h1 : l.any (key a.e a.k a.n) = false) (h2 : l.length = 64) : askC l a = 7 ∧ askL l a = l := by
  have e : askC l a = 7 := by unfold askC; rw [h, if_neg (by simp), h1, if_neg (by simp), if_pos h2]
  exact ⟨e, by unfold askL; rw [e]; rfl⟩
theorem ask_ok {l : List Wn} {a : Wn} (h : mb a = true) (h1 : l.any (key a.e a.k a.n) = false) (h2 : l.length ≠ 64) : askC l a = 0 ∧ askL l a = l ++ [a] := by
  have e : askC l a = 0 := by unfold askC; rw [h, if_neg (by simp), h1, if_neg (by simp), if_neg h2]
  exact ⟨e, by unfold askL; rw [e]; rfl⟩
theorem ask_inv {l : List Wn} {a : Wn} (h : askC l a = 0) : mb a = true ∧ l.any (key a.e a.k a.n) = false ∧ l.length ≠ 64 := by
  cases h1 : mb a with
  | false => rw [(ask_may h1).1] at h; cases h
  | true =>
    cases h2 : l.any (key a.e a.k a.n) with
    | true => rw [(ask_is h1 h2).1] at h; cases h
    | false =>
      by_cases h3 : l.length = 64
      · rw [(ask_full h1 h2 h3).1] at h; cases h
      · exact ⟨rfl, rfl, h3⟩
theorem Ok.ask {l : List Wn} (h : Ok l) (a : Wn) : Ok (askL l a) := by
  unfold askL
  split
  · rename_i h0
    obtain ⟨h1, h2, h3⟩ := ask_inv h0
    refine ⟨by have := h.1; simp; omega, fun b hb => ?_⟩
    rw [List.mem_append, List.mem_singleton] at hb
    rcases hb with hb | rfl
    · exact h.2 b hb
    · exact h1
  · exact h
/-- One turn less. -/
def dc (a : Wn) : Wn := ⟨a.e, a.k, a.n, a.t - 1⟩
def dn (l : List Wn) : List Wn := l.map dc
theorem dn_len (l : List Wn) : (dn l).length = l.length := by simp [dn]
theorem dn_get (l : List Wn) (j : Nat) (h : j < l.length) : (dn l).getD j nw = dc (l.getD j nw) := by simp [dn, List.getD, h]
/-- What stays, what is taken. -/
def tnL (l : List Wn) : List Wn := (dn l).filter fun a => !z0 a
def tnD (l : List Wn) : List Wn := (dn l).filter z0
theorem Ok.turn {l : List Wn} (h : Ok l) : Ok (tnL l) := by
  refine ⟨Nat.le_trans (List.length_filter_le _ _) (by rw [dn_len]; exact h.1), fun a ha => ?_⟩
  obtain ⟨h1, h2⟩ := List.mem_filter.1 ha
  obtain ⟨b, hb, rfl⟩ := List.mem_map.1 h1
  have := mb_iff.1 (h.2 b hb)
  have h3 : b.t - 1 ≠ 0 := by simpa [z0, dc] using h2
  rw [mb_iff]
  show 0 ≤ b.e ∧ b.e ≤ 15 ∧ 0 ≤ b.k ∧ b.k ≤ 3 ∧ 0 ≤ b.n ∧ b.n ≤ 511 ∧ 1 ≤ b.t - 1 ∧ b.t - 1 ≤ 100
  omega
theorem ok_t {l : List Wn} (h : Ok l) {a : Wn} (ha : a ∈ l) : 1 ≤ a.t ∧ a.t ≤ 100 := by
  have := mb_iff.1 (h.2 a ha)
  omega
/-- The document's Turn: less than one is left. -/
theorem turn_lt {l : List Wn} (h : Ok l) : (dn l).filter (fun a => decide (a.t < 1)) = tnD l ∧ (dn l).filter (fun a => !decide (a.t < 1)) = tnL l := by
  have key : ∀ a ∈ dn l, decide (a.t < 1) = z0 a := fun a ha => by
    obtain ⟨b, hb, rfl⟩ := List.mem_map.1 ha
    have := ok_t h hb
    show decide (b.t - 1 < 1) = (b.t - 1 == 0)
    by_cases e : b.t = 1
    · rw [e]; rfl
    · rw [decide_eq_false (by omega)]; symm; simp; omega
  exact ⟨List.filter_congr key, List.filter_congr fun a ha => by rw [key a ha]⟩
/-- The least name; -1: none is. -/
def Fst (l : List Wn) (e k r : Int) : Prop := (r = -1 ∧ l.filter (ofK e k) = []) ∨ ((∃ a ∈ l.filter (ofK e k), a.n = r) ∧ (∀ b ∈ l.filter (ofK e k), r ≤ b.n) ∧ 0 ≤ r)
theorem Fst.one {l : List Wn} {e k r s : Int} (h : Fst l e k r) (h2 : Fst l e k s) : r = s := by
  rcases h with ⟨h1, h3⟩ | ⟨⟨a, ha, h1⟩, h3, h4⟩
  · rcases h2 with ⟨h5, h6⟩ | ⟨⟨b, hb, h5⟩, h6, h7⟩
    · omega
    · rw [h3] at hb; cases hb
  · rcases h2 with ⟨h5, h6⟩ | ⟨⟨b, hb, h5⟩, h6, h7⟩
    · rw [h6] at ha; cases ha
    · have := h3 b hb
      have := h6 a ha
      omega
/-- What is told of a number that is -1 for none. -/
def Pr (r : Int) : Value := .tuple #[.int .i64 (if r < 0 then 0 else r), .bool (decide (0 ≤ r))]
theorem Pr_no : Pr (-1) = .tuple #[.int .i64 0, .bool false] := rfl
theorem Pr_yes {r : Int} (h : 0 ≤ r) : Pr r = .tuple #[.int .i64 r, .bool true] := by unfold Pr; rw [if_neg (by omega), decide_eq_true h]
theorem pr_cases {l : List Wn} {e k r : Int} (h : Fst l e k r) : ∃ (n1 : Int) (b1 : Bool), Pr r = .tuple #[.int .i64 n1, .bool b1] ∧ ((r = -1 ∧ n1 = 0 ∧ b1 = false) ∨ (0 ≤ r ∧ n1 = r ∧ b1 = true)) := by
  rcases h with ⟨h1, -⟩ | ⟨-, -, h1⟩
  · exact ⟨0, false, by rw [h1, Pr_no], .inl ⟨h1, rfl, rfl⟩⟩
  · exact ⟨r, true, Pr_yes h1, .inr ⟨h1, rfl, rfl⟩⟩
/-- Without a name: as by its key; nothing, if the kind is none; without an environment. -/
theorem wth_key {e k n : Int} (h : 0 ≤ k) (l : List Wn) : l.filter (fun a => !wth e k n a) = l.filter (fun a => !key e k n a) :=
  List.filter_congr fun a _ => by
    unfold wth key
    rw [decide_eq_false (by omega)]
    simp [Bool.and_assoc]
theorem wth_env (e n : Int) (l : List Wn) : l.filter (fun a => !wth e (-1) n a) = l.filter (fun a => !ofE e a) :=
  List.filter_congr fun a _ => by
    unfold wth ofE
    simp
theorem key_none {e k n : Int} {l : List Wn} (h : Ok l) (hk : k < 0) : l.filter (key e k n) = [] ∧ l.filter (fun a => !key e k n a) = l := by
  have hf : ∀ a ∈ l, key e k n a = false := fun a ha => by
    have := mb_iff.1 (h.2 a ha)
    rw [Bool.eq_false_iff]
    intro hh
    have := key_iff.1 hh
    omega
  exact ⟨List.filter_eq_nil_iff.2 fun a ha => by rw [hf a ha]; simp, List.filter_eq_self.2 fun a ha => by rw [hf a ha]; rfl⟩
theorem filt_len (p : Wn → Bool) : ∀ l : List Wn, (l.filter p).length + (l.filter fun a => !p a).length = l.length
  | [] => rfl
  | a :: r => by
    have ih := filt_len p r
    cases h : p a with
    | true => rw [List.filter_cons_of_pos h, List.filter_cons_of_neg (by simp [h])]; simp; omega
    | false => rw [List.filter_cons_of_neg (by simp [h]), List.filter_cons_of_pos (by simp [h])]; simp; omega
end Go.Proofs.Ytfopmdiepaonnaa.Ao
