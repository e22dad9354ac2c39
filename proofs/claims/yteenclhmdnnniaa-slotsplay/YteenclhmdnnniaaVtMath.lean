/-
  Layer 16 (slots): a vector, plainly (a list of environments, from the one on whose turn it is); numbers as cells. Nothing of the program is named here.
-/
import Derived.Test.YteenclhmdnnniaaWhole
import Derived.Test.YteenclhmdnnniaaMaskMath
namespace Go.Proofs.Yteenclhmdnnniaa.Vt
open Go.RowKit
set_option linter.unusedVariables false

theorem hid {p : Prop} (h : p) : Hid p := h
/-- Numbers as cells. -/
def zi (l : List Int) : List Value := l.map (Value.int .i64)
theorem zi_len (l : List Int) : (zi l).length = l.length := by simp [zi]
theorem zi_get (l : List Int) (j : Nat) (h : j < l.length) : (zi l)[j]? = some (.int .i64 (l.getD j 0)) := by simp [zi, List.getD, h]
theorem zi_app (l k : List Int) : zi (l ++ k) = zi l ++ zi k := by simp [zi]
theorem zi_one (l : List Int) : ∀ u ∈ zi l, u.oneCell' = true := by
  intro u hu
  simp only [zi, List.mem_map] at hu
  obtain ⟨n, _, rfl⟩ := hu
  rfl
theorem zi_take (l : List Int) (n : Nat) : (zi l).take n = zi (l.take n) := by simp [zi, List.map_take]
theorem zi_tail (x : Int) (l : List Int) : zi (x :: l) = .int .i64 x :: zi l := rfl
/-- May there be such an environment? -/
def mb (x : Int) : Bool := decide (0 ≤ x) && decide (x < 16)
theorem mb_iff {x : Int} : mb x = true ↔ 0 ≤ x ∧ x < 16 := by simp [mb]
/-- May slots be? -/
def okB (l : List Int) : Bool := decide (l.length ≤ 32) && l.all mb
theorem okB_iff {l : List Int} : okB l = true ↔ l.length ≤ 32 ∧ ∀ x ∈ l, 0 ≤ x ∧ x < 16 := by
  unfold okB
  rw [Bool.and_eq_true, decide_eq_true_eq, List.all_eq_true]
  exact ⟨fun h => ⟨h.1, fun x hx => mb_iff.1 (h.2 x hx)⟩, fun h => ⟨h.1, fun x hx => mb_iff.2 (h.2 x hx)⟩⟩
/-- What Of makes of a list. -/
def mk (l : List Int) : List Int := if okB l then l else []
theorem mk_ok {l : List Int} (h : okB l = true) : mk l = l := if_pos h
theorem mk_no {l : List Int} (h : okB l = false) : mk l = [] := by unfold mk; rw [h]; rfl
theorem okB_nil : okB [] = true := rfl
theorem okB_mk (l : List Int) : okB (mk l) = true := by
  cases h : okB l with
  | true => rw [mk_ok h]; exact h
  | false => rw [mk_no h]; rfl
theorem okB_len {l : List Int} (h : okB l = true) : l.length ≤ 32 := (okB_iff.1 h).1
theorem okB_at {l : List Int} (h : okB l = true) {j : Nat} (hj : j < l.length) : 0 ≤ l.getD j 0 ∧ l.getD j 0 < 16 := (okB_iff.1 h).2 _ (by simp [List.getD, hj])
/-- The cells of a vector: 32 slots, behind those that there are noughts, and how many there are. -/
def vf (l : List Int) (j : Nat) : Int := if j < 32 then l.getD j 0 else l.length
def vc (l : List Int) : List Value := zi (tab 33 (vf l))
def vv (l : List Int) : Value := .agg (vc l).toArray
theorem vc_len (l : List Int) : (vc l).length = 33 := by simp [vc, zi_len, tab_len]
theorem vc_size (l : List Int) : (vc l).toArray.size = 33 := by simp [vc_len]
theorem vc_get (l : List Int) (j : Nat) (h : j < 33) : (vc l)[j]? = some (.int .i64 (vf l j)) := by
  unfold vc
  rw [zi_get _ _ (by rw [tab_len]; exact h), tab_get _ _ _ h]
theorem vc_one (l : List Int) : ∀ u ∈ vc l, u.oneCell' = true := zi_one _
theorem vc_all (l : List Int) : (vc l).toArray.all (·.oneCell') = true := all_oneCell_toArray (vc_one l)
theorem vf_lo (l : List Int) {j : Nat} (h : j < 32) : vf l j = l.getD j 0 := if_pos h
theorem vf_n (l : List Int) : vf l 32 = l.length := if_neg (by omega)
attribute [irreducible] vc
theorem eq_getD {l k : List Int} (h : l.length = k.length) (hg : ∀ j, j < l.length → l.getD j 0 = k.getD j 0) : l = k := list_ext h hg

/-- The next slot's turn. -/
def rt : List Int → List Int
  | [] => []
  | x :: r => r ++ [x]
theorem rt_len (l : List Int) : (rt l).length = l.length := by cases l <;> simp [rt]
theorem rt_mem {l : List Int} {x : Int} : x ∈ rt l ↔ x ∈ l := by
  cases l with
  | nil => simp [rt]
  | cons a r => simp [rt, or_comm]
theorem rt_ok {l : List Int} (h : okB l = true) : okB (rt l) = true := by
  rw [okB_iff] at h ⊢
  exact ⟨by rw [rt_len]; exact h.1, fun x hx => h.2 x (rt_mem.1 hx)⟩
/-- So many turns on. -/
def rts (l : List Int) : Nat → List Int
  | 0 => l
  | n + 1 => rt (rts l n)
theorem rts_len (l : List Int) : ∀ n, (rts l n).length = l.length
  | 0 => rfl
  | n + 1 => by rw [rts, rt_len, rts_len l n]
theorem rts_ok {l : List Int} (h : okB l = true) : ∀ n, okB (rts l n) = true
  | 0 => h
  | n + 1 => rt_ok (rts_ok h n)
theorem rts_mem {l : List Int} {x : Int} : ∀ n, x ∈ rts l n ↔ x ∈ l
  | 0 => Iff.rfl
  | n + 1 => by rw [rts, rt_mem, rts_mem n]
theorem drop_at (l : List Int) (j : Nat) (h : j < l.length) : l.drop j = l.getD j 0 :: l.drop (j + 1) := by
  rw [List.drop_eq_getElem_cons h]
  simp [List.getD, h]
theorem take_snoc (l : List Int) (j : Nat) (h : j < l.length) : l.take (j + 1) = l.take j ++ [l.getD j 0] := by
  rw [List.take_add_one]
  simp [List.getD, h]
theorem rts_split (l : List Int) : ∀ n, n ≤ l.length → rts l n = l.drop n ++ l.take n
  | 0, _ => by simp [rts]
  | n + 1, h => by
    rw [rts, rts_split l n (by omega), drop_at l n (by omega), take_snoc l n (by omega)]
    simp [rt]
theorem rts_head (l : List Int) (n : Nat) (h : n < l.length) : ∃ r, rts l n = l.getD n 0 :: r := by
  rw [rts_split l n (by omega), drop_at l n h]
  exact ⟨_, rfl⟩
theorem rts_all (l : List Int) : rts l l.length = l := by
  rw [rts_split l _ (Nat.le_refl _)]
  simp
/-- Without an environment. -/
def wo (e : Int) (l : List Int) : List Int := l.filter fun x => !(x == e)
theorem wo_snoc (e x : Int) (l : List Int) : wo e (l ++ [x]) = if x = e then wo e l else wo e l ++ [x] := by
  unfold wo
  rw [List.filter_append]
  by_cases h : x = e <;> simp [h]
theorem wo_take (e : Int) (l : List Int) (j : Nat) (h : j < l.length) : wo e (l.take (j + 1)) = if l.getD j 0 = e then wo e (l.take j) else wo e (l.take j) ++ [l.getD j 0] := by
  rw [take_snoc l j h, wo_snoc]
theorem wo_le (e : Int) (l : List Int) : (wo e l).length ≤ l.length := List.length_filter_le _ _
theorem wo_mem {e x : Int} {l : List Int} (h : x ∈ wo e l) : x ∈ l := (List.mem_filter.1 h).1
theorem wo_ok {e : Int} {l : List Int} (h : okB l = true) : okB (wo e l) = true := by
  rw [okB_iff] at h ⊢
  exact ⟨Nat.le_trans (wo_le e l) h.1, fun x hx => h.2 x (wo_mem hx)⟩
theorem wo_self {e : Int} {l : List Int} (h : ∀ j, j < l.length → l.getD j 0 ≠ e) : wo e l = l := by
  unfold wo
  rw [List.filter_eq_self]
  intro x hx
  obtain ⟨j, hj, rfl⟩ := List.mem_iff_getElem.1 hx
  have := h j hj
  simp [List.getD, hj] at this
  simp [this]
/-- How many slots an environment has. -/
def cnt (e : Int) (l : List Int) : Int := (l.length : Int) - ((wo e l).length : Nat)
theorem cnt_nil (e : Int) : cnt e [] = 0 := rfl
theorem cnt_snoc (e x : Int) (l : List Int) : cnt e (l ++ [x]) = cnt e l + if x = e then 1 else 0 := by
  unfold cnt
  rw [wo_snoc]
  by_cases h : x = e <;> simp [h] <;> omega
theorem cnt_take (e : Int) (l : List Int) (j : Nat) (h : j < l.length) : cnt e (l.take (j + 1)) = cnt e (l.take j) + if l.getD j 0 = e then 1 else 0 := by
  rw [take_snoc l j h, cnt_snoc]
theorem cnt_ge (e : Int) (l : List Int) : 0 ≤ cnt e l := by
  have := wo_le e l
  unfold cnt
  omega
theorem cnt_le (e : Int) (l : List Int) : cnt e l ≤ l.length := by
  unfold cnt
  omega
theorem cnt_pos {e : Int} {l : List Int} (h : e ∈ l) : 0 < cnt e l := by
  have hlt : (wo e l).length < l.length := by
    unfold wo
    rw [List.length_filter_lt_length_iff_exists]
    exact ⟨e, h, by simp⟩
  unfold cnt
  omega
/-- The first place of an environment; how many there are, if there is none. -/
def ix (e : Int) : List Int → Nat
  | [] => 0
  | x :: r => if x = e then 0 else ix e r + 1
theorem ix_eq {e : Int} : ∀ {l : List Int} {j : Nat}, j ≤ l.length → (∀ q, q < j → l.getD q 0 ≠ e) → (j < l.length → l.getD j 0 = e) → ix e l = j
  | [], j, h, _, _ => by simp at h; simp [ix, h]
  | x :: r, 0, _, _, h2 => by
    have := h2 (by simp)
    simp at this
    simp [ix, this]
  | x :: r, j + 1, h, h1, h2 => by
    have h0 := h1 0 (by omega)
    simp at h0
    have := ix_eq (e := e) (l := r) (j := j) (by simpa using h) (fun q hq => by simpa using h1 (q + 1) (by omega)) (fun hj => by simpa using h2 (by simpa using hj))
    simp [ix, h0, this]
theorem ix_le (e : Int) : ∀ l, ix e l ≤ l.length
  | [] => Nat.le_refl _
  | x :: r => by
    have := ix_le e r
    unfold ix
    split <;> simp <;> omega
theorem ix_not (e : Int) : ∀ (l : List Int) (q : Nat), q < ix e l → l.getD q 0 ≠ e
  | [], q, h => by simp [ix] at h
  | x :: r, q, h => by
    unfold ix at h
    split at h
    · omega
    · rename_i hx
      cases q with
      | zero => simpa using hx
      | succ q => simpa using ix_not e r q (by omega)
theorem ix_hit (e : Int) : ∀ (l : List Int), ix e l < l.length → l.getD (ix e l) 0 = e
  | [], h => by simp [ix] at h
  | x :: r, h => by
    unfold ix at h ⊢
    split
    · rename_i hx
      simpa using hx
    · rename_i hx
      rw [if_neg hx] at h
      simpa using ix_hit e r (by simpa using h)
/-- How many turns of others come ahead of an environment's next one; -1: it has no slot. -/
def wt (e : Int) (l : List Int) : Int := if ix e l < l.length then ix e l else -1
theorem wt_hit {e : Int} {l : List Int} {j : Nat} (hj : j < l.length) (h1 : ∀ q, q < j → l.getD q 0 ≠ e) (h2 : l.getD j 0 = e) : wt e l = j := by
  have := ix_eq (e := e) (Nat.le_of_lt hj) h1 (fun _ => h2)
  unfold wt
  rw [this, if_pos hj]
theorem wt_no {e : Int} {l : List Int} (h1 : ∀ q, q < l.length → l.getD q 0 ≠ e) : wt e l = -1 := by
  have := ix_eq (e := e) (Nat.le_refl l.length) h1 (fun h => absurd h (Nat.lt_irrefl _))
  unfold wt
  rw [this, if_neg (Nat.lt_irrefl _)]
theorem wt_cases (e : Int) (l : List Int) : (wt e l = -1 ∧ ∀ q, q < l.length → l.getD q 0 ≠ e) ∨ ∃ j : Nat, j < l.length ∧ wt e l = j ∧ l.getD j 0 = e ∧ ∀ q, q < j → l.getD q 0 ≠ e := by
  by_cases h : ix e l < l.length
  · exact .inr ⟨ix e l, h, if_pos h, ix_hit e l h, ix_not e l⟩
  · refine .inl ⟨if_neg h, fun q hq => ix_not e l q ?_⟩
    omega
attribute [irreducible] wt cnt ix
end Go.Proofs.Yteenclhmdnnniaa.Vt
