/-
  Layer 14 (abi), plainly: the letters of the calls' numbers, what each letter stands for, which numbers are names, what a call is with other names. Nothing of the program is named here.
-/
import Derived.Test.YtecgeoafahohjaaDoorMem
import Derived.WalkKit
namespace Go.Proofs.YtecgeoafahohjaaDoor.Ab
set_option linter.unusedVariables false

abbrev Ls := List UInt8
/-- A string of these letters. -/
def sv (l : Ls) : ByteArray := ⟨l.toArray⟩
theorem sv_size (l : Ls) : (sv l).size = l.length := by simp [sv, ByteArray.size]
theorem sv_list (l : Ls) : (sv l).toList = l := by rw [ByteArray.toList_eq]; simp [sv]
/-- The calls' letters, by their numbers. -/
def tabL : List Ls := [[], [102, 97], [102, 97, 119], [102], [102], [102, 102], [102], [102, 102], [102], [102, 119], [102, 102], [115, 103, 102, 116], [115, 103], [115, 103], [115], [115], [115, 103], [115, 117], [115, 119], [115, 119, 119], [102], [98], [98], [98], [98], [98, 102], [102, 98], [98], [98, 98], [112, 119], [112], [112], [112], [107, 110], [107], [107, 110], [107], [107, 110], [], [], []]
theorem tabL_len : tabL.length = 41 := rfl
/-- Is there such a call? -/
def kn (x : Int) : Bool := decide (1 ≤ x ∧ x ≤ 40)
theorem kn_true {x : Int} (h : kn x = true) : 1 ≤ x ∧ x ≤ 40 := by simpa [kn] using h
theorem kn_false {x : Int} (h : kn x = false) : x < 1 ∨ 40 < x := by simp [kn] at h; omega
/-- A call's letters; none, if there is no such call. -/
def lt (x : Int) : Ls := if kn x = true then tabL.getD x.toNat [] else []
theorem lt_at {k : Nat} (h0 : 1 ≤ k) (h : k ≤ 40) : lt (k : Int) = tabL.getD k [] := by
  have : kn (k : Int) = true := by simp [kn]; omega
  unfold lt
  rw [if_pos this]
  simp
theorem lt_no {x : Int} (h : kn x = false) : lt x = [] := by
  unfold lt
  rw [if_neg (by rw [h]; decide)]
/-- The letter at a place, as a number. -/
def ch (l : Ls) (j : Nat) : Int := ((l.getD j 0).toNat : Int)
/-- Is it one of the eleven letters? -/
def isL (c : Int) : Prop := c = 102 ∨ c = 98 ∨ c = 115 ∨ c = 112 ∨ c = 110 ∨ c = 97 ∨ c = 103 ∨ c = 119 ∨ c = 116 ∨ c = 117 ∨ c = 107
/-- Of which kind the names are that a letter stands for; -1: it stands for none. -/
def kd (c : Int) : Int := if c = 102 then 0 else if c = 98 then 1 else if c = 115 then 2 else if c = 112 then 3 else -1
theorem kd_le (c : Int) : -1 ≤ kd c ∧ kd c ≤ 3 := by
  unfold kd
  repeat' split
  all_goals omega
/-- The least and the greatest number that a letter stands for. -/
def lo (c : Int) : Int := if c = 117 then 1 else 0
def hi (c : Int) : Int := if c = 97 then 15 else if c = 103 then 31 else if c = 119 then 4294967295 else if c = 116 then 1 else if c = 117 then 4096 else if c = 107 then 3 else 511
/-- May a number be, by its letter? -/
def ftB (c n : Int) : Bool := decide (lo c ≤ n ∧ n ≤ hi c)
theorem tab_four : ∀ k, k < 41 → (tabL.getD k []).length ≤ 4 := by decide
theorem lt_four (x : Int) : (lt x).length ≤ 4 := by
  cases h : kn x with
  | false => rw [lt_no h]; simp
  | true =>
    obtain ⟨h1, h2⟩ := kn_true h
    obtain ⟨k, rfl⟩ : ∃ k : Nat, x = k := ⟨x.toNat, by omega⟩
    rw [lt_at (by omega) (by omega)]
    exact tab_four k (by omega)
def isLB (c : UInt8) : Bool := c == 102 || c == 98 || c == 115 || c == 112 || c == 110 || c == 97 || c == 103 || c == 119 || c == 116 || c == 117 || c == 107
theorem isL_of {c : UInt8} (h : isLB c = true) : isL (c.toNat : Int) := by
  unfold isLB at h
  simp only [Bool.or_eq_true, beq_iff_eq, or_assoc] at h
  unfold isL
  rcases h with h | h | h | h | h | h | h | h | h | h | h <;> subst h <;> decide
theorem tab_isL : ∀ k, k < 41 → ((tabL.getD k []).all isLB) = true := by decide
theorem lt_isL (x : Int) (j : Nat) (hj : j < (lt x).length) : isL (ch (lt x) j) := by
  cases h : kn x with
  | false => rw [lt_no h] at hj; simp at hj
  | true =>
    obtain ⟨h1, h2⟩ := kn_true h
    obtain ⟨k, rfl⟩ : ∃ k : Nat, x = k := ⟨x.toNat, by omega⟩
    rw [lt_at (by omega) (by omega)] at hj ⊢
    have := tab_isL k (by omega)
    rw [List.all_eq_true] at this
    have hm := this ((tabL.getD k [])[j]) (List.getElem_mem hj)
    have := isL_of hm
    unfold ch
    rw [List.getD_eq_getElem?_getD, List.getElem?_eq_getElem hj]
    exact this
/-- May a call's first i numbers be? -/
def oneN (l : Ls) (g : Nat → Int) (i : Nat) : Bool := if i < l.length then ftB (ch l i) (g i) else decide (g i = 0)
def argN (l : Ls) (g : Nat → Int) : Nat → Bool
  | 0 => true
  | i + 1 => argN l g i && oneN l g i
theorem argN_mono {l : Ls} {g : Nat → Int} {i : Nat} (h : oneN l g i = false) : ∀ n, i < n → argN l g n = false
  | 0, hn => absurd hn (by omega)
  | n + 1, hn => by
    show (argN l g n && oneN l g n) = false
    rcases Nat.lt_or_ge i n with h1 | h1
    · rw [argN_mono h n h1, Bool.false_and]
    · obtain rfl : i = n := by omega
      rw [h, Bool.and_false]
theorem argN_succ {l : Ls} {g : Nat → Int} {i : Nat} (h : argN l g i = true) (h1 : oneN l g i = true) : argN l g (i + 1) = true := by
  show (argN l g i && oneN l g i) = true
  rw [h, h1, Bool.and_true]
/-- A call's Words are noughts; its Program is the zero one. (Both lie in one list, of 33 numbers.) -/
def wzB (r : List Int) : Bool := decide (∀ i ∈ List.range 16, r.getD i 0 = 0)
def pzB (r : List Int) : Bool := decide (∀ i ∈ List.range 16, r.getD (16 + i) 0 = 0) && decide (r.getD 32 0 = 0)
/-- May a call be? -/
def rgB (x : Int) (g : Nat → Int) (r : List Int) : Bool := kn x && argN (lt x) g 4 && (wzB r || decide (x = 4) || decide (x = 22)) && (pzB r || decide (x = 17))
/-- The names among a call's first i numbers: their places, their kinds. -/
abbrev Nm := Nat × Int
def nmN (l : Ls) : Nat → List Nm
  | 0 => []
  | i + 1 => nmN l i ++ (if 0 ≤ kd (ch l i) then [(i, kd (ch l i))] else [])
def nms (l : Ls) : List Nm := nmN l l.length
theorem nmN_yes {l : Ls} {i : Nat} (h : 0 ≤ kd (ch l i)) : nmN l (i + 1) = nmN l i ++ [(i, kd (ch l i))] := by show _ ++ _ = _; rw [if_pos h]
theorem nmN_no {l : Ls} {i : Nat} (h : kd (ch l i) < 0) : nmN l (i + 1) = nmN l i := by show _ ++ _ = _; rw [if_neg (by omega), List.append_nil]
theorem nmN_len (l : Ls) : ∀ i, (nmN l i).length ≤ i
  | 0 => by simp [nmN]
  | i + 1 => by
    have := nmN_len l i
    rcases Int.lt_or_le (kd (ch l i)) 0 with h | h
    · rw [nmN_no h]; omega
    · rw [nmN_yes h]; simp; omega
theorem nmN_lt (l : Ls) : ∀ i, ∀ p ∈ nmN l i, p.1 < i ∧ 0 ≤ p.2 ∧ p.2 ≤ 3
  | 0 => by simp [nmN]
  | i + 1 => by
    intro p hp
    have ih := nmN_lt l i
    rcases Int.lt_or_le (kd (ch l i)) 0 with h | h
    · rw [nmN_no h] at hp
      have := ih p hp
      omega
    · rw [nmN_yes h] at hp
      rcases List.mem_append.1 hp with hp | hp
      · have := ih p hp
        omega
      · simp at hp
        subst hp
        have := kd_le (ch l i)
        exact ⟨by simp, h, this.2⟩
/-- Names, as cells. -/
def nc : List Nm → List Value
  | [] => []
  | p :: L => .int .i64 p.1 :: .int .i64 p.2 :: nc L
theorem nc_len : ∀ L, (nc L).length = L.length * 2
  | [] => rfl
  | p :: L => by simp [nc, nc_len L]; omega
theorem nc_app : ∀ L M, nc (L ++ M) = nc L ++ nc M
  | [], M => rfl
  | p :: L, M => by simp [nc, nc_app L M]
theorem nc_one (L : List Nm) : ∀ v ∈ nc L, v.oneCell' = true := by
  induction L with
  | nil => simp [nc]
  | cons p L ih =>
    intro v hv
    simp only [nc, List.mem_cons] at hv
    rcases hv with rfl | rfl | hv
    · rfl
    · rfl
    · exact ih v hv
theorem nc_get : ∀ (L : List Nm) (m : Nat) (p : Nm), L[m]? = some p → (nc L)[m * 2]? = some (.int .i64 p.1) ∧ (nc L)[m * 2 + 1]? = some (.int .i64 p.2)
  | [], m, p, h => by simp at h
  | q :: L, 0, p, h => by
    simp at h
    subst h
    exact ⟨rfl, rfl⟩
  | q :: L, m + 1, p, h => by
    have := nc_get L m p (by simpa using h)
    rw [show (m + 1) * 2 = m * 2 + 1 + 1 by omega]
    exact ⟨by simpa [nc] using this.1, by simpa [nc] using this.2⟩
/-- One number another. -/
def upd (g : Nat → Int) (a : Nat) (v : Int) : Nat → Int := fun j => if j = a then v else g j
/-- The numbers with other names, by f, the first i letters'; whether all of these mean something, by b. -/
def wn (f : Int → Int → Int) (l : Ls) (g : Nat → Int) : Nat → (Nat → Int)
  | 0 => g
  | i + 1 => if 0 ≤ kd (ch l i) then upd (wn f l g i) i (f (kd (ch l i)) (g i)) else wn f l g i
def okN (b : Int → Int → Bool) (l : Ls) (g : Nat → Int) : Nat → Bool
  | 0 => true
  | i + 1 => okN b l g i && (if 0 ≤ kd (ch l i) then b (kd (ch l i)) (g i) else true)
theorem wn_past (f : Int → Int → Int) (l : Ls) (g : Nat → Int) : ∀ i j, i ≤ j → wn f l g i j = g j
  | 0, j, _ => rfl
  | i + 1, j, h => by
    unfold wn
    split
    · unfold upd
      rw [if_neg (by omega)]
      exact wn_past f l g i j (by omega)
    · exact wn_past f l g i j (by omega)
/-- The same, name by name. -/
def up1 (f : Int → Int → Int) (g : Nat → Int) (h : Nat → Int) (p : Nm) : Nat → Int := upd h p.1 (f p.2 (g p.1))
def upL (f : Int → Int → Int) (g : Nat → Int) (L : List Nm) : Nat → Int := L.foldl (up1 f g) g
def okL (b : Int → Int → Bool) (g : Nat → Int) (L : List Nm) : Bool := L.all (fun p => b p.2 (g p.1))
theorem upL_snoc (f : Int → Int → Int) (g : Nat → Int) (L : List Nm) (p : Nm) : upL f g (L ++ [p]) = upd (upL f g L) p.1 (f p.2 (g p.1)) := by
  unfold upL
  rw [List.foldl_append]
  rfl
theorem okL_snoc (b : Int → Int → Bool) (g : Nat → Int) (L : List Nm) (p : Nm) : okL b g (L ++ [p]) = (okL b g L && b p.2 (g p.1)) := by
  unfold okL
  rw [List.all_append]
  simp
theorem upL_nmN (f : Int → Int → Int) (l : Ls) (g : Nat → Int) : ∀ i, upL f g (nmN l i) = wn f l g i
  | 0 => rfl
  | i + 1 => by
    rcases Int.lt_or_le (kd (ch l i)) 0 with h | h
    · rw [nmN_no h, upL_nmN f l g i]
      unfold wn
      rw [if_neg (by omega)]
      cases i <;> rfl
    · rw [nmN_yes h, upL_snoc, upL_nmN f l g i]
      conv => rhs; unfold wn
      rw [if_pos h]
theorem okL_nmN (b : Int → Int → Bool) (l : Ls) (g : Nat → Int) : ∀ i, okL b g (nmN l i) = okN b l g i
  | 0 => rfl
  | i + 1 => by
    rcases Int.lt_or_le (kd (ch l i)) 0 with h | h
    · rw [nmN_no h, okL_nmN b l g i]
      conv => rhs; unfold okN
      rw [if_neg (by omega), Bool.and_true]
    · rw [nmN_yes h, okL_snoc, okL_nmN b l g i]
      conv => rhs; unfold okN
      rw [if_pos h]
/-- Of the first m names none is the next one's place. -/
theorem nmN_asc (l : Ls) : ∀ i, (nmN l i).Pairwise (fun p q => p.1 < q.1)
  | 0 => by simp [nmN]
  | i + 1 => by
    rcases Int.lt_or_le (kd (ch l i)) 0 with h | h
    · rw [nmN_no h]; exact nmN_asc l i
    · rw [nmN_yes h, List.pairwise_append]
      refine ⟨nmN_asc l i, by simp, fun p hp q hq => ?_⟩
      simp at hq
      subst hq
      exact (nmN_lt l i p hp).1
theorem upL_far (f : Int → Int → Int) (g : Nat → Int) (a : Nat) (L : List Nm) (h : ∀ p ∈ L, p.1 ≠ a) : upL f g L a = g a := by
  have key : ∀ (L : List Nm) (k : Nat → Int), (∀ p ∈ L, p.1 ≠ a) → L.foldl (up1 f g) k a = k a := by
    intro L
    induction L with
    | nil => intro k _; rfl
    | cons p L ih =>
      intro k h
      rw [List.foldl_cons, ih _ (fun q hq => h q (by simp [hq]))]
      unfold up1 upd
      rw [if_neg (fun e => h p (by simp) e.symm)]
  exact key L g h
theorem upL_next (f : Int → Int → Int) (g : Nat → Int) (l : Ls) (m : Nat) (p : Nm) (hp : (nms l)[m]? = some p) : upL f g ((nms l).take m) p.1 = g p.1 := by
  refine upL_far f g p.1 _ fun q hq => ?_
  have hm : m < (nms l).length := (List.getElem?_eq_some_iff.1 hp).1
  have e : nms l = (nms l).take m ++ (nms l).drop m := (List.take_append_drop m _).symm
  have hpw := nmN_asc l l.length
  change (nms l).Pairwise _ at hpw
  rw [e, List.pairwise_append] at hpw
  have hd : p ∈ (nms l).drop m := by
    rw [List.drop_eq_getElem_cons hm]
    rw [List.getElem?_eq_getElem hm] at hp
    simp at hp
    simp [hp]
  have := hpw.2.2 q hq p hd
  omega
theorem okL_false {b : Int → Int → Bool} {g : Nat → Int} {L : List Nm} {p : Nm} (hp : p ∈ L) (h : b p.2 (g p.1) = false) : okL b g L = false := by
  unfold okL
  rw [List.all_eq_false]
  exact ⟨p, hp, by rw [h]; decide⟩
end Go.Proofs.YtecgeoafahohjaaDoor.Ab
