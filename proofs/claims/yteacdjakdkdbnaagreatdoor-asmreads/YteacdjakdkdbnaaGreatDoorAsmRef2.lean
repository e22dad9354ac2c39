/-
  The document's own words for layer 3: Ops, labels, lines and parts.
-/
import Derived.Test.YteacdjakdkdbnaaGreatDoorAsmRef1
import Derived.Maps.AppendAt
namespace Go.Proofs.YteacdjakdkdbnaaGreatDoor
open Go.RowKit
set_option linter.unusedVariables false
set_option linter.unusedSimpArgs false
set_option maxRecDepth 20000

/-- A slice of strings of the call's own. -/
abbrev strsV (l : List Bs) : List Value := l.map fun x => Value.string (BA x)
theorem opNum_hit1 (p : Bs) (k : Nat) (hk : k < 24) (h : ∀ j, j < k → p ≠ opNames.getD (j + 1) []) (he : p = opNames.getD (k + 1) []) : opNum p = k + 1 := by
  refine opNum_hit p (k + 1) (by omega) (fun j hj => ?_) he
  cases j with
  | zero =>
    rw [he]
    have : k = 0 ∨ k = 1 ∨ k = 2 ∨ k = 3 ∨ k = 4 ∨ k = 5 ∨ k = 6 ∨ k = 7 ∨ k = 8 ∨ k = 9 ∨ k = 10 ∨ k = 11 ∨ k = 12 ∨ k = 13 ∨ k = 14 ∨ k = 15 ∨ k = 16 ∨ k = 17 ∨ k = 18 ∨ k = 19 ∨ k = 20 ∨ k = 21 ∨ k = 22 ∨ k = 23 := by omega
    rcases this with rfl | rfl | rfl | rfl | rfl | rfl | rfl | rfl | rfl | rfl | rfl | rfl | rfl | rfl | rfl | rfl | rfl | rfl | rfl | rfl | rfl | rfl | rfl | rfl <;> simp [opNames]
  | succ j => exact h j (by omega)
theorem opNum_miss1 (p : Bs) (h : ∀ j, j < 24 → p ≠ opNames.getD (j + 1) []) : opNum p = 0 := by
  by_cases h0 : p = []
  · subst h0; rfl
  · refine opNum_miss p (fun j hj => ?_)
    cases j with
    | zero => exact h0
    | succ j => exact h j (by omega)
def opsV : Array Value := (opNames.tail.map fun x => Value.string (BA x)).toArray
theorem ops_cell (w : World) (t : TypeId) (k : Nat) (hk : k < 24) : (w.alloc (.cells opsV t)).cell? ⟨w.heap.size, k, none⟩ = some (.string (BA (opNames.getD (k + 1) []))) := by
  have e : (w.alloc (.cells opsV t)).cell? ⟨w.heap.size, k, none⟩ = opsV[k]? := World.cell?_alloc_new _ _ _ _
  rw [e]
  have : k = 0 ∨ k = 1 ∨ k = 2 ∨ k = 3 ∨ k = 4 ∨ k = 5 ∨ k = 6 ∨ k = 7 ∨ k = 8 ∨ k = 9 ∨ k = 10 ∨ k = 11 ∨ k = 12 ∨ k = 13 ∨ k = 14 ∨ k = 15 ∨ k = 16 ∨ k = 17 ∨ k = 18 ∨ k = 19 ∨ k = 20 ∨ k = 21 ∨ k = 22 ∨ k = 23 := by omega
  rcases this with rfl | rfl | rfl | rfl | rfl | rfl | rfl | rfl | rfl | rfl | rfl | rfl | rfl | rfl | rfl | rfl | rfl | rfl | rfl | rfl | rfl | rfl | rfl | rfl <;> rfl

set_option maxHeartbeats 2000000 in
theorem rop_c (p : Bs) (w : World) : Calls Tryz.prog 33 #[.string (BA p)] w fun e w' => e = .returned (.int .i64 (opNum p : Nat)) ∧ Below w.heap.size w w' := by
  go_enter Tryz.func33, Tryz.ntmps33
  go_wp2
  go_loopw [4] (fun i wr => ∃ k : Nat, k ≤ 24 ∧ i = .int .i64 k ∧ Hid (∀ j, j < k → p ≠ opNames.getD (j + 1) []) ∧ wr = w.alloc (.cells opsV 9)) (fun i _ => 24 - (intOf i).toNat)
  case atStart => exact ⟨0, by omega, rfl, fun j hj => absurd hj (by omega), rfl⟩
  case round =>
    obtain ⟨k, hk, rfl, HM, rfl⟩ := hrel
    by_cases hlt : k < 24
    · have hxk := ops_cell w 9 k hlt
      obtain ⟨q, hq⟩ : ∃ q, q = opNames.getD (k + 1) [] := ⟨_, rfl⟩
      rw [← hq] at hxk
      have HQ : Hid _ := hq
      clear hq
      have HB : Hid (Below w.heap.size w (w.alloc (.cells opsV 9))) := (Below.refl _ w).alloc (Nat.le_refl _) _
      obtain ⟨W, hW⟩ : ∃ W, W = w.alloc (.cells opsV 9) := ⟨_, rfl⟩
      have HW : Hid _ := hW
      rw [← hW] at hxk HB ⊢
      clear hW
      by_cases he : p = q
      · have HO : Hid (opNum p = k + 1) := opNum_hit1 p k hlt HM.out (he.trans HQ.out)
        subst he
        go_wp2
        go_ret
        exact ⟨by rw [HO.out]; rfl, HB.out⟩
      · have he' := str_ne (fun h => he (Eq.symm h))
        go_wp2
        go_roundw
        case rel => exact ⟨k + 1, by omega, by go_num, fun j hj => by rcases Nat.lt_succ_iff_lt_or_eq.1 hj with h | h; exact HM.out j h; subst h; rw [← HQ.out]; exact he, by first | exact HW.out | trivial⟩
        case measure => simp [intOf] <;> omega
    · obtain rfl : k = 24 := by omega
      have HO : Hid (opNum p = 0) := opNum_miss1 p HM.out
      go_wp2
      go_ret
      exact ⟨by rw [HO.out]; rfl, (Below.refl _ w).alloc (Nat.le_refl _) _⟩

/-- Labels as cells. -/
def labCells : Labs → List Value
  | [] => []
  | (x, n) :: r => .string (BA x) :: .int .i64 n :: labCells r
theorem labCells_len : ∀ L, (labCells L).length = L.length * 2
  | [] => rfl
  | (x, n) :: r => by simp [labCells, labCells_len r]; omega
theorem labCells_snoc : ∀ (L : Labs) (x : Bs) (n : Nat), labCells (L ++ [(x, n)]) = labCells L ++ [.string (BA x), .int .i64 n]
  | [], _, _ => rfl
  | (y, m) :: r, x, n => by simp [labCells, labCells_snoc r x n]
theorem labCells_at : ∀ (L : Labs) (j : Nat) (x : Bs) (n : Nat), L[j]? = some (x, n) → (labCells L)[j * 2]? = some (.string (BA x)) ∧ (labCells L)[j * 2 + 1]? = some (.int .i64 n)
  | [], j, x, n, h => by simp at h
  | (y, m) :: r, 0, x, n, h => by simp at h; obtain ⟨rfl, rfl⟩ := h; exact ⟨rfl, rfl⟩
  | (y, m) :: r, j + 1, x, n, h => by
    have := labCells_at r j x n (by simpa using h)
    rw [show (j + 1) * 2 = j * 2 + 1 + 1 by omega]
    exact this
/-- Labels, as a slice of the call's own holds them. -/
def LabRow (w : World) (B : Nat) (v : Value) (L : Labs) : Prop := w.ownsRow B 69 2 v L.length (labCells L)
theorem LabRow.at_ {w : World} {B : Nat} {v : Value} {L : Labs} (h : LabRow w B v L) : (L = [] ∧ v = .slice none 0 0) ∨ ∃ g c, v = .slice (some ⟨g, 0, none⟩) L.length c ∧ B ≤ g ∧ g < w.heap.size ∧ ∀ (j : Nat) (x : Bs) (n : Nat), L[j]? = some (x, n) → w.cell? ⟨g, j * 2, none⟩ = some (.string (BA x)) ∧ w.cell? ⟨g, j * 2 + 1, none⟩ = some (.int .i64 n) := by
  obtain ⟨hl, ⟨rfl, h0⟩ | ⟨g, cap, cur, rfl, hg, hh, hnc, hcm, hsz, htk⟩⟩ := h
  · exact .inl ⟨List.length_eq_zero_iff.1 h0, rfl⟩
  · refine .inr ⟨g, cap, rfl, hg, ?_, fun j x n hj => ?_⟩
    · rcases Nat.lt_or_ge g w.heap.size with hlt | hge
      · exact hlt
      · rw [Array.getElem?_eq_none hge] at hh; cases hh
    · obtain ⟨h1, h2⟩ := labCells_at L j x n hj
      rw [← htk, List.getElem?_take] at h1 h2
      constructor
      · split at h1
        · simp only [World.cell?, hh]; simpa using h1
        · cases h1
      · split at h2
        · simp only [World.cell?, hh]; simpa using h2
        · cases h2
theorem lookup_stop : ∀ (L : Labs) (k : Nat) (s : Bs) (n : Nat), L[k]? = some (s, n) → (∀ (j : Nat) (x : Bs) (m : Nat), j < k → L[j]? = some (x, m) → x ≠ s) → L.lookup s = some n
  | [], k, s, n, h, _ => by simp at h
  | (y, m) :: r, 0, s, n, h, _ => by simp at h; obtain ⟨rfl, rfl⟩ := h; simp [List.lookup]
  | (y, m) :: r, k + 1, s, n, h, hn => by
    have h0 : y ≠ s := hn 0 y m (by omega) rfl
    rw [List.lookup_cons, show (s == y) = false from beq_eq_false_iff_ne.2 (fun e => h0 e.symm)]
    exact lookup_stop r k s n (by simpa using h) (fun j x m' hj hx => hn (j + 1) x m' (by omega) (by simpa using hx))
theorem lookup_miss : ∀ (L : Labs) (s : Bs), (∀ (j : Nat) (x : Bs) (m : Nat), L[j]? = some (x, m) → x ≠ s) → L.lookup s = none
  | [], s, _ => rfl
  | (y, m) :: r, s, hn => by
    have h0 : y ≠ s := hn 0 y m rfl
    rw [List.lookup_cons, show (s == y) = false from beq_eq_false_iff_ne.2 (fun e => h0 e.symm)]
    exact lookup_miss r s (fun j x m' hx => hn (j + 1) x m' (by simpa using hx))

set_option maxHeartbeats 2000000 in
theorem rfind_c (B : Nat) (v : Value) (L : Labs) (s : Bs) (w : World) (hv : LabRow w B v L) (hm : L.length ≤ 100000) :
    Calls Tryz.prog 18 #[v, .string (BA s)] w fun e w' => e = .returned (.tuple #[.int .i64 ((L.lookup s).getD 0 : Nat), .bool (L.lookup s).isSome]) ∧ w' = w := by
  obtain ⟨A, c, rfl, HC⟩ : ∃ A c, v = .slice A L.length c ∧ Hid (∀ (j : Nat) (x : Bs) (n : Nat), L[j]? = some (x, n) → ∃ g, A = some ⟨g, 0, none⟩ ∧ w.cell? ⟨g, j * 2, none⟩ = some (.string (BA x)) ∧ w.cell? ⟨g, j * 2 + 1, none⟩ = some (.int .i64 n)) := by
    rcases hv.at_ with ⟨rfl, rfl⟩ | ⟨g, c, rfl, _, hg, hcell⟩
    · exact ⟨none, 0, rfl, fun j x n h => by simp at h⟩
    · exact ⟨_, c, rfl, fun j x n h => ⟨g, rfl, hcell j x n h⟩⟩
  · obtain ⟨n, hn⟩ : ∃ n, n = L.length := ⟨_, rfl⟩
    have HN : Hid _ := hn
    rw [← hn] at hm ⊢
    clear hn hv
    go_enter Tryz.func18, Tryz.ntmps18
    go_wp2
    go_loop [6] (fun i => ∃ k : Nat, k ≤ n ∧ i = .int .i64 k ∧ Hid (∀ (j : Nat) (x : Bs) (m : Nat), j < k → L[j]? = some (x, m) → x ≠ s)) (fun i => n - (intOf i).toNat)
    case atStart => exact ⟨0, by omega, rfl, fun j _ _ hj => absurd hj (by omega)⟩
    case round =>
      obtain ⟨k, hk, rfl, HM⟩ := hrel
      by_cases hlt : k < n
      · obtain ⟨x, m, hx⟩ : ∃ (x : Bs) (m : Nat), L[k]? = some (x, m) := ⟨_, _, List.getElem?_eq_getElem (by have := HN.out; omega)⟩
        obtain ⟨g, rfl, h1, h2⟩ := HC.out k x m hx
        have HX : Hid _ := hx
        clear hx
        by_cases he : x = s
        · have HO : Hid (L.lookup s = some m) := lookup_stop L k s m (by rw [HX.out, he]) HM.out
          subst he
          go_wp2
          go_ret2
          exact ⟨by rw [HO.out]; rfl, rfl⟩
        · have he' := str_ne he
          go_wp2
          go_round
          case rel => exact ⟨k + 1, by omega, by go_num, fun j y m' hj hy => by
            rcases Nat.lt_succ_iff_lt_or_eq.1 hj with h | h
            · exact HM.out j y m' h hy
            · subst h
              have := HX.out
              rw [hy] at this; injection this with this; injection this with this _; rw [this]; exact he⟩
          case measure => simp [intOf] <;> omega
      · obtain rfl : k = n := by omega
        have HO : Hid (L.lookup s = none) := lookup_miss L s (fun j y m hy => HM.out j y m (by have := (List.getElem?_eq_some_iff.1 hy).1; have := HN.out; omega) hy)
        go_wp2
        go_ret2
        exact ⟨by rw [HO.out]; rfl, rfl⟩
end Go.Proofs.YteacdjakdkdbnaaGreatDoor
