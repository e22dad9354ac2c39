/-
  Layer 11 (names): a table, plainly; its cells; contracts of mark, number and Get, over the translated program.
-/
import Derived.Test.YtfjkbfcfceckgaaSnLay
import Derived.Test.YtfjkbfcfceckgaaHeld
import Derived.Test.YtfjkbfcfceckgaaLast
namespace Go.Proofs.Ytfjkbfcfceckgaa.Nm
open Go.ChangeShapes Go.WideShapes Go.ChangeAt Go.RowKit
open Wh
set_option linter.unusedVariables false
set_option maxRecDepth 20000

/-- What each name means; -1: nothing. -/
abbrev Tf := Nat → Int
def t0 : Tf := fun _ => -1
def tv (T : Tf) : List Value := (List.range 512).map fun j => Value.int .u16 (T j + 1)
theorem tv_len (T : Tf) : (tv T).length = 512 := by simp [tv]
theorem tv_get (T : Tf) (j : Nat) (h : j < 512) : (tv T)[j]? = some (.int .u16 (T j + 1)) := by simp [tv, h]
theorem tv_one (T : Tf) : ∀ v ∈ tv T, v.oneCell' = true := by
  intro v hv
  simp only [tv, List.mem_map] at hv
  obtain ⟨i, _, rfl⟩ := hv
  rfl
theorem tv_all (T : Tf) : (tv T).toArray.all (·.oneCell') = true := all_oneCell_toArray (tv_one T)
theorem tvs (T : Tf) : (tv T).toArray.size = 512 := by simp [tv_len]
theorem tv_congr {T U : Tf} (h : ∀ j, j < 512 → T j = U j) : tv T = tv U := by
  unfold tv
  exact List.map_congr_left (fun j hj => by rw [h j (List.mem_range.1 hj)])
theorem zTab (w : World) : Sem.run Try.prog (zeroValue 28) w = .ok (.agg (tv t0).toArray) w := by kernel_rfl
theorem szTab : (Try.prog.info? 28).map (·.size) = some 512 := by kernel_rfl
theorem szArr : (Try.prog.info? 26).map (·.size) = some 512 := by kernel_rfl
theorem iTab (T : Tf) : (Try.prog.info? 28).map (·.size) = some (tv T).length := by rw [tv_len]; exact szTab
theorem iTab' (T : Tf) : (Try.prog.info? 28).map (·.size) = some (tv T).toArray.size := by rw [tvs]; exact szTab
theorem iArr (T : Tf) : (Try.prog.info? 26).map (·.size) = some (tv T).length := by rw [tv_len]; exact szArr
attribute [irreducible] tv
theorem tv_new (w : World) (T : Tf) (t : TypeId) : VB (w.alloc (.cells (tv T).toArray t)) w.heap.size 512 (fun j => .int .u16 (T j + 1)) :=
  VB.new w (tv T).toArray t 512 (tvs T) _ (fun j hj => by have := tv_get T j hj; simpa using this)
theorem range_tv {w : World} {b : Nat} {T : Tf} (h : w.rangeAt b 0 (tv T)) {j : Nat} (hj : j < 512) : w.cell? ⟨b, j, none⟩ = some (.int .u16 (T j + 1)) := by
  have := range_cells h j _ (tv_get T j hj)
  rwa [Nat.zero_add] at this
theorem vb_range {w : World} {b : Nat} {T : Tf} (h : VB w b 512 (fun j => .int .u16 (T j + 1))) : w.rangeAt b 0 (tv T) :=
  h.range _ (by rw [tv_len]; omega) (fun i hi => by rw [tv_len] at hi; rw [tv_get _ _ hi, Nat.zero_add])
/-- The values of a table are numbers, or nothing. -/
structure Ok (T : Tf) : Prop where
  ge : ∀ j, -1 ≤ T j
  le : ∀ j, T j ≤ 1023
theorem ok0 : Ok t0 := ⟨fun _ => by unfold t0; omega, fun _ => by unfold t0; omega⟩
def upd (T : Tf) (k : Nat) (v : Int) : Tf := fun j => if j = k then v else T j
theorem Ok.upd {T : Tf} (h : Ok T) (k : Nat) {v : Int} (h1 : -1 ≤ v) (h2 : v ≤ 1023) : Ok (upd T k v) :=
  ⟨fun j => by unfold Nm.upd; split; exact h1; exact h.ge j, fun j => by unfold Nm.upd; split; exact h2; exact h.le j⟩
/-- The least name below n that means v; n, if none. -/
def lst (T : Tf) (v : Int) : Nat → Nat
  | 0 => 0
  | n + 1 => if lst T v n < n then lst T v n else if T n = v then n else n + 1
theorem lst_le (T : Tf) (v : Int) : ∀ n, lst T v n ≤ n
  | 0 => Nat.le_refl _
  | n + 1 => by
    have := lst_le T v n
    unfold lst
    split
    · omega
    · split <;> omega
theorem lst_not (T : Tf) (v : Int) : ∀ n q, q < lst T v n → T q ≠ v
  | 0, q, h => by simp [lst] at h
  | n + 1, q, h => by
    unfold lst at h
    have h0 := lst_le T v n
    split at h
    · exact lst_not T v n q h
    · split at h
      · exact lst_not T v n q (by omega)
      · rcases Nat.lt_or_ge q n with h1 | h1
        · exact lst_not T v n q (by omega)
        · obtain rfl : q = n := by omega
          assumption
theorem lst_hit (T : Tf) (v : Int) : ∀ n, lst T v n < n → T (lst T v n) = v
  | 0, h => by simp [lst] at h
  | n + 1, h => by
    unfold lst at h ⊢
    split at h
    · rename_i h1
      rw [if_pos h1]
      exact lst_hit T v n h1
    · rename_i h1
      rw [if_neg h1]
      split at h
      · rename_i h2
        rw [if_pos h2]
        exact h2
      · omega
theorem lst_eq {T : Tf} {v : Int} {n k : Nat} (hk : k ≤ n) (h1 : ∀ q, q < k → T q ≠ v) (h2 : k < n → T k = v) : lst T v n = k := by
  have a := lst_le T v n
  rcases Nat.lt_trichotomy (lst T v n) k with h | h | h
  · exact absurd (lst_hit T v n (by omega)) (h1 _ h)
  · exact h
  · exact absurd (h2 (by omega)) (lst_not T v n k h)
attribute [irreducible] lst
/-- What a name means. -/
def getT (T : Tf) (n : Int) : Int := if 0 ≤ n ∧ n < 512 then T n.toNat else -1
/-- What a call tells of a number that is -1 for none. -/
def sg (r : Int) : Int := if r < 0 then 0 else r

theorem mark_c (n : Int) (h1 : 0 ≤ n) (h2 : n ≤ 1023) (w : World) : Calls Try.prog 31 #[.int .i64 n] w fun e w' => e = .returned (.int .u16 (n + 1)) ∧ w = w' := by
  go_enter Try.func31, Try.ntmps31
  go_wp2
  go_ret
  exact ⟨rfl, rfl⟩
theorem number_c (n : Int) (h1 : 0 ≤ n) (h2 : n ≤ 1024) (w : World) : Calls Try.prog 32 #[.int .u16 n] w fun e w' => e = .returned (.int .i64 (n - 1)) ∧ w = w' := by
  go_enter Try.func32, Try.ntmps32
  go_wp2
  go_ret
  exact ⟨rfl, rfl⟩
/-- What is told of a number that is -1 for none. -/
def Pr (r : Int) : Value := .tuple #[.int .i64 (sg r), .bool (decide (0 ≤ r))]
theorem Pr_no {r : Int} (h : r < 0) : Pr r = .tuple #[.int .i64 0, .bool false] := by unfold Pr sg; rw [if_pos h, decide_eq_false (by omega)]
theorem Pr_yes {r : Int} (h : 0 ≤ r) : Pr r = .tuple #[.int .i64 r, .bool true] := by unfold Pr sg; rw [if_neg (by omega), decide_eq_true h]
set_option maxHeartbeats 1000000 in
theorem get_c (T : Tf) (hT : Ok T) (n : Int) (w : World) :
    Calls Try.prog 29 #[.agg (tv T).toArray, .int .i64 n] w fun e w' => e = .returned (Pr (getT T n)) ∧ But [] w w' := by
  obtain ⟨b, hb⟩ : ∃ b, b = w.heap.size := ⟨_, rfl⟩
  obtain ⟨w0, hw0⟩ : ∃ w0, w0 = w.alloc (.cells (tv T).toArray 28) := ⟨_, rfl⟩
  have HB0 : Hid (But [] w w0) := by show But _ _ _; rw [hw0]; exact (But.refl [] w).alloc _
  have hr := new_range w (tv T) 28
  rw [← hw0, ← hb] at hr
  by_cases hn : 0 ≤ n ∧ n < 512
  · obtain ⟨j, rfl⟩ : ∃ j : Nat, n = j := ⟨n.toNat, by omega⟩
    have hj : j < 512 := by omega
    have hc := range_tv hr hj
    have e : getT T j = T j := by unfold getT; rw [if_pos hn]; rfl
    rw [e]
    have h1 := hT.ge j
    have h2 := hT.le j
    clear hr hT e
    generalize T j = x at *
    by_cases hx : x < 0
    · obtain rfl : x = -1 := by omega
      have hz : ((-1 : Int) + 1 == 0) = true := by decide
      rw [Pr_no (by decide)]
      clear h1 h2 hx
      go_enter Try.func29, Try.ntmps29
      go_upto_region 1 with fail
      rw [← hw0, ← hb]
      clear hw0 hb
      go_wp2
      go_ret2
      exact ⟨rfl, HB0.out⟩
    · have hz : (x + 1 == 0) = false := by simp; omega
      rw [Pr_yes (by omega)]
      go_enter Try.func29, Try.ntmps29
      go_upto_region 1 with fail
      rw [← hw0, ← hb]
      clear hw0 hb
      go_wp2_with fail
      refine (number_c (x + 1) (by omega) (by omega) _).mono ?_
      rintro e w1 ⟨rfl, rfl⟩
      have hx1 : x + 1 - 1 = x := by omega
      go_wp2
      go_ret2
      exact ⟨by first | rfl | rw [hx1], HB0.out⟩
  · have e : getT T n = -1 := by unfold getT; rw [if_neg hn]
    rw [e, Pr_no (by decide)]
    clear hr hT e
    by_cases h0 : n < 0
    · clear hn
      go_enter Try.func29, Try.ntmps29
      go_upto_region 1 with fail
      rw [← hw0, ← hb]
      clear hw0 hb
      go_wp2
      go_ret2
      exact ⟨rfl, HB0.out⟩
    · have h5 : (512 : Int) ≤ n := by omega
      clear hn
      go_enter Try.func29, Try.ntmps29
      go_upto_region 1 with fail
      rw [← hw0, ← hb]
      clear hw0 hb
      go_wp2
      go_ret2
      exact ⟨rfl, HB0.out⟩
attribute [irreducible] getT
end Go.Proofs.Ytfjkbfcfceckgaa.Nm
