/-
  Layer 7 (clock): how the document's state lies in the machine's memory; contracts of its Spend, Of, Due, over the translated program.
-/
import Derived.Test.YtbephnjnlcfapaaClMeter
namespace Go.Proofs.Ytbephnjnlcfapaa.Cl
open Go.ChangeShapes Go.WideShapes Go.ChangeAt Go.RowKit
set_option linter.unusedVariables false
set_option maxRecDepth 20000

/-- What the cells of the document's state hold: steps, sixteen numbers, the alarm's time, whether it is set. -/
def rf (n : Int) (m : Nat → Int) (x : Int) (st : Bool) (j : Nat) : Value :=
  if j = 0 then .int .u64 n else if j < 17 then .int .i64 (m (j - 1)) else if j = 17 then .int .u64 x else .bool st
/-- Block b is the document's state. -/
def RfAt (w : World) (b : Nat) (n : Int) (m : Nat → Int) (x : Int) (st : Bool) : Prop := VB w b 19 (rf n m x st)
theorem RfAt.lt {w : World} {b : Nat} {n x : Int} {m : Nat → Int} {st : Bool} (h : RfAt w b n m x st) : b < w.heap.size := VB.lt h (by omega)
theorem RfAt.keep {l : List Nat} {w w' : World} {b : Nat} {n x : Int} {m : Nat → Int} {st : Bool} (h : RfAt w b n m x st) (k : But l w w') (hn : b ∉ l) : RfAt w' b n m x st := VB.keep h k hn
theorem RfAt.drew {w : World} {b : Nat} {n x : Int} {m : Nat → Int} {st : Bool} (h : RfAt w b n m x st) : RfAt w.drew b n m x st := VB.drew h
theorem RfAt.now {w : World} {b : Nat} {n x : Int} {m : Nat → Int} {st : Bool} (h : RfAt w b n m x st) : w.cell? ⟨b, 0, none⟩ = some (.int .u64 n) ∧ w.frozen? ⟨b, 0, none⟩ = false := h 0 (by omega)
theorem RfAt.at_ {w : World} {b : Nat} {n x : Int} {m : Nat → Int} {st : Bool} (h : RfAt w b n m x st) : w.cell? ⟨b, 17, none⟩ = some (.int .u64 x) ∧ w.frozen? ⟨b, 17, none⟩ = false := h 17 (by omega)
theorem RfAt.is {w : World} {b : Nat} {n x : Int} {m : Nat → Int} {st : Bool} (h : RfAt w b n m x st) : w.cell? ⟨b, 18, none⟩ = some (.bool st) ∧ w.frozen? ⟨b, 18, none⟩ = false := h 18 (by omega)
theorem RfAt.of {w : World} {b : Nat} {n x : Int} {m : Nat → Int} {st : Bool} (h : RfAt w b n m x st) (k : Nat) (hk : k < 16) : w.cell? ⟨b, 1 + k, none⟩ = some (.int .i64 (m k)) ∧ w.frozen? ⟨b, 1 + k, none⟩ = false := by
  have := h (1 + k) (by omega)
  unfold rf at this
  rw [if_neg (by omega), if_pos (by omega), show 1 + k - 1 = k by omega] at this
  exact this
theorem RfAt.setNow {w : World} {b : Nat} {n x : Int} {m : Nat → Int} {st : Bool} (h : RfAt w b n m x st) (n' : Int) : RfAt (w.setCell ⟨b, 0, none⟩ (.int .u64 n')) b n' m x st :=
  VB.congr (VB.set (k := 0) h (.int .u64 n')) (fun j hj => by
    unfold rf
    by_cases e : j = 0
    · rw [if_pos e, if_pos e]
    · rw [if_neg e, if_neg e, if_neg e])
theorem RfAt.setAt {w : World} {b : Nat} {n x : Int} {m : Nat → Int} {st : Bool} (h : RfAt w b n m x st) (x' : Int) : RfAt (w.setCell ⟨b, 17, none⟩ (.int .u64 x')) b n m x' st :=
  VB.congr (VB.set (k := 17) h (.int .u64 x')) (fun j hj => by
    unfold rf
    by_cases e : j = 17
    · subst e; rfl
    · rw [if_neg e, if_neg e, if_neg e])
theorem RfAt.setIs {w : World} {b : Nat} {n x : Int} {m : Nat → Int} {st : Bool} (h : RfAt w b n m x st) (st' : Bool) : RfAt (w.setCell ⟨b, 18, none⟩ (.bool st')) b n m x st' :=
  VB.congr (VB.set (k := 18) h (.bool st')) (fun j hj => by
    unfold rf
    by_cases e : j = 18
    · subst e; rfl
    · rw [if_neg e]
      by_cases e0 : j = 0
      · rw [if_pos e0, if_pos e0]
      · by_cases e1 : j < 17
        · rw [if_neg e0, if_pos e1, if_neg e0, if_pos e1]
        · rw [if_neg e0, if_neg e1, if_pos (by omega), if_neg e0, if_neg e1, if_pos (by omega)])
theorem RfAt.setOf {w : World} {b : Nat} {n x : Int} {m : Nat → Int} {st : Bool} (h : RfAt w b n m x st) (k : Nat) (hk : k < 16) (v : Int) : RfAt (w.setCell ⟨b, 1 + k, none⟩ (.int .i64 v)) b n (upd m k v) x st :=
  VB.congr (VB.set (k := 1 + k) h (.int .i64 v)) (fun j hj => by
    unfold rf
    by_cases e : j = 1 + k
    · subst e
      rw [if_pos rfl, if_neg (by omega), if_pos (by omega)]
      unfold upd
      rw [if_pos (by omega)]
    · rw [if_neg e]
      by_cases e0 : j = 0
      · rw [if_pos e0, if_pos e0]
      · by_cases e1 : j < 17
        · rw [if_neg e0, if_pos e1, if_neg e0, if_pos e1]
          unfold upd
          rw [if_neg (by omega)]
        · rw [if_neg e0, if_neg e1, if_neg e0, if_neg e1])

theorem rof_c (b : Nat) (n : Int) (m : Nat → Int) (x : Int) (st : Bool) (e : Int) (w : World) (h : RfAt w b n m x st) :
    Calls Try.prog 10 #[.pointer (some ⟨b, 0, none⟩), .int .i64 e] w fun r w' => r = .returned (.int .i64 (spentP m e)) ∧ w = w' := by
  by_cases he : 0 ≤ e ∧ e < 16
  · obtain ⟨k, rfl⟩ : ∃ k : Nat, e = k := ⟨e.toNat, by omega⟩
    have hk : k < 16 := by omega
    have HV : Hid (spentP m k = m k) := by show spentP m k = m k; unfold spentP; rw [if_pos he]; rfl
    rw [HV.out]
    have hc := (h.of k hk).1
    have h0 : decide ((k : Int) < 0) = false := decide_eq_false (by omega)
    have h1 : decide (15 < (k : Int)) = false := decide_eq_false (by omega)
    have h2 : (k : Int) < 16 := by omega
    clear he h
    go_enter Try.func10, Try.ntmps10
    go_wp2
    go_ret
    exact ⟨rfl, rfl⟩
  · have HV : Hid (spentP m e = 0) := by show spentP m e = 0; unfold spentP; rw [if_neg he]
    rw [HV.out]
    clear h
    go_enter Try.func10, Try.ntmps10
    by_cases h0 : e < 0
    · clear he
      go_wp2
      go_ret
      exact ⟨rfl, rfl⟩
    · have h0' : decide (e < 0) = false := decide_eq_false h0
      have h1 : 15 < e := by omega
      clear he
      go_wp2
      go_ret
      exact ⟨rfl, rfl⟩
theorem rspend_no (b : Nat) (e n : Int) (w : World) (h : ¬ mayS e n) :
    Calls Try.prog 8 #[.pointer (some ⟨b, 0, none⟩), .int .i64 e, .int .i64 n] w fun r w' => r = .returned (.bool false) ∧ w = w' := by
  unfold mayS at h
  go_enter Try.func8, Try.ntmps8
  by_cases h0 : e < 0
  · clear h
    go_wp2
    go_ret
    exact ⟨rfl, rfl⟩
  · have h0' : decide (e < 0) = false := decide_eq_false h0
    by_cases h1 : 15 < e
    · clear h
      go_wp2
      go_ret
      exact ⟨rfl, rfl⟩
    · have h1' : decide (15 < e) = false := decide_eq_false h1
      by_cases h2 : n < 0
      · clear h
        go_wp2
        go_ret
        exact ⟨rfl, rfl⟩
      · have h2' : decide (n < 0) = false := decide_eq_false h2
        have h3 : 4096 < n := by omega
        clear h
        go_wp2
        go_ret
        exact ⟨rfl, rfl⟩
theorem rspend_c (b : Nat) (N : Int) (m : Nat → Int) (x : Int) (st : Bool) (k : Nat) (n s : Int) (w : World) (h : RfAt w b N m x st) (hk : k < 16) (h0 : 0 ≤ n) (h1 : n ≤ 4096) (hs : IntKind.i64.wrap (m k + n) = s) :
    Calls Try.prog 8 #[.pointer (some ⟨b, 0, none⟩), .int .i64 k, .int .i64 n] w fun r w' => r = .returned (.bool true) ∧ RfAt w' b N (upd m k s) x st ∧ But [b] w w' := by
  obtain ⟨v, hv⟩ : ∃ v, v = m k := ⟨_, rfl⟩
  rw [← hv] at hs
  have hc : w.drew.cell? ⟨b, 1 + k, none⟩ = some (.int .i64 v) := by rw [hv]; exact (h.drew.of k hk).1
  have hz := (h.drew.of k hk).2
  have HE : Hid (RfAt (w.setCell ⟨b, 1 + k, none⟩ (.int .i64 s)).drew b N (upd m k s) x st) := (h.setOf k hk s).drew
  have HB : Hid (But [b] w (w.setCell ⟨b, 1 + k, none⟩ (.int .i64 s)).drew) := ((But.refl _ _).setCell (by simp) _).drew
  have d0 : decide ((k : Int) < 0) = false := decide_eq_false (by omega)
  have d1 : decide (15 < (k : Int)) = false := decide_eq_false (by omega)
  have d2 : decide (n < 0) = false := decide_eq_false (by omega)
  have d3 : decide (4096 < n) = false := decide_eq_false (by omega)
  have d4 : (k : Int) < 16 := by omega
  clear h hv
  go_enter Try.func8, Try.ntmps8
  go_wp2
  refine wp_region_still_tail 13 (by kernel_rfl) (by kernel_rfl) ?_
  simp only [List.take_succ_cons, List.take_zero, List.drop_succ_cons, List.drop_zero]
  change wpStill _ _ w.drew _ _ _
  repeat still_step
  refine wpStill_nil ?_
  change wpList _ _ _ _ _ w.drew
  go_wp2
  go_ret
  exact ⟨rfl, HE.out, HB.out⟩
theorem rdue_c (b : Nat) (N : Int) (m : Nat → Int) (x : Int) (st : Bool) (n : Int) (w : World) (h : RfAt w b N m x st) :
    Calls Try.prog 14 #[.pointer (some ⟨b, 0, none⟩), .int .u64 n] w fun r w' => r = .returned (.bool (st && decide (x ≤ n))) ∧ RfAt w' b N m x (st && !decide (x ≤ n)) ∧ But [b] w w' := by
  obtain ⟨hc, hz⟩ := h.is
  obtain ⟨hc1, -⟩ := h.at_
  have H : Hid (RfAt w b N m x st) := h
  clear h
  cases st
  · rw [Bool.false_and, Bool.false_and]
    go_enter Try.func14, Try.ntmps14
    go_wp2
    go_ret
    exact ⟨rfl, H.out, But.refl _ _⟩
  · rw [Bool.true_and, Bool.true_and]
    by_cases hx : x ≤ n
    · rw [decide_eq_true hx, Bool.not_true]
      have d : decide (n < x) = false := decide_eq_false (by omega)
      go_enter Try.func14, Try.ntmps14
      go_wp2
      go_ret
      exact ⟨rfl, H.out.setIs false, (But.refl _ _).setCell (by simp) _⟩
    · rw [decide_eq_false hx, Bool.not_false]
      have d : n < x := by omega
      clear hx
      go_enter Try.func14, Try.ntmps14
      go_wp2
      go_ret
      exact ⟨rfl, H.out, But.refl _ _⟩
end Go.Proofs.Ytbephnjnlcfapaa.Cl
