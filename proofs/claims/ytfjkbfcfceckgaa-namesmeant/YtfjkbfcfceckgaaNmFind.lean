/-
  Layer 11 (names): contracts of slices.Index, least and Find, over the translated program.
-/
import Derived.Test.YtfjkbfcfceckgaaNmBase
namespace Go.Proofs.Ytfjkbfcfceckgaa.Nm
open Go.ChangeShapes Go.WideShapes Go.ChangeAt Go.RowKit
open Wh Sn
set_option linter.unusedVariables false
set_option maxRecDepth 20000

/-- The least name that means v; -1, if none. -/
def ix (T : Tf) (v : Int) : Int := if lst T v 512 < 512 then (lst T v 512 : Int) else -1
theorem ix_lt (T : Tf) (v : Int) : ix T v < 512 := by unfold ix; split <;> omega
theorem ix_ge (T : Tf) (v : Int) : -1 ≤ ix T v := by unfold ix; split <;> omega
set_option maxHeartbeats 1000000 in
theorem index_c (b c : Nat) (T : Tf) (hT : Ok T) (v : Int) (w : World) (h : w.rangeAt b 0 (tv T)) :
    Calls Try.prog 37 #[.slice (some ⟨b, 0, none⟩) 512 c, .int .u16 (v + 1)] w fun e w' => e = .returned (.int .i64 (ix T v)) ∧ But [] w w' := by
  have HR := hid h
  clear h hT
  go_enter Try.func37, Try.ntmps37
  go_wp2
  go_loopg [8] 513 (fun g0 i wx => ∃ j : Nat, j + g0 = 513 ∧ j ≤ 512 ∧ i = .int .i64 j ∧ Hid (∀ q, q < j → T q ≠ v) ∧ Hid (But [] w wx))
  case atStart => exact ⟨0, by omega, by omega, rfl, fun q hq => absurd hq (Nat.not_lt_zero _), But.refl _ _⟩
  case round =>
    obtain ⟨j, hjg, hj, rfl, HN, HB⟩ := hrel
    by_cases hlt : j < 512
    · have hjI : (j : Int) < 512 := by omega
      have hc := cell_keep (range_tv HR.out hlt) HB.out (by simp)
      by_cases hv : T j = v
      · rw [hv] at hc
        have e : Hid (ix T v = j) := by
          show ix T v = j
          unfold ix
          rw [lst_eq (Nat.le_of_lt hlt) HN.out (fun _ => hv), if_pos hlt]
        clear hv
        go_wp2
        go_ret
        exact ⟨by rw [e.out]; rfl, HB.out⟩
      · have hne : (v + 1 == T j + 1) = false := by simp; omega
        have HN1 : Hid (∀ q, q < j + 1 → T q ≠ v) := fun q hq => by
          rcases Nat.lt_or_ge q j with h | h
          · exact HN.out q h
          · obtain rfl : q = j := by omega
            exact hv
        generalize T j = x at hc hne
        clear hv HN
        go_wp2
        go_roundg (513 - (j + 1))
        case measure => omega
        case rel => exact ⟨j + 1, by omega, by omega, by go_num, HN1.out, HB.out⟩
    · obtain rfl : j = 512 := by omega
      have h64' : decide ((512 : Int) < 512) = false := by decide
      have e : Hid (ix T v = -1) := by
        show ix T v = -1
        unfold ix
        rw [lst_eq (Nat.le_refl _) HN.out (fun h => absurd h (Nat.lt_irrefl _)), if_neg (Nat.lt_irrefl _)]
      go_wp2
      go_ret
      exact ⟨by rw [e.out]; rfl, HB.out⟩

set_option maxHeartbeats 1000000 in
theorem least_c (b : Nat) (T : Tf) (hT : Ok T) (v : Int) (w : World) (h : w.rangeAt b 0 (tv T)) :
    Calls Try.prog 30 #[.pointer (some ⟨b, 0, none⟩), .int .u16 (v + 1)] w fun e w' => e = .returned (Pr (ix T v)) ∧ But [] w w' := by
  have HR := hid h
  have HT := hid hT
  clear h hT
  go_enter Try.func30, Try.ntmps30
  go_wp2_with fail
  refine (index_c b _ T HT.out v _ HR.out).mono ?_
  rintro e w1 ⟨rfl, k1⟩
  have K1 := hid k1
  have h1 := ix_ge T v
  have h2 := ix_lt T v
  generalize hX : ix T v = x at *
  have HX := hid hX
  clear k1 hX
  by_cases hx : x < 0
  · have hm : (if x < 0 then 0 else x) = 0 := if_pos hx
    have hd : decide (0 ≤ x) = false := decide_eq_false (by omega)
    have e : Hid (Pr x = .tuple #[.int .i64 0, .bool false]) := Pr_no hx
    go_wp2
    go_ret2
    exact ⟨by rw [HX.out, e.out]; rfl, K1.out⟩
  · have hm : (if x < 0 then 0 else x) = x := if_neg hx
    have hd : decide (0 ≤ x) = true := decide_eq_true (by omega)
    have e : Hid (Pr x = .tuple #[.int .i64 x, .bool true]) := Pr_yes (by omega)
    go_wp2
    go_ret2
    exact ⟨by rw [HX.out, e.out]; rfl, K1.out⟩

/-- The name that means n; -1, if none. -/
def fnT (T : Tf) (n : Int) : Int := if 0 ≤ n ∧ n ≤ 1023 then ix T n else -1
set_option maxHeartbeats 1000000 in
theorem find_c (T : Tf) (hT : Ok T) (n : Int) (w : World) :
    Calls Try.prog 13 #[.agg (tv T).toArray, .int .i64 n] w fun e w' => e = .returned (Pr (fnT T n)) ∧ But [] w w' := by
  obtain ⟨b, hb⟩ : ∃ b, b = w.heap.size := ⟨_, rfl⟩
  obtain ⟨w0, hw0⟩ : ∃ w0, w0 = w.alloc (.cells (tv T).toArray 28) := ⟨_, rfl⟩
  have HB0 : Hid (But [] w w0) := by show But _ _ _; rw [hw0]; exact (But.refl [] w).alloc _
  have hr := new_range w (tv T) 28
  rw [← hw0, ← hb] at hr
  have HR := hid hr
  have HT := hid hT
  clear hr hT
  by_cases hn : 0 ≤ n ∧ n ≤ 1023
  · obtain ⟨h0, h1⟩ := hn
    have e : fnT T n = ix T n := if_pos ⟨h0, h1⟩
    rw [e]
    clear e
    go_enter Try.func13, Try.ntmps13
    go_upto_region 1 with fail
    rw [← hw0, ← hb]
    clear hw0 hb
    go_wp2_with fail
    refine (mark_c n h0 h1 _).mono ?_
    rintro e w1 ⟨rfl, rfl⟩
    go_wp2_with fail
    refine (least_c b T HT.out n _ HR.out).mono ?_
    rintro e w1 ⟨rfl, k1⟩
    have K1 := hid (HB0.out.trans k1)
    clear k1
    unfold Pr
    go_wp2
    go_ret2
    exact ⟨rfl, K1.out⟩
  · have e : fnT T n = -1 := if_neg hn
    rw [e, Pr_no (by decide)]
    clear e
    by_cases h0 : n < 0
    · clear hn
      go_enter Try.func13, Try.ntmps13
      go_upto_region 1 with fail
      rw [← hw0, ← hb]
      clear hw0 hb
      go_wp2
      go_ret2
      exact ⟨rfl, HB0.out⟩
    · have h5 : (1023 : Int) < n := by omega
      clear hn
      go_enter Try.func13, Try.ntmps13
      go_upto_region 1 with fail
      rw [← hw0, ← hb]
      clear hw0 hb
      go_wp2
      go_ret2
      exact ⟨rfl, HB0.out⟩
attribute [irreducible] ix fnT
end Go.Proofs.Ytfjkbfcfceckgaa.Nm
