/-
  Layer 10 (span): contracts of sort.Search, as Has asks it, and of Has, over the translated program.
-/
import Derived.Test.YtlppfcoclpdanaaSnBase
import Derived.Deep.QuietTactic
import Derived.BigQuiet
namespace Go.Proofs.Ytlppfcoclpdanaa.Sn
open Go.ChangeShapes Go.WideShapes Go.ChangeAt Go.RowKit
open Wh
set_option linter.unusedVariables false
set_option maxRecDepth 20000

set_option maxHeartbeats 1000000 in
theorem has1_c (A : Option Addr) (n c lo i b2 b3 : Nat) (m : Int) (f : Nat → Bool) (w : World) (h : SetAt w lo A n f) (hi : i < n) (h2 : w.cell? ⟨b2, 0, none⟩ = some (.slice A n c)) (h3 : w.cell? ⟨b3, 0, none⟩ = some (.int .i64 m)) :
    Calls Try.prog 44 #[.int .i64 i, .pointer (some ⟨b3, 0, none⟩), .pointer (some ⟨b2, 0, none⟩)] w fun e w' => e = .returned (.bool (decide (m < (ed f (i * 2 + 1) : Nat)))) ∧ But [] w w' := by
  obtain ⟨g, off, hA, -, hg, hc⟩ := h.at_ (k := i * 2) (by omega)
  have hc1 := hc (i * 2 + 1) (by omega)
  rw [← Nat.add_assoc] at hc1
  generalize ed f (i * 2 + 1) = x at *
  subst hA
  clear h hc
  go_enter Try.func44, Try.ntmps44
  go_wp2
  go_quiet (fail)
  go_wp2
  go_ret
  exact ⟨rfl, (But.refl [] w).drewN _⟩
/-- The first place at which P holds. -/
def Found (w : World) (n : Nat) (P : Nat → Bool) (e : Ending) (w' : World) : Prop := ∃ i : Nat, e = .returned (.int .i64 i) ∧ i ≤ n ∧ (∀ k, k < i → P k = false) ∧ (i < n → P i = true) ∧ But [] w w'
set_option maxHeartbeats 1000000 in
theorem search_c (cb : Array Value) (n : Nat) (P : Nat → Bool) (w : World) (hn : n ≤ 1000000) (hmono : ∀ i j, i < j → j < n → P i = true → P j = true)
    (hP : ∀ i w', i < n → But [] w w' → Calls Try.prog 44 (#[.int .i64 i] ++ cb) w' fun e w'' => e = .returned (.bool (P i)) ∧ But [] w' w'') :
    Calls Try.prog 43 #[.int .i64 n, .func (.func 44) #[] cb] w (Found w n P) := by
  have HP := hid hP
  have HM := hid hmono
  clear hP hmono
  go_enter Try.func43, Try.ntmps43
  go_wp2
  go_loopg [5, 6] (n + 1) (fun g0 i j wx => ∃ lo hi : Nat, g0 = hi - lo + 1 ∧ lo ≤ hi ∧ hi ≤ n ∧ i = .int .i64 lo ∧ j = .int .i64 hi ∧ Hid (∀ k, k < lo → P k = false) ∧ Hid (∀ k, hi ≤ k → k < n → P k = true) ∧ Hid (But [] w wx))
  case atStart => exact ⟨0, n, by omega, by omega, by omega, rfl, rfl, fun k hk => by omega, fun k h1 h2 => by omega, But.refl _ _⟩
  case round =>
    obtain ⟨lo, hi, hg, hlh, hhn, rfl, rfl, HL, HH, HB⟩ := hrel
    by_cases hlt : lo < hi
    · obtain ⟨mid, hmid⟩ : ∃ mid, mid = (lo + hi) / 2 := ⟨_, rfl⟩
      have hm1 : lo ≤ mid := by omega
      have hm2 : mid < hi := by omega
      obtain ⟨s, hss⟩ : ∃ s, s = lo + hi := ⟨_, rfl⟩
      have hs : (lo : Int) + (hi : Int) = (s : Int) := by omega
      have hsm : mid = s / 2 := by omega
      have hs9 : s ≤ 2000000 := by omega
      clear hmid hss
      go_wp2_with fail
      have hmi : (s : Int) / 2 = (mid : Int) := by omega
      rw [hmi]
      refine (HP.out mid _ (by omega) HB.out).mono ?_
      rintro e w1 ⟨rfl, k1⟩
      have HB1 := hid (HB.out.trans k1)
      clear k1 HB
      cases hPm : P mid with
      | false =>
        have HL1 : Hid (∀ k, k < mid + 1 → P k = false) := by
          show ∀ k, _ → _
          intro k hk
          cases hk2 : P k with
          | false => rfl
          | true =>
            by_cases e : k = mid
            · rw [e] at hk2; rw [hk2] at hPm; cases hPm
            · have := HM.out k mid (by omega) (by omega) hk2
              rw [this] at hPm; cases hPm
        clear hPm hsm hs
        go_wp2
        go_roundg (hi - (mid + 1) + 1)
        case measure => omega
        case rel => exact ⟨mid + 1, hi, rfl, by omega, hhn, by go_num, rfl, HL1.out, HH.out, HB1.out⟩
      | true =>
        have HH1 : Hid (∀ k, mid ≤ k → k < n → P k = true) := by
          show ∀ k, _ → _
          intro k h1 h2
          by_cases e : k = mid
          · rw [e]; exact hPm
          · exact HM.out mid k (by omega) h2 hPm
        clear hPm hsm hs
        go_wp2
        go_roundg (mid - lo + 1)
        case measure => omega
        case rel => exact ⟨lo, mid, rfl, by omega, by omega, rfl, by go_num, HL.out, HH1.out, HB1.out⟩
    · obtain rfl : lo = hi := by omega
      go_wp2
      go_ret
      exact ⟨lo, rfl, by omega, HL.out, fun h => HH.out lo (Nat.le_refl _) h, HB.out⟩

/-- Is a number of a set? -/
def hasB (f : Nat → Bool) (m : Int) : Bool := decide (0 ≤ m) && decide (m < 1024) && f m.toNat
set_option maxHeartbeats 2000000 in
theorem has_c (A : Option Addr) (n c lo : Nat) (m : Int) (f : Nat → Bool) (w : World) (h : SetAt w lo A n f) :
    Calls Try.prog 21 #[.agg #[.slice A n c], .int .i64 m] w fun e w' => e = .returned (.bool (hasB f m)) ∧ But [] w w' := by
  have hn := h.n_le
  have HL := hid h.len
  obtain ⟨b, hb⟩ : ∃ b, b = w.heap.size := ⟨_, rfl⟩
  obtain ⟨w0, hw0⟩ : ∃ w0, w0 = (w.alloc (.cells #[.slice A n c] 31)).alloc (.cells #[.int .i64 m] 3) := ⟨_, rfl⟩
  have HB0 : Hid (But [] w w0) := by show But _ _ _; rw [hw0]; exact ((But.refl [] w).alloc _).alloc _
  have hc2 : w0.cell? ⟨b, 0, none⟩ = some (.slice A n c) := by rw [hw0, hb]; simp
  have hc3 : w0.cell? ⟨b + 1, 0, none⟩ = some (.int .i64 m) := by rw [hw0, hb]; simp
  have H := hid (h.keep0 HB0.out)
  have HC2 := hid hc2
  have HC3 := hid hc3
  clear h
  go_enter Try.func21, Try.ntmps21
  go_upto_region 1 with fail
  rw [← hw0, ← hb]
  clear hw0 hb
  go_wp2_with fail
  refine (search_c (cb := #[.pointer (some ⟨b + 1, 0, none⟩), .pointer (some ⟨b, 0, none⟩)]) n (fun i => decide (m < (ed f (i * 2 + 1) : Nat))) w0 (by omega) (fun i j hij hj hi => ?_) (fun i w' hi k => ?_)).mono ?_
  · have := ends_inc HL.out hij hj
    simp only [decide_eq_true_eq] at hi ⊢
    omega
  · exact has1_c A n c lo i b (b + 1) m f w' (H.out.keep0 k) hi (cell_keep HC2.out k (by simp)) (cell_keep HC3.out k (by simp))
  rintro e w1 ⟨i, rfl, hin, hno, hyes, k1⟩
  have hs2 := cell_keep hc2 k1 (by simp)
  have hs3 := cell_keep hc3 k1 (by simp)
  have HB1 := hid (HB0.out.trans k1)
  have hno' : ∀ k, k < i → ((ed f (k * 2 + 1) : Nat) : Int) ≤ m := fun k hk => by have := hno k hk; simp only [decide_eq_false_iff_not] at this; omega
  clear hc2 hc3 hno
  by_cases hlt : i < n
  · have hm := hyes hlt
    simp only [decide_eq_true_eq] at hm
    obtain ⟨g, off, hA, -, hg, hc⟩ := H.out.at_ (k := i * 2) (by omega)
    have hca := cell_keep (hc (i * 2) (by omega)) k1 (by simp)
    have hres : hasB f m = decide (((ed f (i * 2) : Nat) : Int) ≤ m) := by
      have h4 := ed_le (f := f) (i * 2 + 1)
      unfold hasB
      by_cases e : ((ed f (i * 2) : Nat) : Int) ≤ m
      · rw [decide_eq_true e, decide_eq_true (show 0 ≤ m by omega), decide_eq_true (show m < 1024 by omega)]
        exact has_yes (i := i) (by have := HL.out; omega) (by omega) (by omega)
      · rw [decide_eq_false e]
        by_cases h0 : 0 ≤ m
        · rw [has_no (n := n) H.out.lim HL.out (i := i) (by omega) (fun k hk => by have := hno' k hk; omega) (fun _ => by omega), Bool.and_false]
        · rw [decide_eq_false h0]; rfl
    generalize ed f (i * 2) = x at *
    have HRES := hid hres
    subst hA
    clear hc hm hres hyes hno' k1
    go_wp2
    go_quiet (fail)
    go_wp2
    go_ret
    exact ⟨by rw [HRES.out]; rfl, HB1.out.drewN _⟩
  · obtain rfl : i = n := by omega
    have hres : hasB f m = false := by
      unfold hasB
      by_cases h0 : 0 ≤ m
      · rw [has_no (n := i) H.out.lim HL.out (i := i) (by omega) (fun k hk => by have := hno' k hk; omega) (fun h => by omega), Bool.and_false]
      · rw [decide_eq_false h0]; rfl
    have HRES := hid hres
    have hd : decide ((i : Int) < (i : Int)) = false := by simp
    clear hres hyes hno' k1
    go_wp2
    go_quiet (fail)
    go_wp2
    go_ret
    exact ⟨by rw [HRES.out]; rfl, HB1.out.drewN _⟩
end Go.Proofs.Ytlppfcoclpdanaa.Sn
