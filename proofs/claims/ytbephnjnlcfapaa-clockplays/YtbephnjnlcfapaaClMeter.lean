/-
  Layer 7 (clock): how a meter lies in the machine's memory; contracts of of, Spend, Spent, Clear, All, over the translated program.
-/
import Derived.Test.YtbephnjnlcfapaaClAtom
import Derived.Deep.LoopGhost
namespace Go.Proofs.Ytbephnjnlcfapaa.Cl
open Go.ChangeShapes Go.WideShapes Go.ChangeAt Go.RowKit
set_option linter.unusedVariables false
set_option maxRecDepth 20000

/-- Block b is a meter: environment j has consumed m j. -/
def MtAt (w : World) (b : Nat) (m : Nat → Int) : Prop := VB w b 16 (fun j => .int .i64 (m j))
theorem MtAt.lt {w : World} {b : Nat} {m : Nat → Int} (h : MtAt w b m) : b < w.heap.size := VB.lt h (by omega)
theorem MtAt.keep {l : List Nat} {w w' : World} {b : Nat} {m : Nat → Int} (h : MtAt w b m) (k : But l w w') (hn : b ∉ l) : MtAt w' b m := VB.keep h k hn
/-- One environment's number is another one. -/
def upd (m : Nat → Int) (k : Nat) (v : Int) : Nat → Int := fun j => if j = k then v else m j
theorem MtAt.set {w : World} {b k : Nat} {m : Nat → Int} (h : MtAt w b m) (v : Int) : MtAt (w.setCell ⟨b, k, none⟩ (.int .i64 v)) b (upd m k v) :=
  VB.congr (VB.set (k := k) h (.int .i64 v)) (fun j _ => by
    unfold upd
    show (if j = k then _ else _) = Value.int .i64 (if j = k then _ else _)
    split <;> rfl)

theorem of_nil (e : Int) (w : World) :
    Calls Try.prog 20 #[.pointer none, .int .i64 e] w fun r w' => r = .returned (.pointer none) ∧ w = w' := by
  go_enter Try.func20, Try.ntmps20
  go_wp2
  go_ret
  exact ⟨rfl, rfl⟩
theorem of_no (b : Nat) (e : Int) (w : World) (h : e < 0 ∨ 16 ≤ e) :
    Calls Try.prog 20 #[.pointer (some ⟨b, 0, none⟩), .int .i64 e] w fun r w' => r = .returned (.pointer none) ∧ w = w' := by
  go_enter Try.func20, Try.ntmps20
  by_cases h0 : e < 0
  · clear h
    go_wp2
    go_ret
    exact ⟨rfl, rfl⟩
  · have h1 : 16 ≤ e := by omega
    have h0' : decide (e < 0) = false := decide_eq_false h0
    clear h
    go_wp2
    go_ret
    exact ⟨rfl, rfl⟩
theorem of_c (b e : Nat) (w : World) (h : e < 16) :
    Calls Try.prog 20 #[.pointer (some ⟨b, 0, none⟩), .int .i64 e] w fun r w' => r = .returned (.pointer (some ⟨b, e, none⟩)) ∧ w = w' := by
  have h0 : decide ((e : Int) < 0) = false := decide_eq_false (by omega)
  have h1 : decide (16 ≤ (e : Int)) = false := decide_eq_false (by omega)
  have h2 : (e : Int) < 16 := by omega
  go_enter Try.func20, Try.ntmps20
  go_wp2
  go_ret
  exact ⟨by simp, rfl⟩

/-- May so much be noted for this environment? -/
def mayS (e n : Int) : Prop := (0 ≤ e ∧ e < 16) ∧ 0 ≤ n ∧ n ≤ 4096
theorem spend_nil (e n : Int) (w : World) :
    Calls Try.prog 7 #[.pointer none, .int .i64 e, .int .i64 n] w fun r w' => r = .returned (.bool false) ∧ w = w' := by
  go_enter Try.func7, Try.ntmps7
  go_wp2_with fail
  refine (of_nil e _).mono ?_
  rintro r w1 ⟨rfl, rfl⟩
  go_wp2
  go_ret
  exact ⟨rfl, rfl⟩
theorem spend_no (b : Nat) (e n : Int) (w : World) (h : ¬ mayS e n) :
    Calls Try.prog 7 #[.pointer (some ⟨b, 0, none⟩), .int .i64 e, .int .i64 n] w fun r w' => r = .returned (.bool false) ∧ w = w' := by
  unfold mayS at h
  go_enter Try.func7, Try.ntmps7
  by_cases he : 0 ≤ e ∧ e < 16
  · obtain ⟨k, rfl⟩ : ∃ k : Nat, e = k := ⟨e.toNat, by omega⟩
    have hk : k < 16 := by omega
    go_wp2_with fail
    refine (of_c b k _ hk).mono ?_
    rintro r w1 ⟨rfl, rfl⟩
    by_cases h0 : n < 0
    · clear h he
      go_wp2
      go_ret
      exact ⟨rfl, rfl⟩
    · have h0' : decide (n < 0) = false := decide_eq_false h0
      have h1 : 4096 < n := by omega
      clear h he
      go_wp2
      go_ret
      exact ⟨rfl, rfl⟩
  · go_wp2_with fail
    refine (of_no b e _ (by omega)).mono ?_
    rintro r w1 ⟨rfl, rfl⟩
    clear h he
    go_wp2
    go_ret
    exact ⟨rfl, rfl⟩
theorem spend_c (b : Nat) (m : Nat → Int) (k : Nat) (n s : Int) (w : World) (h : MtAt w b m) (hk : k < 16) (h0 : 0 ≤ n) (h1 : n ≤ 4096) (hs : IntKind.i64.wrap (m k + n) = s) :
    Calls Try.prog 7 #[.pointer (some ⟨b, 0, none⟩), .int .i64 k, .int .i64 n] w fun r w' => r = .returned (.bool true) ∧ MtAt w' b (upd m k s) ∧ But [b] w w' := by
  have H : Hid (MtAt w b m) := h
  have HS : Hid (IntKind.i64.wrap (m k + n) = s) := hs
  have h0' : decide (n < 0) = false := decide_eq_false (by omega)
  have h1' : decide (4096 < n) = false := decide_eq_false (by omega)
  clear h hs
  go_enter Try.func7, Try.ntmps7
  go_wp2_with fail
  refine (of_c b k _ hk).mono ?_
  rintro r w1 ⟨rfl, rfl⟩
  go_wp2_with fail
  refine (iadd_c b k (m k) n s _ (H.out k hk).1 (H.out k hk).2 HS.out).mono ?_
  rintro r w2 ⟨rfl, rfl⟩
  go_wp2
  go_ret
  exact ⟨rfl, H.out.set s, (But.refl _ _).setCell (by simp) _⟩
theorem spent_nil (e : Int) (w : World) :
    Calls Try.prog 16 #[.pointer none, .int .i64 e] w fun r w' => r = .returned (.int .i64 0) ∧ w = w' := by
  go_enter Try.func16, Try.ntmps16
  go_wp2_with fail
  refine (of_nil e _).mono ?_
  rintro r w1 ⟨rfl, rfl⟩
  go_wp2
  go_ret
  exact ⟨rfl, rfl⟩
/-- What an environment has consumed. -/
def spentP (m : Nat → Int) (e : Int) : Int := if 0 ≤ e ∧ e < 16 then m e.toNat else 0
theorem spent_c (b : Nat) (m : Nat → Int) (e : Int) (w : World) (h : MtAt w b m) :
    Calls Try.prog 16 #[.pointer (some ⟨b, 0, none⟩), .int .i64 e] w fun r w' => r = .returned (.int .i64 (spentP m e)) ∧ w = w' := by
  have H : Hid (MtAt w b m) := h
  clear h
  go_enter Try.func16, Try.ntmps16
  by_cases he : 0 ≤ e ∧ e < 16
  · obtain ⟨k, rfl⟩ : ∃ k : Nat, e = k := ⟨e.toNat, by omega⟩
    have hk : k < 16 := by omega
    have HV : Hid (spentP m k = m k) := by show spentP m k = m k; unfold spentP; rw [if_pos he]; rfl
    clear he
    go_wp2_with fail
    refine (of_c b k _ hk).mono ?_
    rintro r w1 ⟨rfl, rfl⟩
    go_wp2_with fail
    refine (iload_c b k (m k) _ (H.out k hk).1).mono ?_
    rintro r w1 ⟨rfl, rfl⟩
    rw [← HV.out]
    go_wp2
    go_ret
    exact ⟨rfl, rfl⟩
  · have HV : Hid (spentP m e = 0) := by show spentP m e = 0; unfold spentP; rw [if_neg he]
    rw [HV.out]
    go_wp2_with fail
    refine (of_no b e _ (by omega)).mono ?_
    rintro r w1 ⟨rfl, rfl⟩
    clear he
    go_wp2
    go_ret
    exact ⟨rfl, rfl⟩
theorem clear_nil (e : Int) (w : World) :
    Calls Try.prog 9 #[.pointer none, .int .i64 e] w fun r w' => r = .returned (.int .i64 0) ∧ w = w' := by
  go_enter Try.func9, Try.ntmps9
  go_wp2_with fail
  refine (of_nil e _).mono ?_
  rintro r w1 ⟨rfl, rfl⟩
  go_wp2
  go_ret
  exact ⟨rfl, rfl⟩
theorem clear_no (b : Nat) (e : Int) (w : World) (h : e < 0 ∨ 16 ≤ e) :
    Calls Try.prog 9 #[.pointer (some ⟨b, 0, none⟩), .int .i64 e] w fun r w' => r = .returned (.int .i64 0) ∧ w = w' := by
  go_enter Try.func9, Try.ntmps9
  go_wp2_with fail
  refine (of_no b e _ h).mono ?_
  rintro r w1 ⟨rfl, rfl⟩
  clear h
  go_wp2
  go_ret
  exact ⟨rfl, rfl⟩
theorem clear_c (b : Nat) (m : Nat → Int) (k : Nat) (w : World) (h : MtAt w b m) (hk : k < 16) :
    Calls Try.prog 9 #[.pointer (some ⟨b, 0, none⟩), .int .i64 k] w fun r w' => r = .returned (.int .i64 (m k)) ∧ MtAt w' b (upd m k 0) ∧ But [b] w w' := by
  have H : Hid (MtAt w b m) := h
  clear h
  obtain ⟨v, hv⟩ : ∃ v, v = m k := ⟨_, rfl⟩
  have HC : Hid (w.cell? ⟨b, k, none⟩ = some (.int .i64 v)) := by show _ = _; rw [hv]; exact (H.out k hk).1
  rw [← hv]
  clear hv
  go_enter Try.func9, Try.ntmps9
  go_wp2_with fail
  refine (of_c b k _ hk).mono ?_
  rintro r w1 ⟨rfl, rfl⟩
  go_wp2_with fail
  refine (iswap_c b k v 0 _ HC.out (H.out k hk).2).mono ?_
  rintro r w2 ⟨rfl, rfl⟩
  go_wp2
  go_ret
  exact ⟨rfl, H.out.set 0, (But.refl _ _).setCell (by simp) _⟩

/-- The numbers of the first k environments together, as Go adds them up. -/
def sumW (m : Nat → Int) : Nat → Int
  | 0 => 0
  | k + 1 => IntKind.i64.wrap (sumW m k + m k)
theorem all_c (b : Nat) (m : Nat → Int) (w : World) (h : MtAt w b m) :
    Calls Try.prog 17 #[.pointer (some ⟨b, 0, none⟩)] w fun r w' => r = .returned (.int .i64 (sumW m 16)) ∧ w = w' := by
  have H : Hid (MtAt w b m) := h
  clear h
  go_enter Try.func17, Try.ntmps17
  go_wp2
  go_loopg [3, 5] 16 (fun g0 sv iv wx => ∃ (k : Nat) (s : Int), k + g0 = 16 ∧ iv = .int .i64 k ∧ sv = .int .i64 s ∧ Hid (s = sumW m k) ∧ w = wx)
  case atStart => exact ⟨0, 0, rfl, rfl, rfl, rfl, rfl⟩
  case round =>
    obtain ⟨k, s, hkg, rfl, rfl, HS, rfl⟩ := hrel
    by_cases hk : k < 16
    · have hki : (k : Int) < 16 := by omega
      go_wp2_with fail
      refine (spent_c b m k _ H.out).mono ?_
      rintro r w1 ⟨rfl, rfl⟩
      obtain ⟨v, hv⟩ : ∃ v, v = spentP m k := ⟨_, rfl⟩
      obtain ⟨s', hs'⟩ : ∃ s', s' = sumW m (k + 1) := ⟨_, rfl⟩
      have hw : IntKind.i64.wrap (s + v) = s' := by
        rw [hs', hv, HS.out]
        unfold spentP
        rw [if_pos (by omega)]
        rfl
      have HS' : Hid (s' = sumW m (k + 1)) := hs'
      rw [← hv]
      clear hv hs'
      go_wp2
      go_roundg (16 - (k + 1))
      case measure => omega
      case rel => exact ⟨k + 1, s', by omega, by go_num, rfl, HS', rfl⟩
    · obtain rfl : k = 16 := by omega
      go_wp2
      go_ret
      exact ⟨by rw [← HS.out]; rfl, rfl⟩
theorem all_nil (w : World) :
    Calls Try.prog 17 #[.pointer none] w fun r w' => r = .returned (.int .i64 0) ∧ w = w' := by
  go_enter Try.func17, Try.ntmps17
  go_wp2
  go_loopg [3, 5] 16 (fun g0 sv iv wx => ∃ (k : Nat), k + g0 = 16 ∧ iv = .int .i64 k ∧ sv = .int .i64 0 ∧ w = wx)
  case atStart => exact ⟨0, rfl, rfl, rfl, rfl⟩
  case round =>
    obtain ⟨k, hkg, rfl, rfl, rfl⟩ := hrel
    by_cases hk : k < 16
    · have hki : (k : Int) < 16 := by omega
      go_wp2_with fail
      refine (spent_nil k _).mono ?_
      rintro r w1 ⟨rfl, rfl⟩
      go_wp2
      go_roundg (16 - (k + 1))
      case measure => omega
      case rel => exact ⟨k + 1, by omega, by go_num, rfl, rfl⟩
    · obtain rfl : k = 16 := by omega
      go_wp2
      go_ret
      exact ⟨rfl, rfl⟩
end Go.Proofs.Ytbephnjnlcfapaa.Cl
