/-
  Layer 14 (abi): contracts of Changes, and of the document's Changes, Form, fits, over the translated program.
-/
import Derived.Test.YtecgeoafahohjaaDoorAbBase
namespace Go.Proofs.YtecgeoafahohjaaDoor.Ab
open Go.ChangeShapes Go.WideShapes Go.ChangeAt Go.RowKit
set_option linter.unusedVariables false
set_option maxRecDepth 20000

/-- May it change what a frame, or a block, holds? -/
def cgB (x : Int) : Bool := decide (x = 2 ∨ x = 4 ∨ x = 5 ∨ x = 6 ∨ x = 10 ∨ x = 17 ∨ x = 19 ∨ x = 22 ∨ x = 24 ∨ x = 25 ∨ x = 26)
theorem changes_c (x : Int) (w : World) : Calls Tryd.prog 15 #[.int .i64 x] w fun e w' => e = .returned (.bool (cgB x)) ∧ w = w' := by
  by_cases h : x = 2 ∨ x = 4 ∨ x = 5 ∨ x = 6 ∨ x = 10 ∨ x = 17 ∨ x = 19 ∨ x = 22 ∨ x = 24 ∨ x = 25 ∨ x = 26
  · rcases h with rfl | rfl | rfl | rfl | rfl | rfl | rfl | rfl | rfl | rfl | rfl
    all_goals
      go_enter Tryd.func15, Tryd.ntmps15
      go_wp2
      go_ret
      exact ⟨rfl, rfl⟩
  · have HK : Hid (cgB x = false) := decide_eq_false h
    simp only [not_or] at h
    obtain ⟨h1, h2, h3, h4, h5, h6, h7, h8, h9, h10, h11⟩ := h
    go_enter Tryd.func15, Tryd.ntmps15
    go_wp2
    go_ret
    rw [HK.out]
    exact ⟨rfl, rfl⟩
theorem rchanges_c (x : Int) (w : World) : Calls Tryd.prog 16 #[.int .i64 x] w fun e w' => e = .returned (.bool (cgB x)) ∧ w = w' := by
  by_cases h : x = 2 ∨ x = 4 ∨ x = 5 ∨ x = 6 ∨ x = 10 ∨ x = 17 ∨ x = 19 ∨ x = 22 ∨ x = 24 ∨ x = 25 ∨ x = 26
  · rcases h with rfl | rfl | rfl | rfl | rfl | rfl | rfl | rfl | rfl | rfl | rfl
    all_goals
      go_enter Tryd.func16, Tryd.ntmps16
      go_wp2
      go_ret
      exact ⟨rfl, rfl⟩
  · have HK : Hid (cgB x = false) := decide_eq_false h
    simp only [not_or] at h
    obtain ⟨h1, h2, h3, h4, h5, h6, h7, h8, h9, h10, h11⟩ := h
    have g1 : (x == 2) = false := by simpa using h1
    have g2 : (x == 4) = false := by simpa using h2
    have g3 : (x == 5) = false := by simpa using h3
    have g4 : (x == 6) = false := by simpa using h4
    have g5 : (x == 10) = false := by simpa using h5
    have g6 : (x == 17) = false := by simpa using h6
    have g7 : (x == 19) = false := by simpa using h7
    have g8 : (x == 22) = false := by simpa using h8
    have g9 : (x == 24) = false := by simpa using h9
    have g10 : (x == 25) = false := by simpa using h10
    have g11 : (x == 26) = false := by simpa using h11
    go_enter Tryd.func16, Tryd.ntmps16
    go_wp2
    go_ret
    rw [HK.out]
    exact ⟨rfl, rfl⟩
theorem fits_c (c n : Int) (hc : isL c) (w : World) : Calls Tryd.prog 20 #[.int .u8 c, .int .i64 n] w fun e w' => e = .returned (.bool (ftB c n)) ∧ w = w' := by
  by_cases h0 : n < 0
  · have HK : Hid (ftB c n = false) := by show _ = _; unfold ftB lo; simp; split <;> omega
    go_enter Tryd.func20, Tryd.ntmps20
    go_wp2
    go_ret
    rw [HK.out]
    exact ⟨rfl, rfl⟩
  · have HN : Hid (0 ≤ n) := by show _ ≤ _; omega
    unfold isL at hc
    have hd0 : decide (n < 0) = false := decide_eq_false h0
    by_cases h1 : c = 117
    · subst h1
      clear hc
      by_cases h2 : 0 < n
      · go_enter Tryd.func20, Tryd.ntmps20
        go_wp2
        go_ret
        refine ⟨?_, rfl⟩
        have : ftB 117 n = decide (n ≤ 4096) := by unfold ftB lo hi; simp; omega
        rw [this]
        rfl
      · have hd : decide (0 < n) = false := decide_eq_false h2
        go_enter Tryd.func20, Tryd.ntmps20
        go_wp2
        go_ret
        refine ⟨?_, rfl⟩
        have : ftB 117 n = false := by unfold ftB lo hi; simp; omega
        rw [this]
        rfl
    · have HK : Hid (ftB c n = decide (n < hi c + 1)) := by
        show _ = _
        unfold ftB lo
        rw [if_neg h1]
        by_cases h2 : n < hi c + 1
        · rw [decide_eq_true h2, decide_eq_true]; omega
        · rw [decide_eq_false h2, decide_eq_false]; omega
      rcases hc with rfl | rfl | rfl | rfl | rfl | rfl | rfl | rfl | rfl | rfl | rfl
      case inr.inr.inr.inr.inr.inr.inr.inr.inr.inl => exact absurd rfl h1
      all_goals
        clear h1
        go_enter Tryd.func20, Tryd.ntmps20
        go_wp2
        go_ret
        rw [HK.out]
        exact ⟨rfl, rfl⟩
/-- What the document's list holds. -/
def forV : List Value := .string (sv [45]) :: (tabL.drop 1).map fun l => .string (sv l)
theorem forV_len : forV.length = 41 := by simp [forV, tabL_len]
theorem forV_get (k : Nat) (h0 : 1 ≤ k) (h : k < 41) : forV[k]? = some (.string (sv (tabL.getD k []))) := by
  obtain ⟨j, rfl⟩ : ∃ j, k = j + 1 := ⟨k - 1, by omega⟩
  have : j + 1 < tabL.length := h
  unfold forV
  simp [List.getElem?_eq_getElem this]
/-- A call's form. -/
def fm (x : Int) : Ls := if kn x = true then lt x else [45]
theorem fm_yes {x : Int} (h : kn x = true) : fm x = lt x := if_pos h
theorem fm_no {x : Int} (h : kn x = false) : fm x = [45] := if_neg (by rw [h]; decide)
theorem forV_lit : forV.toArray = (#[.string ⟨#[45]⟩, .string ⟨#[102, 97]⟩, .string ⟨#[102, 97, 119]⟩, .string ⟨#[102]⟩, .string ⟨#[102]⟩, .string ⟨#[102, 102]⟩, .string ⟨#[102]⟩, .string ⟨#[102, 102]⟩, .string ⟨#[102]⟩, .string ⟨#[102, 119]⟩, .string ⟨#[102, 102]⟩, .string ⟨#[115, 103, 102, 116]⟩, .string ⟨#[115, 103]⟩, .string ⟨#[115, 103]⟩, .string ⟨#[115]⟩, .string ⟨#[115]⟩, .string ⟨#[115, 103]⟩, .string ⟨#[115, 117]⟩, .string ⟨#[115, 119]⟩, .string ⟨#[115, 119, 119]⟩, .string ⟨#[102]⟩, .string ⟨#[98]⟩, .string ⟨#[98]⟩, .string ⟨#[98]⟩, .string ⟨#[98]⟩, .string ⟨#[98, 102]⟩, .string ⟨#[102, 98]⟩, .string ⟨#[98]⟩, .string ⟨#[98, 98]⟩, .string ⟨#[112, 119]⟩, .string ⟨#[112]⟩, .string ⟨#[112]⟩, .string ⟨#[112]⟩, .string ⟨#[107, 110]⟩, .string ⟨#[107]⟩, .string ⟨#[107, 110]⟩, .string ⟨#[107]⟩, .string ⟨#[107, 110]⟩, .string ⟨#[]⟩, .string ⟨#[]⟩, .string ⟨#[]⟩] : Array Value) := rfl
theorem form_c (x : Int) (w : World) : Calls Tryd.prog 10 #[.int .i64 x] w fun e w' => e = .returned (.string (sv (fm x))) ∧ But [] w w' := by
  have hr := new_range w forV 9
  have hb : But [] w (w.alloc (.cells forV.toArray 9)) := (But.refl [] w).alloc _
  rw [forV_lit] at hr hb
  obtain ⟨g, hg⟩ : ∃ g, g = w.heap.size := ⟨_, rfl⟩
  rw [← hg] at hr
  have HR := hid hr
  have HB := hid hb
  clear hr hb
  go_enter Tryd.func10, Tryd.ntmps10
  go_upto_region 2 with fail
  rw [← hg]
  generalize w.alloc (.cells (#[.string ⟨#[45]⟩, .string ⟨#[102, 97]⟩, .string ⟨#[102, 97, 119]⟩, .string ⟨#[102]⟩, .string ⟨#[102]⟩, .string ⟨#[102, 102]⟩, .string ⟨#[102]⟩, .string ⟨#[102, 102]⟩, .string ⟨#[102]⟩, .string ⟨#[102, 119]⟩, .string ⟨#[102, 102]⟩, .string ⟨#[115, 103, 102, 116]⟩, .string ⟨#[115, 103]⟩, .string ⟨#[115, 103]⟩, .string ⟨#[115]⟩, .string ⟨#[115]⟩, .string ⟨#[115, 103]⟩, .string ⟨#[115, 117]⟩, .string ⟨#[115, 119]⟩, .string ⟨#[115, 119, 119]⟩, .string ⟨#[102]⟩, .string ⟨#[98]⟩, .string ⟨#[98]⟩, .string ⟨#[98]⟩, .string ⟨#[98]⟩, .string ⟨#[98, 102]⟩, .string ⟨#[102, 98]⟩, .string ⟨#[98]⟩, .string ⟨#[98, 98]⟩, .string ⟨#[112, 119]⟩, .string ⟨#[112]⟩, .string ⟨#[112]⟩, .string ⟨#[112]⟩, .string ⟨#[107, 110]⟩, .string ⟨#[107]⟩, .string ⟨#[107, 110]⟩, .string ⟨#[107]⟩, .string ⟨#[107, 110]⟩, .string ⟨#[]⟩, .string ⟨#[]⟩, .string ⟨#[]⟩] : Array Value) 9) = w0 at *
  clear hg
  cases hk : kn x with
  | true =>
    obtain ⟨h1, h2⟩ := kn_true hk
    have HF : Hid (fm x = lt x) := fm_yes hk
    obtain ⟨k, rfl⟩ : ∃ k : Nat, x = k := ⟨x.toNat, by omega⟩
    have hcell := HR.out k _ (forV_get k (by omega) (by omega))
    rw [← lt_at (by omega) (by omega), Nat.zero_add] at hcell
    have h3 : (k : Int) < 41 := by omega
    have h4 : decide ((k : Int) < 1) = false := decide_eq_false (by omega)
    clear hk h1 h2
    go_wp2
    go_ret
    rw [HF.out]
    exact ⟨rfl, HB.out⟩
  | false =>
    have HF : Hid (fm x = [45]) := fm_no hk
    by_cases h1 : x < 1
    · clear hk
      go_wp2
      go_ret
      rw [HF.out]
      exact ⟨rfl, HB.out⟩
    · have h2 : (41 : Int) ≤ x := by have := kn_false hk; omega
      have h4 : decide (x < 1) = false := decide_eq_false (by omega)
      clear hk h1
      go_wp2
      go_ret
      rw [HF.out]
      exact ⟨rfl, HB.out⟩
end Go.Proofs.YtecgeoafahohjaaDoor.Ab
