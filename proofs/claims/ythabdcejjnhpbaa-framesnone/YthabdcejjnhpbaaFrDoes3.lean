/-
  Layer 4 (frames): the contract of the statements' deed (does), over the translated program: whatever it is, and of no memory.
-/
import Derived.Test.YthabdcejjnhpbaaFrDoes2
namespace Go.Proofs.Ythabdcejjnhpbaa
open Go.ChangeShapes Go.WideShapes Go.ChangeAt Go.RowKit
set_option linter.unusedVariables false

theorem does_c (bm bp bx n c : Nat) (xs : List Int) (K F A W : Int) (w : World) (h : MemAt w bm bp n xs) (hb : Blk w bx xs) (h1 : bx ≠ bp) (h2 : bx ≠ bm) :
    Calls Try.prog 8 #[.pointer (some ⟨bm, 0, none⟩), .slice (some ⟨bx, 0, none⟩) (16 * n) c, .agg #[.int .i64 K, .int .i64 F, .int .i64 A, .int .u32 W]] w fun e w' =>
      e = .returned (.bool true) ∧ Both w bm bp bx n (dd n xs K F A W) w' := by
  unfold dd
  by_cases hK : K = 0 ∨ K = 1 ∨ K = 2
  · rw [if_pos hK]
    cases hw : hasW n F A with
    | false => exact does_putno bm bp bx n c xs K hK F A hw W w h hb h1 h2
    | true =>
      simp only [hasW, decide_eq_true_eq] at hw
      obtain ⟨f, rfl⟩ : ∃ f : Nat, F = f := ⟨F.toNat, by omega⟩
      obtain ⟨a, rfl⟩ : ∃ a : Nat, A = a := ⟨A.toNat, by omega⟩
      exact does_put bm bp bx n c xs K hK f a (by omega) (by omega) W w h hb h1 h2
  · rw [if_neg hK]
    by_cases h3 : K = 3
    · subst h3
      rw [if_pos rfl]
      cases hh : (hasF n F && hasF n A) with
      | false => exact does_copyno bm bp bx n c xs F A hh W w h hb h1 h2
      | true =>
        simp only [hasF, Bool.and_eq_true, decide_eq_true_eq] at hh
        obtain ⟨f, rfl⟩ : ∃ f : Nat, F = f := ⟨F.toNat, by omega⟩
        obtain ⟨a, rfl⟩ : ∃ a : Nat, A = a := ⟨A.toNat, by omega⟩
        exact does_copy bm bp bx n c xs f a (by omega) (by omega) W w h hb h1 h2
    · rw [if_neg h3]
      by_cases h4 : K = 4
      · subst h4
        rw [if_pos rfl]
        cases hh : hasF n F with
        | false => exact does_layno bm bp bx n c xs F A hh W w h hb h1 h2
        | true =>
          simp only [hasF, decide_eq_true_eq] at hh
          obtain ⟨f, rfl⟩ : ∃ f : Nat, F = f := ⟨F.toNat, by omega⟩
          exact does_lay bm bp bx n c xs f A (by omega) W w h hb h1 h2
      · rw [if_neg h4]
        exact does_else bm bp bx n c xs K F A (by omega) W w h hb h1 h2

theorem hasW_none (f a : Int) : hasW 0 f a = false := by simp only [hasW, decide_eq_false_iff_not]; omega
theorem hasF_none (f : Int) : hasF 0 f = false := by simp only [hasF, decide_eq_false_iff_not]; omega
theorem at_none (f a : Int) (w : World) :
    Calls Try.prog 20 #[.slice none 0 0, .int .i64 f, .int .i64 a] w fun e w' => e = .returned (.int .i64 (-1)) ∧ w = w' := at_no none 0 0 f a w (by omega) (hasW_none f a)
theorem rcopy_none (f a : Int) (w : World) :
    Calls Try.prog 21 #[.slice none 0 0, .int .i64 f, .int .i64 a] w fun e w' => e = .returned (.bool false) ∧ w = w' := rcopy_no none 0 0 f a w (by omega) (by rw [hasF_none]; rfl)
set_option maxHeartbeats 2000000 in
theorem does_nil (K F A W : Int) (w : World) :
    Calls Try.prog 8 #[.pointer none, .slice none 0 0, .agg #[.int .i64 K, .int .i64 F, .int .i64 A, .int .u32 W]] w fun e w' => e = .returned (.bool true) ∧ But [] w w' := by
  have HX : Hid (Box w w.heap.size K F A W (w.alloc (.cells #[.int .i64 K, .int .i64 F, .int .i64 A, .int .u32 W] 30))) := box_new _ _ _ _ _ _
  have HB : Hid (But [] w (w.alloc (.cells #[.int .i64 K, .int .i64 F, .int .i64 A, .int .u32 W] 30))) := (But.refl [] w).alloc _
  obtain ⟨g, hg⟩ : ∃ g, g = w.heap.size := ⟨_, rfl⟩
  go_enter Try.func8, Try.ntmps8
  go_wp2_with fail
  refine (at_none F A _).mono ?_
  rintro e w1 ⟨rfl, hw⟩
  rw [hw] at HB HX
  clear hw
  rw [← hg] at HX ⊢
  have hX := HX.out
  obtain ⟨hx0, hx1, hx2, hx3⟩ := hX
  clear hg HX
  by_cases hK : K = 0 ∨ K = 1 ∨ K = 2
  · rcases hK with rfl | rfl | rfl
    all_goals
      go_wp2_with fail
      refine (put_nil F A W _).mono ?_
      rintro e w3 ⟨rfl, rfl⟩
      go_wp2
      go_ret
      exact ⟨rfl, HB.out⟩
  · by_cases h3 : K = 3
    · subst h3
      have hS : w1.drew.cell? ⟨g, 1, none⟩ = some (.int .i64 F) ∧ w1.drew.cell? ⟨g, 2, none⟩ = some (.int .i64 A) := ⟨hx1, hx2⟩
      clear hK
      go_wp2
      go_region_held3 (fun w' => w'.cell? ⟨g, 1, none⟩ = some (.int .i64 F) ∧ w'.cell? ⟨g, 2, none⟩ = some (.int .i64 A))
        (first | exact hS)
        (first
          | (go_at_call 18; refine (copy_nil F A _).mono ?_; rintro e w4 ⟨rfl, rfl⟩)
          | (go_at_call 21; refine (rcopy_none F A _).mono ?_; rintro e w5 ⟨rfl, rfl⟩))
      go_wp2
      go_ret
      exact ⟨rfl, HB.out.drew⟩
    · by_cases h4 : K = 4
      · subst h4
        clear h3 hK
        have hS : w1.drew.cell? ⟨g, 1, none⟩ = some (.int .i64 F) ∧ w1.drew.cell? ⟨g, 3, none⟩ = some (.int .u32 W) := ⟨hx1, hx3⟩
        go_wp2_with fail
        refine (at_none F 0 _).mono ?_
        rintro e w2 ⟨rfl, rfl⟩
        go_wp2
        go_loopg [8] 0 (fun g2 j wy => j = .int .i64 0 ∧ w1 = wy)
        case atStart => exact ⟨rfl, rfl⟩
        case round =>
          obtain ⟨rfl, rfl⟩ := hrel
          go_wp2
          go_region_held3 (fun w' => w'.cell? ⟨g, 1, none⟩ = some (.int .i64 F) ∧ w'.cell? ⟨g, 3, none⟩ = some (.int .u32 W))
            (first | exact hS | exact two_keep (by assumption) (by assumption) (by simp))
            (first
              | (go_at_call 17; refine (pageOf_c W _).mono ?_; rintro e w4 ⟨rfl, k4⟩)
              | (go_at_call 16; refine (lay_nil F (pageL W) _).mono ?_; rintro e w5 ⟨rfl, k5⟩))
          have HE : Hid (But [] w w5) := (HB.out.drew.trans k4).trans k5
          clear k4 k5
          go_wp2
          go_ret
          exact ⟨rfl, HE.out⟩
      · have e0 : (K == 0) = false := by simp; omega
        have e1 : (K == 1) = false := by simp; omega
        have e2 : (K == 2) = false := by simp; omega
        have e3 : (K == 3) = false := by simp; omega
        have e4 : (K == 4) = false := by simp; omega
        clear hK h3 h4
        go_wp2
        go_ret
        exact ⟨rfl, HB.out⟩
end Go.Proofs.Ythabdcejjnhpbaa
