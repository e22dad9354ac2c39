/-
  Layer 4 (frames): what the statement of frames that stay apart says, plainly.
-/
import Derived.Test.YthabdcejjnhpbaaFrHeld
namespace Go.Proofs.Ythabdcejjnhpbaa
open Go.RowKit
set_option linter.unusedVariables false

theorem sameP_refl (xs : List Int) (k : Nat) : sameP xs xs k = true := by simp [sameP]
theorem othM_self (m : Nat) (xs : List Int) (bs : List Int) : othM m xs xs bs = true := by
  simp only [othM, decide_eq_true_eq]
  intro f _
  exact .inr (sameP_refl xs _)
theorem sameP_of {xs ys : List Int} {k : Nat} (h : ∀ i, i < 16 → xs.getD (k + i) 0 = ys.getD (k + i) 0) : sameP xs ys k = true := by
  simp only [sameP, decide_eq_true_eq, List.mem_range]
  exact h
theorem sameP_get {xs ys : List Int} {k : Nat} (h : sameP xs ys k = true) (i : Nat) (hi : i < 16) : xs.getD (k + i) 0 = ys.getD (k + i) 0 := by
  simp only [sameP, decide_eq_true_eq, List.mem_range] at h
  exact h i hi
/-- A deed leaves all other frames. -/
theorem dd_others (n : Nat) (xs : List Int) (K F A W : Int) (hl : xs.length = 16 * n) : othM n (dd n xs K F A W) xs [F] = true := by
  simp only [othM, decide_eq_true_eq]
  intro f hf
  by_cases hF : (f : Int) = F
  · exact .inl (by simp [hF])
  · right
    apply sameP_of
    intro i hi
    have hlt : f * 16 + i < xs.length := by omega
    unfold dd
    split
    · split
      · rename_i hw
        simp only [hasW, decide_eq_true_eq] at hw
        rw [set_get _ _ _ _ (by omega), if_neg (by omega)]
      · rfl
    · split
      · split
        · rename_i hw
          simp only [hasF, Bool.and_eq_true, decide_eq_true_eq] at hw
          rw [layL_get _ _ _ _ hlt, if_neg (by omega)]
        · rfl
      · split
        · split
          · rename_i hw
            simp only [hasF, decide_eq_true_eq] at hw
            rw [layL_get _ _ _ _ hlt, if_neg (by omega)]
          · rfl
        · rfl
/-- Are the first m words the same, but those of one frame? -/
def sameL (xs ys : List Int) (but : Int) (m : Nat) : Bool := (List.range m).all fun i => xs.getD i 0 == ys.getD i 0 || ((i / 16 : Nat) : Int) == but
theorem sameL_zero (xs ys : List Int) (but : Int) : sameL xs ys but 0 = true := rfl
theorem sameL_succ (xs ys : List Int) (but : Int) (m : Nat) : sameL xs ys but (m + 1) = (sameL xs ys but m && (xs.getD m 0 == ys.getD m 0 || ((m / 16 : Nat) : Int) == but)) := by
  simp [sameL, List.range_succ, List.all_append]
theorem othM_sameL (n : Nat) (xs ys : List Int) (but : Int) : othM n ys xs [but] = sameL xs ys but (16 * n) := by
  rw [Bool.eq_iff_iff]
  simp only [othM, decide_eq_true_eq, sameL, List.all_eq_true, List.mem_range, Bool.or_eq_true, beq_iff_eq, List.mem_singleton]
  constructor
  · intro h i hi
    rcases h (i / 16) (by omega) with h | h
    · exact .inr h
    · left
      have := sameP_get h (i % 16) (by omega)
      rw [show i / 16 * 16 + i % 16 = i by omega] at this
      exact this.symm
  · intro h f hf
    by_cases hb : (f : Int) = but
    · exact .inl hb
    · right
      apply sameP_of
      intro i hi
      rcases h (f * 16 + i) (by omega) with h | h
      · exact h.symm
      · rw [show (f * 16 + i) / 16 = f by omega] at h
        exact absurd h hb
theorem box_range {w w' : World} {g : Nat} {K F A V : Int} (h : Box w g K F A V w') : w'.rangeAt g 0 [.int .i64 K, .int .i64 F, .int .i64 A, .int .u32 V] := fun j v hv => by
  match j, hv with
  | 0, hv => simp at hv; subst hv; exact h.k
  | 1, hv => simp at hv; subst hv; exact h.f
  | 2, hv => simp at hv; subst hv; exact h.a
  | 3, hv => simp at hv; subst hv; exact h.w
  | (j + 4), hv => simp at hv
theorem rd_one (w : World) (x : Int) (t : TypeId) : Rd .i64 (w.alloc (.cells #[.int .i64 x] t)) 0 (w.alloc (.cells #[.int .i64 x] t)).heap.size (some ⟨w.heap.size, 0, none⟩) [x] := by
  refine .inr ⟨w.heap.size, 0, rfl, Nat.zero_le _, by simp, fun j hj => ?_⟩
  obtain rfl : j = 0 := by simp at hj; omega
  exact cell_one_new w _ _ 0 _ rfl
/-- A memory, its twin, the words that both had, and the words behind the last deed. -/
structure Four (w : World) (bm bp cm cp bx by' n : Nat) (xs ys : List Int) (w' : World) : Prop where
  mem : MemAt w' bm bp n ys
  twin : MemAt w' cm cp n xs
  old : Blk w' bx xs
  new : Blk w' by' ys
  but : Below w.heap.size w w'
theorem Four.keep {w W w' : World} {bm bp cm cp bx by' n : Nat} {xs ys : List Int} (h : Four w bm bp cm cp bx by' n xs ys W) (k : But [] W w') : Four w bm bp cm cp bx by' n xs ys w' :=
  ⟨h.mem.keep k (by simp) (by simp), h.twin.keep k (by simp) (by simp), h.old.keep k (by simp), h.new.keep k (by simp), h.but.trans (k.below h.but.size (by simp))⟩
end Go.Proofs.Ythabdcejjnhpbaa
