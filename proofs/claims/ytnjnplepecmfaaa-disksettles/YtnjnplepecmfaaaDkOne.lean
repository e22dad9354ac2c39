/-
  Layer 8 (disk): contracts of New, Len, has, Write, over the translated program.
-/
import Derived.Test.YtnjnplepecmfaaaDkBase
import Derived.Test.YtnjnplepecmfaaaProg
import Derived.Deep.RegionHeld3
namespace Go.Proofs.Ytnjnplepecmfaaa.Dk
open Go.ChangeShapes Go.WideShapes Go.ChangeAt Go.RowKit
set_option linter.unusedVariables false
set_option maxRecDepth 20000

/-- The type of the program's writes that wait. -/
abbrev tP : TypeId := 71
theorem zData (w : World) : Sem.run Try.prog (zeroValue 34) w = .ok (.agg (dv d0).toArray) w := by kernel_rfl
theorem zWrite (w : World) : Sem.run Try.prog (zeroValue 71) w = .ok (.agg (wv w0).toArray) w := by kernel_rfl
theorem bData (w : World) : (Instr.build 34 #[]).run Try.prog w = .ok (.agg (dv d0).toArray) w := run_build w _ _ _ (by kernel_rfl)
theorem bWrite (k : Nat) (x : Dat) (w : World) : (Instr.build 71 #[(0, .int .i64 k), (1, .agg (dv x).toArray)]).run Try.prog w = .ok (.agg (wv (k, x)).toArray) w := run_build w _ _ _ (by kernel_rfl)
theorem bWriteP (k : Nat) (x : Dat) : Try.prog.built 71 [(0, .int .i64 k), (1, .agg (dv x).toArray)] = some (wv (k, x)).toArray := by kernel_rfl
theorem szData : (Try.prog.info? 34).map (·.size) = some 64 := by kernel_rfl
theorem szWrite : (Try.prog.info? 71).map (·.size) = some 65 := by kernel_rfl
theorem iData (x : Dat) : (Try.prog.info? 34).map (·.size) = some (dv x).length := by rw [dv_len]; exact szData
theorem iData' (x : Dat) : (Try.prog.info? 34).map (·.size) = some (dv x).toArray.size := by rw [List.size_toArray, dv_len]; exact szData
theorem iWrite (p : Wr) : (Try.prog.info? 71).map (·.size) = some (wv p).length := by rw [wv_len]; exact szWrite
theorem iWrite' (p : Wr) : (Try.prog.info? 71).map (·.size) = some (wv p).toArray.size := by rw [List.size_toArray, wv_len]; exact szWrite
theorem infWrite : (Try.prog.info? 71).map (fun i => (i.zero, i.size, i.bytes)) = some (some (.agg (wv w0).toArray), 65, 72) := by kernel_rfl
theorem infData : (Try.prog.info? 34).map (fun i => (i.zero, i.size, i.bytes)) = some (some (.agg (dv d0).toArray), 64, 64) := by kernel_rfl
/-- A slice literal of one write. -/
theorem lWrite (p : Wr) (w : World) : (Instr.buildSlice 57 1 #[(0, .agg (wv p).toArray)]).run Try.prog w = .ok (.slice (some ⟨w.heap.size, 0, none⟩) 1 1) (w.alloc (.cells (wv p).toArray 71)) := by
  obtain ⟨i, hi, hz, hs, hb⟩ := info_parts infWrite
  refine run_buildSlice w 57 71 1 _ _ i _ Try.underlying57 hi hz (by rw [hs]; decide) (by rw [hs]; decide) ?_
  rw [hs]
  kernel_rfl

theorem len_nil (w : World) : Calls Try.prog 21 #[.pointer none] w fun e w' => e = .returned (.int .i64 0) ∧ w = w' := by
  go_enter Try.func21, Try.ntmps21
  go_wp2
  go_ret
  exact ⟨rfl, rfl⟩
theorem len_c {lo b bl cl n : Nat} {v : Value} {L : Nat → Dat} {W : List Wr} {w : World} (h : DkAt tP w lo b bl cl n v L W) : Calls Try.prog 21 #[.pointer (some ⟨b, 0, none⟩)] w fun e w' => e = .returned (.int .i64 n) ∧ w = w' := by
  have hc := h.c0
  go_enter Try.func21, Try.ntmps21
  go_wp2
  go_ret
  exact ⟨rfl, rfl⟩
theorem has_nil (k : Int) (w : World) : Calls Try.prog 27 #[.pointer none, .int .i64 k] w fun e w' => e = .returned (.bool false) ∧ w = w' := by
  go_enter Try.func27, Try.ntmps27
  by_cases h0 : 0 ≤ k
  · go_wp2_with fail
    refine (len_nil _).mono ?_
    rintro e w1 ⟨rfl, rfl⟩
    have h1 : decide (k < 0) = false := decide_eq_false (by omega)
    go_wp2
    go_ret
    exact ⟨rfl, rfl⟩
  · have h1 : decide (0 ≤ k) = false := decide_eq_false h0
    go_wp2
    go_ret
    exact ⟨rfl, rfl⟩
/-- Is there such a block? -/
def inB (n : Nat) (k : Int) : Bool := decide (0 ≤ k ∧ k < n)
theorem inB_yes {n k : Nat} (h : k < n) : inB n k = true := by simp [inB]; omega
theorem inB_no {n : Nat} {k : Int} (h : inB n k = false) : ¬ (0 ≤ k ∧ k < n) := by simpa [inB] using h
theorem inB_of {n : Nat} {k : Int} (h : inB n k = true) : ∃ j : Nat, k = j ∧ j < n := by
  have h' : 0 ≤ k ∧ k < n := by simpa [inB] using h
  exact ⟨k.toNat, by omega, by omega⟩
theorem has_c {lo b bl cl n : Nat} {v : Value} {L : Nat → Dat} {W : List Wr} {w : World} (k : Int) (h : DkAt tP w lo b bl cl n v L W) : Calls Try.prog 27 #[.pointer (some ⟨b, 0, none⟩), .int .i64 k] w fun e w' => e = .returned (.bool (inB n k)) ∧ w = w' := by
  have H : Hid (DkAt tP w lo b bl cl n v L W) := h
  clear h
  go_enter Try.func27, Try.ntmps27
  by_cases h0 : 0 ≤ k
  · go_wp2_with fail
    refine (len_c H.out).mono ?_
    rintro e w1 ⟨rfl, rfl⟩
    by_cases h1 : k < n
    · have HB : Hid (inB n k = true) := by show _ = _; simp [inB, h0, h1]
      go_wp2
      go_ret
      exact ⟨by rw [HB.out]; rfl, rfl⟩
    · have HB : Hid (inB n k = false) := by show _ = _; simp [inB]; omega
      have h1' : decide (k < (n : Int)) = false := decide_eq_false h1
      go_wp2
      go_ret
      exact ⟨by rw [HB.out]; rfl, rfl⟩
  · have h1 : decide (0 ≤ k) = false := decide_eq_false h0
    have HB : Hid (inB n k = false) := by show _ = _; simp [inB]; omega
    go_wp2
    go_ret
    exact ⟨by rw [HB.out]; rfl, rfl⟩
/-- A disk of noughts. -/
def L0 : Nat → Dat := fun _ => d0
theorem made_get (n j : Nat) (h : j < n * 64) : (madeCells (dv d0).toArray (n * 64))[j]? = some (.int .u8 0) := by
  simp only [madeCells, Array.getElem?_map, Array.getElem?_range, h, if_true, Option.map_some]
  have hs : (dv d0).toArray.size = 64 := by simp [dv_len]
  have hl : j % 64 < (dv d0).length := by rw [dv_len]; omega
  have := dv_get d0 (j % 64) (by omega)
  rw [List.getElem?_eq_getElem hl] at this
  simp [hs, hl, Option.some.inj this, d0]
theorem new_c (n : Nat) (w : World) (h0 : 0 < n) (h1 : n ≤ 512) :
    Calls Try.prog 8 #[.int .i64 n] w fun e w' => ∃ b bl, e = .returned (.pointer (some ⟨b, 0, none⟩)) ∧ DkAt tP w' w.heap.size b bl n n (.slice none 0 0) L0 [] ∧ But [] w w' := by
  obtain ⟨i0, hi, hz0, hz1, hz2⟩ := info_parts infData
  have hmk : ∀ w, (Instr.makeSlice 56 (.int .i64 n) (.int .i64 n)).run Try.prog w = .ok (.slice (some ⟨w.heap.size, 0, none⟩) n n) (w.alloc (.cells (madeCells (dv d0).toArray (n * 64)) 34)) := fun w => by
    have := run_make (P := Try.prog) w 56 34 i0 _ Try.underlying56 hi hz0 .i64 .i64 n n (by omega) (Int.le_refl _) (by rw [hz2]; omega) (by omega)
    simpa [hz1, Value.cells] using this
  clear hi hz0 hz1 hz2
  go_enter Try.func8, Try.ntmps8
  go_wp2
  go_ret
  have e : (w.alloc (.cells (madeCells (dv d0).toArray (n * 64)) 34)).heap.size = w.heap.size + 1 := by simp
  refine ⟨w.heap.size + 1, w.heap.size, rfl, ⟨by omega, by omega, by omega, ?_, ?_, own_nil _ _ _, fun g e => (by cases e), fun p hp => (by cases hp), h0, h1⟩, ((But.refl _ _).alloc _).alloc _⟩
  · rw [← e]
    refine VB.new _ _ _ 2 rfl _ (fun j hj => ?_)
    have : j = 0 ∨ j = 1 := by omega
    rcases this with rfl | rfl <;> rfl
  · refine VB.keep (l := []) (VB.new w _ _ (64 * n) (by simp [madeCells]; omega) _ (fun j hj => ?_)) ((But.refl [] _).alloc _) (by simp)
    rw [made_get n j (by omega)]
    rfl
theorem new_no (n : Int) (w : World) (h : n < 1 ∨ 512 < n) :
    Calls Try.prog 8 #[.int .i64 n] w fun e w' => e = .returned (.pointer none) ∧ w = w' := by
  go_enter Try.func8, Try.ntmps8
  by_cases h1 : n < 1
  · go_wp2
    go_ret
    exact ⟨rfl, rfl⟩
  · have h2 : 512 < n := by omega
    clear h
    go_wp2
    go_ret
    exact ⟨rfl, rfl⟩
end Go.Proofs.Ytnjnplepecmfaaa.Dk
