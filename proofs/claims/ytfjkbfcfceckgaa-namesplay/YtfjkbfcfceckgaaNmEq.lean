/-
  Layer 11 (names): the contract of Same, over the translated program.
-/
import Derived.Test.YtfjkbfcfceckgaaNmBase
import Derived.ChangeKeysEq
namespace Go.Proofs.Ytfjkbfcfceckgaa.Nm
open Go.ChangeShapes Go.WideShapes Go.ChangeAt Go.RowKit
open Wh Sn
set_option linter.unusedVariables false
set_option maxRecDepth 20000

theorem run_eqItems_k {P : Program} {w : World} {e : TypeId} (k : IntKind) (hu : P.underlying e = some (.int k)) (hp : P.plainKey e = true) (X Y : Array Value) (f g : Nat → Int) (d : Nat) : ∀ (is : List Nat), (∀ i ∈ is, X[i * 1]? = some (.int k (f i))) → (∀ i ∈ is, Y[i * 1]? = some (.int k (g i))) →
    (Op.eqItems (d + 1) e 1 X Y is).run P w = .ok (decide (∀ i ∈ is, f i = g i)) w
  | [], _, _ => by simp [Op.eqItems]
  | i :: is, hX, hY => by
    have ih := run_eqItems_k k hu hp X Y f g d is (fun j hj => hX j (by simp [hj])) (fun j hj => hY j (by simp [hj])) (w := w)
    simp only [Op.eqItems, Sem.run_bind, run_part_plain w hp (hX i (by simp)), run_part_plain w hp (hY i (by simp)), Result.andThen_ok, run_equalIn_int w d e k k (f i) (g i) hu]
    by_cases hfg : f i = g i
    · simp [hfg, ih]
    · simp [hfg]
theorem plainU16 : Try.prog.plainKey 25 = true := by kernel_rfl
theorem cellsU16 : Try.prog.cellsOf 25 = 1 := by kernel_rfl
/-- Two tables mean the same. -/
def eqT (T U : Tf) : Bool := decide (∀ j, j ∈ List.range 512 → T j + 1 = U j + 1)
theorem eqT_of {T U : Tf} (h : ∀ j, j < 512 → T j = U j) : eqT T U = true := decide_eq_true (fun j hj => by rw [h j (List.mem_range.1 hj)])
theorem eqT_iff (T U : Tf) : eqT T U = true ↔ ∀ j, j < 512 → T j = U j := by
  unfold eqT
  rw [decide_eq_true_iff]
  exact ⟨fun h j hj => by have := h j (List.mem_range.2 hj); omega, fun h j hj => by rw [h j (List.mem_range.1 hj)]⟩
theorem eqArr (T U : Tf) (w : World) : (Op.equalIn 9999 26 (.agg (tv T).toArray) (.agg (tv U).toArray)).run Try.prog w = .ok (eqT T U) w := by
  obtain ⟨i0, hi⟩ : ∃ i0, Try.prog.info? 25 = some i0 := Option.isSome_iff_exists.1 (by kernel_rfl)
  rw [show (9999 : Nat) = 9998 + 1 from rfl, run_equalIn_array w 9998 _ _ Try.underlying26 hi, cellsU16]
  rw [run_eqItems_k .u16 Try.underlying25 plainU16 _ _ (fun j => T j + 1) (fun j => U j + 1) 9997 (List.range 512)
    (fun i hi => by have := tv_get T i (List.mem_range.1 hi); rw [Nat.mul_one]; simpa using this) (fun i hi => by have := tv_get U i (List.mem_range.1 hi); rw [Nat.mul_one]; simpa using this)]
  rfl
theorem partArr (T : Tf) (w : World) : (part 26 (tv T).toArray 0).run Try.prog w = .ok (.agg (tv T).toArray) w := by
  have h1 : (tv T).toArray.size = 512 := tvs T
  obtain ⟨i0, hi⟩ : ∃ i0, Try.prog.info? 26 = some i0 := Option.isSome_iff_exists.1 (by kernel_rfl)
  have hs : i0.size = 512 := by have := szArr; rw [hi] at this; simpa using this
  simp [part, isAgg, run_underlying Try.underlying26, sizeOf, typeInfo, hi, hs]
  exact List.take_of_length_le (by rw [tv_len]; omega)
theorem tabField : ∃ f, (Try.prog.fieldsOf 28).toList = [f] ∧ f.type = 26 ∧ f.offset = 0 ∧ (f.name == "_") = false :=
  ⟨(Try.prog.fieldsOf 28)[0]!, by kernel_rfl, by kernel_rfl, by kernel_rfl, by kernel_rfl⟩
theorem eqTab (T U : Tf) (w : World) : (binOp .eql 28 (.agg (tv T).toArray) (.agg (tv U).toArray)).run Try.prog w = .ok (.bool (eqT T U)) w := by
  obtain ⟨f, h1, h2, h3, h4⟩ := tabField
  have h5 : f.name ≠ "_" := by simpa using h4
  have e : (Op.equalIn 10000 28 (.agg (tv T).toArray) (.agg (tv U).toArray)).run Try.prog w = .ok (eqT T U) w := by
    rw [show (10000 : Nat) = 9999 + 1 from rfl, run_equalIn_struct w 9999 28 _ _ (by kernel_rfl) (by kernel_rfl), h1]
    simp only [Op.eqFields, ne_eq, h5, not_false_eq_true, if_true, h2, h3, Sem.run_bind, partArr, Result.andThen_ok, eqArr]
    cases eqT T U <;> simp
  simp [binOp, Op.equal, Op.maxDepth, e]
set_option maxHeartbeats 1000000 in
theorem same_c (T U : Tf) (w : World) :
    Calls Try.prog 18 #[.agg (tv T).toArray, .agg (tv U).toArray] w fun e w' => e = .returned (.bool (eqT T U)) ∧ But [] w w' := by
  obtain ⟨b, hb⟩ : ∃ b, b = w.heap.size := ⟨_, rfl⟩
  obtain ⟨w0, hw0⟩ : ∃ w0, w0 = (w.alloc (.cells (tv T).toArray 28)).alloc (.cells (tv U).toArray 28) := ⟨_, rfl⟩
  have HB0 : Hid (But [] w w0) := by show But _ _ _; rw [hw0]; exact ((But.refl [] w).alloc _).alloc _
  have h1 := range_keep (l := []) (new_range w (tv T) 28) ((But.refl [] _).alloc (.cells (tv U).toArray 28)) (by simp)
  have h2 := new_range (w.alloc (.cells (tv T).toArray 28)) (tv U) 28
  rw [show (w.alloc (.cells (tv T).toArray 28)).heap.size = w.heap.size + 1 by simp] at h2
  rw [← hw0, ← hb] at h1 h2
  have HR1 := hid h1
  have HR2 := hid h2
  have he := eqTab T U
  clear h1 h2
  go_enter Try.func18, Try.ntmps18
  go_upto_region 1 with fail
  rw [← hw0, ← hb]
  clear hw0 hb
  go_wp2_with (first
    | (refine wpList_load_mid rfl 28 _ rfl b 0 rfl (tv T) _ HR1.out Try.underlying28 rfl (iTab _) ?_)
    | (refine wpList_load_mid rfl 28 _ rfl (b + 1) 0 rfl (tv U) _ HR2.out Try.underlying28 rfl (iTab _) ?_))
  go_ret
  exact ⟨rfl, HB0.out⟩
end Go.Proofs.Ytfjkbfcfceckgaa.Nm
