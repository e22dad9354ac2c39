/-
  Layer 7 (clock): numbers and deeds that came in.
-/
import Derived.Test.YtbephnjnlcfapaaClClock
import Derived.Test.YtbephnjnlcfapaaClRef
import Derived.Test.YtbephnjnlcfapaaFlat
namespace Go.Proofs.Ytbephnjnlcfapaa
open Go.RowKit
set_option linter.unusedVariables false

def ks_flatU64 : List Pk := [.int .u64]
theorem flatU64 : FlatT Try.prog 27 ks_flatU64 := flat_int Try.underlying27 (by kernel_rfl)
theorem u64_of {vs : List Value} (h : Fits ks_flatU64 vs) : ∃ v : Int, vs = [.int .u64 v] := by
  obtain ⟨v0, l0, rfl, ⟨v, rfl, _⟩, h0⟩ := fits_cons h
  obtain rfl := fits_nil h0
  exact ⟨v, rfl⟩
def ks_flatDeed : List Pk := [.int .i64, .int .i64, .int .i64, .int .u64]
def kd_flatDeed (t : TypeId) : List Pk := if t = 3 then [.int .i64] else [.int .u64]
theorem flatDeed : FlatT Try.prog 51 ks_flatDeed :=
  flat_struct kd_flatDeed Try.underlying51 (by kernel_rfl)
    (by
      intro f hf
      simp only [List.mem_cons, List.not_mem_nil, or_false] at hf
      rcases hf with rfl | rfl | rfl | rfl
      · exact flat_int Try.underlying3 (by kernel_rfl)
      · exact flat_int Try.underlying3 (by kernel_rfl)
      · exact flat_int Try.underlying3 (by kernel_rfl)
      · exact flat_int Try.underlying27 (by kernel_rfl))
    (by decide)
theorem deed_of {vs : List Value} (h : Fits ks_flatDeed vs) : ∃ K E N T : Int, vs = [.int .i64 K, .int .i64 E, .int .i64 N, .int .u64 T] := by
  obtain ⟨v0, l0, rfl, ⟨K, rfl, _⟩, h0⟩ := fits_cons h
  obtain ⟨v1, l1, rfl, ⟨E, rfl, _⟩, h1⟩ := fits_cons h0
  obtain ⟨v2, l2, rfl, ⟨N, rfl, _⟩, h2⟩ := fits_cons h1
  obtain ⟨v3, l3, rfl, ⟨T, rfl, _⟩, h3⟩ := fits_cons h2
  obtain rfl := fits_nil h3
  exact ⟨K, E, N, T, rfl⟩
theorem infoDeed : (Try.prog.info? 51).map (·.size) = some 4 := by kernel_rfl
/-- Nothing of w has turned. -/
def SameS (w w' : World) : Prop := But [] w w'
theorem three_keep {w W w' : World} {g : Nat} {E N T : Value} (h : W.cell? ⟨g, 1, none⟩ = some E ∧ W.cell? ⟨g, 2, none⟩ = some N ∧ W.cell? ⟨g, 3, none⟩ = some T ∧ SameS w W) (k : But [] W w') :
    w'.cell? ⟨g, 1, none⟩ = some E ∧ w'.cell? ⟨g, 2, none⟩ = some N ∧ w'.cell? ⟨g, 3, none⟩ = some T ∧ SameS w w' := by
  obtain ⟨h0, h1, h2, h3⟩ := h
  exact ⟨cell_keep h0 k (by simp), cell_keep h1 k (by simp), cell_keep h2 k (by simp), But.trans h3 k⟩
/-- What was made behind w may be written: all that w had stands. -/
theorem below_but {B : Nat} {w w1 w2 : World} {l : List Nat} (h : Below B w w1) (k : But l w1 w2) (hl : ∀ i, i ∈ l → B ≤ i) (hB : B ≤ w1.heap.size) : Below B w w2 :=
  ⟨k.os.trans h.os, k.tape.trans h.tape, k.output.trans h.output, Nat.le_trans h.size k.size, fun i hi => (k.block i (by omega) (fun hm => by have := hl i hm; omega)).trans (h.block i hi)⟩
theorem below_cell {B : Nat} {w w1 : World} {b o : Nat} {v : Value} (h : Below B w w1) (hb : b < B) (hc : w.cell? ⟨b, o, none⟩ = some v) : w1.cell? ⟨b, o, none⟩ = some v :=
  (h.cell (p := ⟨b, o, none⟩) hb).trans hc
end Go.Proofs.Ytbephnjnlcfapaa
