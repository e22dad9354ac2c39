/-
  Layer 4 (frames): a deed that came in.
-/
import Derived.Test.YthabdcejjnhpbaaProg
import Derived.Test.YthabdcejjnhpbaaFlat
namespace Go.Proofs.Ythabdcejjnhpbaa
open Go.RowKit
set_option linter.unusedVariables false

def ks_flatDeed : List Pk := [.int .i64, .int .i64, .int .i64, .int .u32]
def kd_flatDeed (t : TypeId) : List Pk := if t = 3 then [.int .i64] else [.int .u32]
theorem flatDeed : FlatT Try.prog 30 ks_flatDeed :=
  flat_struct kd_flatDeed Try.underlying30 (by kernel_rfl)
    (by
      intro f hf
      simp only [List.mem_cons, List.not_mem_nil, or_false] at hf
      rcases hf with rfl | rfl | rfl | rfl
      · exact flat_int Try.underlying3 (by kernel_rfl)
      · exact flat_int Try.underlying3 (by kernel_rfl)
      · exact flat_int Try.underlying3 (by kernel_rfl)
      · exact flat_int Try.underlying28 (by kernel_rfl))
    (by decide)
/-- A deed, written out. -/
theorem deed_of {vs : List Value} (h : Fits ks_flatDeed vs) : ∃ K F A W : Int, vs = [.int .i64 K, .int .i64 F, .int .i64 A, .int .u32 W] := by
  obtain ⟨v0, l0, rfl, ⟨K, rfl, _⟩, h0⟩ := fits_cons h
  obtain ⟨v1, l1, rfl, ⟨F, rfl, _⟩, h1⟩ := fits_cons h0
  obtain ⟨v2, l2, rfl, ⟨A, rfl, _⟩, h2⟩ := fits_cons h1
  obtain ⟨v3, l3, rfl, ⟨W, rfl, _⟩, h3⟩ := fits_cons h2
  obtain rfl := fits_nil h3
  exact ⟨K, F, A, W, rfl⟩
end Go.Proofs.Ythabdcejjnhpbaa
