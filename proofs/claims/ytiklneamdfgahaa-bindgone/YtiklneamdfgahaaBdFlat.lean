/-
  Layer 15 (bind): deeds that came in.
-/
import Derived.Test.YtiklneamdfgahaaBdMap
import Derived.Test.YtiklneamdfgahaaFlat
namespace Go.Proofs.Ytiklneamdfgahaa
open Go.RowKit
set_option linter.unusedVariables false

def ks_flatDeed : List Pk := [.int .i64, .int .i64, .int .i64, .int .i64, .bool]
theorem flatInt : FlatT Try.prog 3 [.int .i64] := flat_int Try.underlying3 (by kernel_rfl)
theorem flatBool : FlatT Try.prog 4 [.bool] := flat_bool Try.underlying4 (by kernel_rfl)
theorem flatDeed : FlatT Try.prog 33 ks_flatDeed :=
  flat_struct (fun t => if t = 4 then [.bool] else [.int .i64]) Try.underlying33 (by kernel_rfl)
    (by
      intro f hf
      simp only [List.mem_cons, List.not_mem_nil, or_false] at hf
      rcases hf with rfl | rfl | rfl | rfl | rfl
      · exact flatInt
      · exact flatInt
      · exact flatInt
      · exact flatInt
      · exact flatBool)
    (by decide)
theorem deed_of {vs : List Value} (h : Fits ks_flatDeed vs) : ∃ (K s p f : Int) (u : Bool), vs = [.int .i64 K, .int .i64 s, .int .i64 p, .int .i64 f, .bool u] ∧ Bd.I64 s ∧ Bd.I64 p := by
  obtain ⟨v0, l0, rfl, ⟨K, rfl, _⟩, h0⟩ := fits_cons h
  obtain ⟨v1, l1, rfl, ⟨s, rfl, i1⟩, h1⟩ := fits_cons h0
  obtain ⟨v2, l2, rfl, ⟨p, rfl, i2⟩, h2⟩ := fits_cons h1
  obtain ⟨v3, l3, rfl, ⟨f, rfl, _⟩, h3⟩ := fits_cons h2
  obtain ⟨v4, l4, rfl, ⟨u, rfl⟩, h4⟩ := fits_cons h3
  obtain rfl := fits_nil h4
  exact ⟨K, s, p, f, u, rfl, i1, i2⟩
theorem infoDeed : (Try.prog.info? 33).map (·.size) = some 5 := by kernel_rfl
end Go.Proofs.Ytiklneamdfgahaa
