/-
  Layer 9 (port): words and deeds that came in.
-/
import Derived.Test.YtlpibbbjmmoifaaPtLaw
import Derived.Test.YtlpibbbjmmoifaaFlat
import Derived.Test.YtlpibbbjmmoifaaMaskMath
namespace Go.Proofs.Ytlpibbbjmmoifaa
open Go.RowKit
set_option linter.unusedVariables false

def ks_flatU32 : List Pk := [.int .u32]
theorem flatU32 : FlatT Try.prog 24 ks_flatU32 := flat_int Try.underlying24 (by kernel_rfl)
theorem words_of {w : World} {A : Option Addr} {len cap : Nat} (h : RowOf ks_flatU32 w A len cap) : ∃ ys : List Int, ys.length = len ∧ Rd .u32 w 0 w.heap.size A ys := by
  obtain ⟨-, -, h0 | ⟨b, off, rfl, hb, hall⟩⟩ := h
  · exact ⟨[], by simp [h0], .inl rfl⟩
  · have H : ∀ i, i < len → ∃ x : Int, w.cell? ⟨b, off + i, none⟩ = some (.int .u32 x) := fun i hi => by
      obtain ⟨vs, hr, hf⟩ := hall i hi
      obtain ⟨v, vs', rfl, ⟨x, rfl, hw⟩, h'⟩ := fits_cons hf
      have := hr 0 _ rfl
      exact ⟨x, by simpa [ks_flatU32] using this⟩
    refine ⟨(List.range len).map fun i => if hi : i < len then (H i hi).choose else 0, by simp, .inr ⟨b, off, rfl, Nat.zero_le _, hb, fun j hj => ?_⟩⟩
    have hj' : j < len := by simpa using hj
    simp only [List.getD_eq_getElem?_getD, List.getElem?_map, List.getElem?_range hj', Option.map_some, Option.getD_some, dif_pos hj']
    exact (H j hj').choose_spec
def ks_flatDeed : List Pk := [.int .i64, .int .i64, .int .u32]
def kd_flatDeed (t : TypeId) : List Pk := if t = 3 then [.int .i64] else [.int .u32]
theorem flatDeed : FlatT Try.prog 30 ks_flatDeed :=
  flat_struct kd_flatDeed Try.underlying30 (by kernel_rfl)
    (by
      intro f hf
      simp only [List.mem_cons, List.not_mem_nil, or_false] at hf
      rcases hf with rfl | rfl | rfl
      · exact flat_int Try.underlying3 (by kernel_rfl)
      · exact flat_int Try.underlying3 (by kernel_rfl)
      · exact flat_int Try.underlying24 (by kernel_rfl))
    (by decide)
theorem deed_of {vs : List Value} (h : Fits ks_flatDeed vs) : ∃ K N W : Int, vs = [.int .i64 K, .int .i64 N, .int .u32 W] := by
  obtain ⟨v0, l0, rfl, ⟨K, rfl, _⟩, h0⟩ := fits_cons h
  obtain ⟨v1, l1, rfl, ⟨N, rfl, _⟩, h1⟩ := fits_cons h0
  obtain ⟨v2, l2, rfl, ⟨W, rfl, _⟩, h2⟩ := fits_cons h1
  obtain rfl := fits_nil h2
  exact ⟨K, N, W, rfl⟩
theorem infoDeed : (Try.prog.info? 30).map (·.size) = some 3 := by kernel_rfl
end Go.Proofs.Ytlpibbbjmmoifaa
