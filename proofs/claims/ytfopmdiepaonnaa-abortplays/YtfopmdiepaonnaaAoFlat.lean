/-
  Layer 17 (abort): wants and deeds that came in.
-/
import Derived.Test.YtfopmdiepaonnaaAoSame
import Derived.Test.YtfopmdiepaonnaaFlat
namespace Go.Proofs.Ytfopmdiepaonnaa
open Go.RowKit
set_option linter.unusedVariables false

theorem flatInt : FlatT Try.prog 3 [.int .i64] := flat_int Try.underlying3 (by kernel_rfl)
def ks_flatWant : List Pk := [.int .i64, .int .i64, .int .i64, .int .i64]
theorem flatWant : FlatT Try.prog 29 ks_flatWant :=
  flat_struct (fun _ => [.int .i64]) Try.underlying29 (by kernel_rfl)
    (by
      intro f hf
      simp only [List.mem_cons, List.not_mem_nil, or_false] at hf
      rcases hf with rfl | rfl | rfl | rfl
      · exact flatInt
      · exact flatInt
      · exact flatInt
      · exact flatInt)
    (by decide)
def ks_flatDeed : List Pk := [.int .i64, .int .i64, .int .i64, .int .i64, .int .i64]
theorem flatDeed : FlatT Try.prog 31 ks_flatDeed :=
  flat_struct (fun t => if t = 3 then [.int .i64] else ks_flatWant) Try.underlying31 (by kernel_rfl)
    (by
      intro f hf
      simp only [List.mem_cons, List.not_mem_nil, or_false] at hf
      rcases hf with rfl | rfl
      · exact flatInt
      · exact flatWant)
    (by decide)
namespace Ao
open Wh
/-- A want, written out. -/
theorem want_of {vs : List Value} (h : Fits ks_flatWant vs) : ∃ e k m t : Int, vs = [.int .i64 e, .int .i64 k, .int .i64 m, .int .i64 t] := by
  obtain ⟨v0, l0, rfl, ⟨e, rfl, _⟩, h0⟩ := fits_cons h
  obtain ⟨v1, l1, rfl, ⟨k, rfl, _⟩, h1⟩ := fits_cons h0
  obtain ⟨v2, l2, rfl, ⟨m, rfl, _⟩, h2⟩ := fits_cons h1
  obtain ⟨v3, l3, rfl, ⟨t, rfl, _⟩, h3⟩ := fits_cons h2
  obtain rfl := fits_nil h3
  exact ⟨e, k, m, t, rfl⟩
/-- Deeds that came in: the i-th is D i. -/
def Di (w : World) (A : Option Addr) (n : Nat) (D : Nat → Int × Wn) : Prop := n = 0 ∨ ∃ g off, A = some ⟨g, off, none⟩ ∧ g < w.heap.size ∧ ∀ i, i < n → w.cell? ⟨g, off + i * 5, none⟩ = some (.int .i64 (D i).1) ∧ w.rangeAt g (off + i * 5 + 1) (D i).2.vs
theorem row_di {w : World} {A : Option Addr} {n c : Nat} (h : RowOf ks_flatDeed w A n c) : ∃ D, Di w A n D := by
  obtain ⟨-, -, h0 | ⟨b, off, rfl, hb, hall⟩⟩ := h
  · exact ⟨fun _ => (0, nw), .inl h0⟩
  · have key : ∀ i, ∃ x : Int × Wn, i < n → w.cell? ⟨b, off + i * 5, none⟩ = some (.int .i64 x.1) ∧ w.rangeAt b (off + i * 5 + 1) x.2.vs := fun i => by
      by_cases hi : i < n
      · obtain ⟨vs, hr, hf⟩ := hall i hi
        rw [show ks_flatDeed.length = 5 from rfl] at hr
        obtain ⟨v0, l0, rfl, ⟨K, rfl, -⟩, h0⟩ := fits_cons hf
        obtain ⟨e, k, m, t, rfl⟩ := want_of h0
        refine ⟨(K, ⟨e, k, m, t⟩), fun _ => ⟨?_, fun j v hv => ?_⟩⟩
        · have := hr 0 _ rfl; rwa [Nat.add_zero] at this
        · have := hr (j + 1) v hv
          rwa [show off + i * 5 + (j + 1) = off + i * 5 + 1 + j by omega] at this
      · exact ⟨(0, nw), fun hh => absurd hh hi⟩
    obtain ⟨f, hf⟩ := Classical.axiomOfChoice key
    exact ⟨f, .inr ⟨b, off, rfl, hb, fun i hi => hf i hi⟩⟩
theorem Di.at_ {w : World} {A : Option Addr} {n : Nat} {D : Nat → Int × Wn} (h : Di w A n D) {i : Nat} (hi : i < n) : ∃ g off, A = some ⟨g, off, none⟩ ∧ g < w.heap.size ∧ w.cell? ⟨g, off + i * 5, none⟩ = some (.int .i64 (D i).1) ∧ w.rangeAt g (off + i * 5 + 1) (D i).2.vs := by
  rcases h with h | ⟨g, off, e, h1, h2⟩
  · omega
  · exact ⟨g, off, e, h1, (h2 i hi).1, (h2 i hi).2⟩
theorem deed_cells {w : World} {g o : Nat} {x y z t : Int} (h : w.rangeAt g (o + 1) (Wn.vs ⟨x, y, z, t⟩)) : w.cell? ⟨g, o + 1, none⟩ = some (.int .i64 x) ∧ w.cell? ⟨g, o + 2, none⟩ = some (.int .i64 y) ∧ w.cell? ⟨g, o + 3, none⟩ = some (.int .i64 z) ∧ w.cell? ⟨g, o + 4, none⟩ = some (.int .i64 t) := four h
end Ao
end Go.Proofs.Ytfopmdiepaonnaa
