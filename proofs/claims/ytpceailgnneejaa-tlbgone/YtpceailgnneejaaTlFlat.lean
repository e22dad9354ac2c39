/-
  Layer 5 (tlb): an entry and a deed that came in; what the statements hold on to.
-/
import Derived.Test.YtpceailgnneejaaTlLaw
import Derived.Test.YtpceailgnneejaaFlat
namespace Go.Proofs.Ytpceailgnneejaa
open Go.RowKit
set_option linter.unusedVariables false

def ks_flatEntry : List Pk := [.int .i64, .int .i64, .int .i64, .bool]
def kd_flatEntry (t : TypeId) : List Pk := if t = 3 then [.int .i64] else [.bool]
theorem flatEntry : FlatT Try.prog 30 ks_flatEntry :=
  flat_struct kd_flatEntry Try.underlying30 (by kernel_rfl)
    (by
      intro f hf
      simp only [List.mem_cons, List.not_mem_nil, or_false] at hf
      rcases hf with rfl | rfl | rfl | rfl
      · exact flat_int Try.underlying3 (by kernel_rfl)
      · exact flat_int Try.underlying3 (by kernel_rfl)
      · exact flat_int Try.underlying3 (by kernel_rfl)
      · exact flat_bool Try.underlying4 (by kernel_rfl))
    (by decide)
def ks_flatDeed : List Pk := [.int .i64, .int .i64, .int .i64, .int .i64, .bool]
def kd_flatDeed (t : TypeId) : List Pk := if t = 3 then [.int .i64] else ks_flatEntry
theorem flatDeed : FlatT Try.prog 32 ks_flatDeed :=
  flat_struct kd_flatDeed Try.underlying32 (by kernel_rfl)
    (by
      intro f hf
      simp only [List.mem_cons, List.not_mem_nil, or_false] at hf
      rcases hf with rfl | rfl
      · exact flat_int Try.underlying3 (by kernel_rfl)
      · exact flatEntry)
    (by decide)
/-- An entry, a deed, written out. -/
theorem entry_of {vs : List Value} (h : Fits ks_flatEntry vs) : ∃ (S P F : Int) (W : Bool), vs = [.int .i64 S, .int .i64 P, .int .i64 F, .bool W] := by
  obtain ⟨v0, l0, rfl, ⟨S, rfl, _⟩, h0⟩ := fits_cons h
  obtain ⟨v1, l1, rfl, ⟨P, rfl, _⟩, h1⟩ := fits_cons h0
  obtain ⟨v2, l2, rfl, ⟨F, rfl, _⟩, h2⟩ := fits_cons h1
  obtain ⟨v3, l3, rfl, ⟨W, rfl⟩, h3⟩ := fits_cons h2
  obtain rfl := fits_nil h3
  exact ⟨S, P, F, W, rfl⟩
theorem deed_of {vs : List Value} (h : Fits ks_flatDeed vs) : ∃ (K S P F : Int) (W : Bool), vs = [.int .i64 K, .int .i64 S, .int .i64 P, .int .i64 F, .bool W] := by
  obtain ⟨v, l, rfl, ⟨K, rfl, _⟩, hK⟩ := fits_cons h
  obtain ⟨S, P, F, W, rfl⟩ := entry_of hK
  exact ⟨K, S, P, F, W, rfl⟩
theorem seven_keep {w W w' : World} {g x : Nat} {S P F X0 X1 X2 X3 : Value}
    (h : W.cell? ⟨g, 0, none⟩ = some S ∧ W.cell? ⟨g, 1, none⟩ = some P ∧ W.cell? ⟨g, 2, none⟩ = some F ∧ W.cell? ⟨x, 0, none⟩ = some X0 ∧ W.cell? ⟨x, 1, none⟩ = some X1 ∧ W.cell? ⟨x, 2, none⟩ = some X2 ∧ W.cell? ⟨x, 3, none⟩ = some X3 ∧ SameS w W) (k : But [] W w') :
    w'.cell? ⟨g, 0, none⟩ = some S ∧ w'.cell? ⟨g, 1, none⟩ = some P ∧ w'.cell? ⟨g, 2, none⟩ = some F ∧ w'.cell? ⟨x, 0, none⟩ = some X0 ∧ w'.cell? ⟨x, 1, none⟩ = some X1 ∧ w'.cell? ⟨x, 2, none⟩ = some X2 ∧ w'.cell? ⟨x, 3, none⟩ = some X3 ∧ SameS w w' := by
  obtain ⟨h0, h1, h2, h3, h4, h5, h6, h8⟩ := h
  exact ⟨cell_keep h0 k (by simp), cell_keep h1 k (by simp), cell_keep h2 k (by simp), cell_keep h3 k (by simp), cell_keep h4 k (by simp), cell_keep h5 k (by simp), cell_keep h6 k (by simp), But.trans h8 k⟩
theorem infoDeed : (Try.prog.info? 32).map (·.size) = some 5 := by kernel_rfl
end Go.Proofs.Ytpceailgnneejaa
