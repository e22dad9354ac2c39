/-
  Layer 4 (frames): what the statements hold on to through a statement whose order is drawn.
-/
import Derived.Test.YthabdcejjnhpbaaFrDoes3
import Derived.Test.YthabdcejjnhpbaaFrFlat
namespace Go.Proofs.Ythabdcejjnhpbaa
open Go.RowKit
set_option linter.unusedVariables false

theorem none_keep {w W w' : World} {g b : Nat} {F A V : Value} {cs : List Value} (h : W.cell? ⟨g, 1, none⟩ = some F ∧ W.cell? ⟨g, 2, none⟩ = some A ∧ W.cell? ⟨g, 3, none⟩ = some V ∧ W.rangeAt b 0 cs ∧ But [] w W) (k : But [] W w') :
    w'.cell? ⟨g, 1, none⟩ = some F ∧ w'.cell? ⟨g, 2, none⟩ = some A ∧ w'.cell? ⟨g, 3, none⟩ = some V ∧ w'.rangeAt b 0 cs ∧ But [] w w' := by
  obtain ⟨h1, h2, h3, h4, h5⟩ := h
  exact ⟨(k.cell (p := ⟨g, 1, none⟩) (lt_of_cell h1) (by simp)).trans h1, (k.cell (p := ⟨g, 2, none⟩) (lt_of_cell h2) (by simp)).trans h2, (k.cell (p := ⟨g, 3, none⟩) (lt_of_cell h3) (by simp)).trans h3, range_keep h4 k (by simp), h5.trans k⟩
theorem eqNought (w : World) : (Op.equalIn 10000 40 (.agg (pgv [] 0).toArray) (.agg #[.int .u32 0, .int .u32 0, .int .u32 0, .int .u32 0, .int .u32 0, .int .u32 0, .int .u32 0, .int .u32 0, .int .u32 0, .int .u32 0, .int .u32 0, .int .u32 0, .int .u32 0, .int .u32 0, .int .u32 0, .int .u32 0])).run Try.prog w = .ok true w :=
  eqPage [] [] 0 w
theorem infoDeed : (Try.prog.info? 30).map (·.size) = some 4 := by kernel_rfl
end Go.Proofs.Ythabdcejjnhpbaa
