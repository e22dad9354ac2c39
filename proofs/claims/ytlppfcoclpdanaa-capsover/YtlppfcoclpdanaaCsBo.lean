/-
  Layer 12 (caps): both trees, the program's and the document's. Nothing of the program's functions is named here.
-/
import Derived.Test.YtlppfcoclpdanaaCsBase
import Derived.Test.YtlppfcoclpdanaaCsRef
namespace Go.Proofs.Ytlppfcoclpdanaa.Cs
open Go.ChangeShapes Go.WideShapes Go.ChangeAt Go.RowKit
open Wh Sn
set_option linter.unusedVariables false

/-- Both trees, the same. -/
structure Bo (w : World) (bt bx bl : Nat) (Y : List Nat) (T : Tr) (m : Nat) : Prop where
  tr : TrA w bt (bt :: bx :: bl :: Y) T m
  rf : RfAt w bx bl T m
  wf : Wf T m
  n1 : bt ≠ bx
  n2 : bt ≠ bl
theorem Bo.keep0 {w w' : World} {bt bx bl m : Nat} {Y : List Nat} {T : Tr} (h : Bo w bt bx bl Y T m) (k : But [] w w') : Bo w' bt bx bl Y T m := ⟨h.tr.keep0 k, h.rf.keep0 k, h.wf, h.n1, h.n2⟩
theorem Bo.lt {w : World} {bt bx bl m : Nat} {Y : List Nat} {T : Tr} (h : Bo w bt bx bl Y T m) : bt < w.heap.size ∧ bx < w.heap.size ∧ bl < w.heap.size := by
  obtain ⟨f, hf⟩ := h.tr
  exact ⟨hf.low bt (by simp), hf.low bx (by simp), hf.low bl (by simp)⟩
end Go.Proofs.Ytlppfcoclpdanaa.Cs
