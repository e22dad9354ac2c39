/-
  Layer 5 (tlb): contracts of what the statements call (entry, Same, awake), over the translated program.
-/
import Derived.Test.YtjlcncdhlcpklaaTlRef2
import Derived.Deep.RegionHeld3
namespace Go.Proofs.Ytjlcncdhlcpklaa.Tl
open Go.ChangeShapes Go.WideShapes Go.ChangeAt Go.RowKit
set_option linter.unusedVariables false
set_option maxRecDepth 20000

theorem eqEntry (a b c : Int) (d : Bool) (w : World) : (Op.equalIn 10000 49 (.agg #[.int .i64 a, .int .i64 b, .int .i64 c, .bool d]) (.agg #[.int .i64 a, .int .i64 b, .int .i64 c, .bool d])).run Try.prog w = .ok true w := by
  rw [show (10000 : Nat) = 9999 + 1 from rfl, run_equalIn_struct w 9999 49 _ _ (by kernel_rfl) (by kernel_rfl)]
  simp [Program.fieldsOf, Try.underlying49, go_sem]

/-- The four cells of an entry from offset o of block b on. -/
theorem four_cells {w : World} {b o : Nat} {v0 v1 v2 v3 : Value} (h : w.rangeAt b o [v0, v1, v2, v3]) : w.cell? ⟨b, o, none⟩ = some v0 ∧ w.cell? ⟨b, o + 1, none⟩ = some v1 ∧ w.cell? ⟨b, o + 2, none⟩ = some v2 ∧ w.cell? ⟨b, o + 3, none⟩ = some v3 :=
  ⟨h 0 _ rfl, h 1 _ rfl, h 2 _ rfl, h 3 _ rfl⟩
/-- What Same holds on to. -/
def SameS (w : World) (w' : World) : Prop := But [] w w'
theorem eight_keep {w W w' : World} {b1 o1 b2 o2 : Nat} {v0 v1 v2 v3 u0 u1 u2 u3 : Value}
    (h : W.cell? ⟨b1, o1, none⟩ = some v0 ∧ W.cell? ⟨b1, o1 + 1, none⟩ = some v1 ∧ W.cell? ⟨b1, o1 + 2, none⟩ = some v2 ∧ W.cell? ⟨b1, o1 + 3, none⟩ = some v3 ∧ W.cell? ⟨b2, o2, none⟩ = some u0 ∧ W.cell? ⟨b2, o2 + 1, none⟩ = some u1 ∧ W.cell? ⟨b2, o2 + 2, none⟩ = some u2 ∧ W.cell? ⟨b2, o2 + 3, none⟩ = some u3 ∧ SameS w W) (k : But [] W w') :
    w'.cell? ⟨b1, o1, none⟩ = some v0 ∧ w'.cell? ⟨b1, o1 + 1, none⟩ = some v1 ∧ w'.cell? ⟨b1, o1 + 2, none⟩ = some v2 ∧ w'.cell? ⟨b1, o1 + 3, none⟩ = some v3 ∧ w'.cell? ⟨b2, o2, none⟩ = some u0 ∧ w'.cell? ⟨b2, o2 + 1, none⟩ = some u1 ∧ w'.cell? ⟨b2, o2 + 2, none⟩ = some u2 ∧ w'.cell? ⟨b2, o2 + 3, none⟩ = some u3 ∧ SameS w w' := by
  obtain ⟨h0, h1, h2, h3, h4, h5, h6, h7, h8⟩ := h
  exact ⟨cell_keep h0 k (by simp), cell_keep h1 k (by simp), cell_keep h2 k (by simp), cell_keep h3 k (by simp), cell_keep h4 k (by simp), cell_keep h5 k (by simp), cell_keep h6 k (by simp), cell_keep h7 k (by simp), But.trans h8 k⟩

/-- The zero TLB's cells. -/
def ztlb : Array Value := ((List.range 34).map (tf [] 0)).toArray
theorem ztlb_zero (w : World) : (zeroValue 62).run Try.prog w = .ok (.agg ztlb) w := by kernel_rfl
theorem tlb_new (w : World) : TlbAt (w.alloc (.cells ztlb 62)) w.heap.size [] 0 :=
  ⟨by simp, VB.new w ztlb 62 34 rfl (tf [] 0) (fun j hj => by simp [ztlb, hj])⟩

/-- The chapter's example, so many pages put. -/
def aw : Nat → List En
  | 0 => []
  | k + 1 => putL (aw k) ⟨0, (k : Int) + 1, 3, false⟩
theorem aw_hit : getE 0 2 (aw 9) = some ⟨0, 2, 3, false⟩ := by decide
theorem aw_miss : getE 0 1 (aw 9) = none := by decide
theorem aw_stay : stay (ofF 3) (aw 9) = [] := by decide
theorem aw_len : (aw 9).length = 8 := by decide

end Go.Proofs.Ytjlcncdhlcpklaa.Tl
