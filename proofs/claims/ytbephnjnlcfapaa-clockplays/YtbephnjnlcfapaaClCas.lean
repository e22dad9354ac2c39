/-
  Layer 7 (clock): the library's atomic Bool: contracts of CompareAndSwap, where it hits and where it misses, over the translated program.
-/
import Derived.Test.YtbephnjnlcfapaaClAtom
import Derived.RegionCalls
namespace Go.Proofs.Ytbephnjnlcfapaa.Cl
open Go.ChangeShapes Go.WideShapes Go.ChangeAt Go.RowKit
set_option linter.unusedVariables false
set_option maxRecDepth 20000

theorem b32_c (x : Bool) (w : World) :
    Calls Try.prog 38 #[.bool x] w fun e w' => e = .returned (.int .u32 (if x then 1 else 0)) ∧ w = w' := by
  cases x <;> go_enter Try.func38, Try.ntmps38 <;> go_wp2 <;> go_ret <;> exact ⟨rfl, rfl⟩

theorem cas_hit (b o : Nat) (w : World) (hc : w.cell? ⟨b, o, none⟩ = some (.int .u32 0)) (hz : w.frozen? ⟨b, o, none⟩ = false) :
    Calls Try.prog 33 #[.pointer (some ⟨b, o, none⟩), .bool false, .bool true] w fun e w' => e = .returned (.bool true) ∧ w.drew.setCell ⟨b, o, none⟩ (.int .u32 1) = w' := by
  have hcas := run_call_cas_hit (P := Try.prog) Try.func37 (by kernel_rfl) (by kernel_rfl) (by kernel_rfl) .u32 (by kernel_rfl) (y := 1) (w := w.drew) (x := 0) (a := ⟨b, o, none⟩) (by simpa using hc) (by simpa using hz)
  go_enter Try.func33, Try.ntmps33
  go_wp2
  go_region_calls
  all_goals
    go_wp2
    go_ret
    exact ⟨rfl, rfl⟩
theorem cas_miss (b o : Nat) (w : World) (hc : w.cell? ⟨b, o, none⟩ = some (.int .u32 1)) (hz : w.frozen? ⟨b, o, none⟩ = false) :
    Calls Try.prog 33 #[.pointer (some ⟨b, o, none⟩), .bool false, .bool true] w fun e w' => e = .returned (.bool false) ∧ w.drew = w' := by
  have hcas := run_call_cas_miss (P := Try.prog) Try.func37 (by kernel_rfl) (by kernel_rfl) (by kernel_rfl) .u32 (by kernel_rfl) (o := 0) (y := 1) (w := w.drew) (x := 1) (a := ⟨b, o, none⟩) (by simpa using hc) (by simpa using hz) (by decide)
  go_enter Try.func33, Try.ntmps33
  go_wp2
  go_region_calls
  all_goals
    go_wp2
    go_ret
    exact ⟨rfl, rfl⟩
end Go.Proofs.Ytbephnjnlcfapaa.Cl
