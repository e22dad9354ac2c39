/-
  Layer 13 (ledger): the contract of the statement about a nil ledger, over the translated program.
-/
import Derived.Test.YtcdbdgmjdmkfeaaLgFlat
import Derived.Test.YtcdbdgmjdmkfeaaLgMove
namespace Go.Proofs.Ytcdbdgmjdmkfeaa.Lg
open Go.ChangeShapes Go.WideShapes Go.ChangeAt Go.RowKit
set_option linter.unusedVariables false
set_option maxRecDepth 20000

set_option maxHeartbeats 1000000 in
theorem none_c (K e t k n : Int) (w : World) : Calls Try.prog 5 #[.agg #[.int .i64 K, .int .i64 e, .int .i64 t, .int .i64 k, .int .i64 n]] w fun r w' => r = .returned (.bool true) ∧ But [] w w' := by
  obtain ⟨g, hg⟩ : ∃ g, g = w.heap.size := ⟨_, rfl⟩
  have hb := new_range w [.int .i64 K, .int .i64 e, .int .i64 t, .int .i64 k, .int .i64 n] 30
  change (w.alloc (.cells #[.int .i64 K, .int .i64 e, .int .i64 t, .int .i64 k, .int .i64 n] 30)).rangeAt _ _ _ at hb
  rw [← hg] at hb
  have HB0 := hid hb
  have HK0 : Hid (But [] w (w.alloc (.cells #[.int .i64 K, .int .i64 e, .int .i64 t, .int .i64 k, .int .i64 n] 30))) := (But.refl [] w).alloc _
  clear hb
  go_enter Try.func5, Try.ntmps5
  go_upto_region 2 with fail
  rw [← hg]
  clear hg
  generalize w.alloc (.cells #[.int .i64 K, .int .i64 e, .int .i64 t, .int .i64 k, .int .i64 n] 30) = w0 at *
  have hc1 := range_cells HB0.out 1 _ rfl
  have hc3 := range_cells HB0.out 3 _ rfl
  go_wp2_with fail
  refine (quota_nil e k _).mono ?_
  rintro r w1 ⟨rfl, k1⟩
  have HB1 := hid (range_below HB0.out k1)
  have HK1 := hid (HK0.out.trans k1)
  clear k1 hc1 hc3
  have hc1 := range_cells HB1.out 1 _ rfl
  have hc3 := range_cells HB1.out 3 _ rfl
  go_wp2_with fail
  refine (left_nil e k _).mono ?_
  rintro r w2 ⟨rfl, k2⟩
  have HB2 := hid (range_below HB1.out k2)
  have HK2 := hid (HK1.out.trans k2)
  clear k2 hc1 hc3
  have hc1 := range_cells HB2.out 1 _ rfl
  have hc2 := range_cells HB2.out 2 _ rfl
  have hc3 := range_cells HB2.out 3 _ rfl
  have hc4 := range_cells HB2.out 4 _ rfl
  go_wp2_with fail
  refine (take_nil e k n _).mono ?_
  rintro r w3 ⟨rfl, rfl⟩
  go_wp2_with fail
  refine (free_nil e k n _).mono ?_
  rintro r w4 ⟨rfl, rfl⟩
  go_wp2_with fail
  refine (move_nil e t k n _).mono ?_
  rintro r w5 ⟨rfl, rfl⟩
  go_wp2_with fail
  refine (close_nil e t _).mono ?_
  rintro r w6 ⟨rfl, rfl⟩
  go_wp2_with fail
  refine (awake_c _).mono ?_
  rintro r w7 ⟨rfl, k7⟩
  have HK7 := hid (HK2.out.trans k7)
  clear k7
  go_wp2
  go_ret
  exact ⟨rfl, HK7.out⟩
end Go.Proofs.Ytcdbdgmjdmkfeaa.Lg
