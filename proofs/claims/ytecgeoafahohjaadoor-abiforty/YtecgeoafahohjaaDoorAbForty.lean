/-
  Layer 14 (abi): the contract of the statement that there are just forty calls, over the translated program.
-/
import Derived.Test.YtecgeoafahohjaaDoorAbAwake
import Derived.Test.YtecgeoafahohjaaDoorAbFlat
import Derived.Deep.LoopGhost
namespace Go.Proofs.YtecgeoafahohjaaDoor.Ab
open Go.ChangeShapes Go.WideShapes Go.ChangeAt Go.RowKit
open Wh
set_option linter.unusedVariables false
set_option maxRecDepth 20000

set_option maxHeartbeats 1000000 in
theorem forty_c (x : Int) (w : World) (h : NumOk w) : Calls Tryd.prog 6 #[.int .i64 x] w fun e w' => e = .returned (.bool true) ∧ But [] w w' := by
  have HO := hid h
  clear h
  go_enter Tryd.func6, Tryd.ntmps6
  go_wp2
  go_loopg [3, 4] 151 (fun g0 m i wx => ∃ (k : Int) (j : Int), k + g0 = 101 ∧ -50 ≤ k ∧ k ≤ 100 ∧ i = .int .i64 k ∧ m = .int .i64 j ∧ ((k ≤ 1 ∧ j = 0) ∨ (1 ≤ k ∧ k ≤ 41 ∧ j = k - 1) ∨ (41 ≤ k ∧ j = 40)) ∧ w = wx)
  case atStart => exact ⟨-50, 0, by omega, by omega, by omega, rfl, rfl, .inl ⟨by omega, rfl⟩, rfl⟩
  case round =>
    obtain ⟨k, j, hkg, hk0, hk, rfl, rfl, hj, rfl⟩ := hrel
    by_cases hlt : k < 100
    · have hj0 : 0 ≤ j ∧ j ≤ 40 := by omega
      obtain ⟨hj1, hj2⟩ := hj0
      go_wp2_with fail
      refine (known_c k _).mono ?_
      rintro e w1 ⟨rfl, rfl⟩
      cases hkn : kn k with
      | true =>
        have HK := hid (kn_true hkn)
        clear hkn
        go_wp2
        go_roundg (100 - k).toNat
        case measure => omega
        case rel => exact ⟨k + 1, j + 1, by omega, by omega, by omega, by go_num, by go_num, by have := HK.out; omega, rfl⟩
      | false =>
        have HK := hid (kn_false hkn)
        clear hkn
        go_wp2
        go_roundg (100 - k).toNat
        case measure => omega
        case rel => exact ⟨k + 1, j, by omega, by omega, by omega, by go_num, rfl, by have := HK.out; omega, rfl⟩
    · obtain rfl : k = 100 := by omega
      obtain rfl : j = 40 := by omega
      clear hj hk hk0 hkg hlt
      go_wp2_with fail
      refine (known_c x _).mono ?_
      rintro e w1 ⟨rfl, rfl⟩
      cases hkn : kn x with
      | true =>
        obtain ⟨h1, h2⟩ := kn_true hkn
        have hd1 : decide (1 ≤ x) = true := decide_eq_true h1
        have hd2 : decide (x ≤ 40) = true := decide_eq_true h2
        clear hkn
        go_wp2_with fail
        refine (awake_c _ HO.out).mono ?_
        rintro e w2 ⟨rfl, k2⟩
        have HB := hid k2
        clear k2
        go_wp2
        go_ret
        exact ⟨rfl, HB.out⟩
      | false =>
        by_cases h1 : 1 ≤ x
        · have h2 := kn_false hkn
          have hd1 : decide (1 ≤ x) = true := decide_eq_true h1
          have hd2 : decide (x ≤ 40) = false := decide_eq_false (by omega)
          clear hkn h2
          go_wp2_with fail
          refine (awake_c _ HO.out).mono ?_
          rintro e w2 ⟨rfl, k2⟩
          have HB := hid k2
          clear k2
          go_wp2
          go_ret
          exact ⟨rfl, HB.out⟩
        · have hd1 : decide (1 ≤ x) = false := decide_eq_false h1
          clear hkn
          go_wp2_with fail
          refine (awake_c _ HO.out).mono ?_
          rintro e w2 ⟨rfl, k2⟩
          have HB := hid k2
          clear k2
          go_wp2
          go_ret
          exact ⟨rfl, HB.out⟩
end Go.Proofs.YtecgeoafahohjaaDoor.Ab
