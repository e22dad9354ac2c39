/-
  Layer 14 (abi): contracts of Known, Own, Changes, kindOf, bounds, letters, and of the document's Kind, Changes, Form, over the translated program.
-/
import Derived.Test.YtecgeoafahohjaaDoorAbMath
import Derived.Test.YtecgeoafahohjaaDoorChecked
import Derived.Test.YtecgeoafahohjaaDoorBut
import Derived.WalkKit
import Derived.WalkSpells
import Derived.BigQuiet
import Derived.Deep.CutBlock
namespace Go.Proofs.YtecgeoafahohjaaDoor.Ab
open Go.ChangeShapes Go.WideShapes Go.ChangeAt Go.RowKit
set_option linter.unusedVariables false
set_option maxRecDepth 20000

theorem hid {p : Prop} (h : p) : Hid p := h
theorem known_c (x : Int) (w : World) : Calls Tryd.prog 9 #[.int .i64 x] w fun e w' => e = .returned (.bool (kn x)) ∧ w = w' := by
  by_cases h1 : 1 ≤ x
  · by_cases h2 : x ≤ 40
    · have HK : Hid (kn x = true) := by show _ = _; simp [kn]; omega
      go_enter Tryd.func9, Tryd.ntmps9
      go_wp2
      go_ret
      rw [HK.out]
      exact ⟨rfl, rfl⟩
    · have HK : Hid (kn x = false) := by show _ = _; simp [kn]; omega
      go_enter Tryd.func9, Tryd.ntmps9
      go_wp2
      go_ret
      rw [HK.out]
      exact ⟨rfl, rfl⟩
  · have HK : Hid (kn x = false) := by show _ = _; simp [kn]; omega
    have hd : decide (1 ≤ x) = false := decide_eq_false h1
    go_enter Tryd.func9, Tryd.ntmps9
    go_wp2
    go_ret
    rw [HK.out]
    exact ⟨rfl, rfl⟩
/-- Is it one of 33 to 40? -/
def owB (x : Int) : Bool := decide (33 ≤ x ∧ x ≤ 40)
theorem own_c (x : Int) (w : World) : Calls Tryd.prog 14 #[.int .i64 x] w fun e w' => e = .returned (.bool (owB x)) ∧ w = w' := by
  by_cases h1 : 33 ≤ x
  · by_cases h2 : x ≤ 40
    · have HK : Hid (owB x = true) := by show _ = _; simp [owB]; omega
      go_enter Tryd.func14, Tryd.ntmps14
      go_wp2
      go_ret
      rw [HK.out]
      exact ⟨rfl, rfl⟩
    · have HK : Hid (owB x = false) := by show _ = _; simp [owB]; omega
      go_enter Tryd.func14, Tryd.ntmps14
      go_wp2
      go_ret
      rw [HK.out]
      exact ⟨rfl, rfl⟩
  · have HK : Hid (owB x = false) := by show _ = _; simp [owB]; omega
    have hd : decide (33 ≤ x) = false := decide_eq_false h1
    go_enter Tryd.func14, Tryd.ntmps14
    go_wp2
    go_ret
    rw [HK.out]
    exact ⟨rfl, rfl⟩
theorem kindOf_c (c : Int) (w : World) : Calls Tryd.prog 23 #[.int .u8 c] w fun e w' => (∃ k, e = .returned (.tuple #[.int .i64 k, .bool (decide (0 ≤ kd c))]) ∧ (0 ≤ kd c → k = kd c)) ∧ w = w' := by
  by_cases h1 : c = 102
  · subst h1; go_enter Tryd.func23, Tryd.ntmps23; go_wp2; go_ret2; exact ⟨⟨0, rfl, fun _ => rfl⟩, rfl⟩
  by_cases h2 : c = 98
  · subst h2; go_enter Tryd.func23, Tryd.ntmps23; go_wp2; go_ret2; exact ⟨⟨1, rfl, fun _ => rfl⟩, rfl⟩
  by_cases h3 : c = 115
  · subst h3; go_enter Tryd.func23, Tryd.ntmps23; go_wp2; go_ret2; exact ⟨⟨2, rfl, fun _ => rfl⟩, rfl⟩
  by_cases h4 : c = 112
  · subst h4; go_enter Tryd.func23, Tryd.ntmps23; go_wp2; go_ret2; exact ⟨⟨3, rfl, fun _ => rfl⟩, rfl⟩
  have HK : Hid (kd c = -1) := by show _ = _; unfold kd; rw [if_neg h1, if_neg h2, if_neg h3, if_neg h4]
  rw [HK.out]
  go_enter Tryd.func23, Tryd.ntmps23
  go_wp2
  go_ret2
  exact ⟨⟨0, rfl, fun h => absurd h (by decide)⟩, rfl⟩
theorem kind_c (c : Int) (w : World) : Calls Tryd.prog 12 #[.int .u8 c] w fun e w' => e = .returned (.int .i64 (kd c)) ∧ w = w' := by
  by_cases h1 : c = 102
  · subst h1; go_enter Tryd.func12, Tryd.ntmps12; go_wp2; go_ret; exact ⟨rfl, rfl⟩
  by_cases h2 : c = 98
  · subst h2; go_enter Tryd.func12, Tryd.ntmps12; go_wp2; go_ret; exact ⟨rfl, rfl⟩
  by_cases h3 : c = 115
  · subst h3; go_enter Tryd.func12, Tryd.ntmps12; go_wp2; go_ret; exact ⟨rfl, rfl⟩
  by_cases h4 : c = 112
  · subst h4; go_enter Tryd.func12, Tryd.ntmps12; go_wp2; go_ret; exact ⟨rfl, rfl⟩
  have HK : Hid (kd c = -1) := by show _ = _; unfold kd; rw [if_neg h1, if_neg h2, if_neg h3, if_neg h4]
  rw [HK.out]
  go_enter Tryd.func12, Tryd.ntmps12
  go_wp2
  go_ret
  exact ⟨rfl, rfl⟩
theorem bounds_c (c : Int) (hc : isL c) (w : World) : Calls Tryd.prog 25 #[.int .u8 c] w fun e w' => e = .returned (.tuple #[.int .i64 (lo c), .int .i64 (hi c)]) ∧ w = w' := by
  unfold isL at hc
  rcases hc with rfl | rfl | rfl | rfl | rfl | rfl | rfl | rfl | rfl | rfl | rfl
  all_goals
    go_enter Tryd.func25, Tryd.ntmps25
    go_wp2
    go_ret2
    exact ⟨rfl, rfl⟩
/-- What the program's table holds. -/
def numV : List Value := tabL.map fun l => .string (sv l)
def NumOk (w : World) : Prop := ∃ t fr, w.heap[0]? = some (.cells numV.toArray t fr)
theorem NumOk.keep {l : List Nat} {w w' : World} (h : NumOk w) (k : But l w w') (hn : 0 ∉ l) : NumOk w' := by
  obtain ⟨t, fr, h⟩ := h
  exact ⟨t, fr, (k.block 0 (Array.getElem?_eq_some_iff.1 h).1 hn).trans h⟩
theorem NumOk.keep0 {w w' : World} (h : NumOk w) (k : But [] w w') : NumOk w' := h.keep k (by simp)
theorem numV_get (k : Nat) (h : k < 41) : numV[k]? = some (.string (sv (tabL.getD k []))) := by
  have : k < tabL.length := h
  simp [numV, List.getElem?_eq_getElem this]
theorem NumOk.at_ {w : World} (h : NumOk w) (k : Nat) (hk : k < 41) : w.cell? ⟨0, k, none⟩ = some (.string (sv (tabL.getD k []))) := by
  obtain ⟨t, fr, h⟩ := h
  simp only [World.cell?, h]
  simpa using numV_get k hk
theorem letters_c (x : Int) (w : World) (h : NumOk w) : Calls Tryd.prog 22 #[.int .i64 x] w fun e w' => e = .returned (.string (sv (lt x))) ∧ w = w' := by
  cases hk : kn x with
  | false =>
    have HK : Hid (kn x = false) := hk
    rw [lt_no hk]
    clear hk
    go_enter Tryd.func22, Tryd.ntmps22
    go_wp2_with fail
    refine (known_c x _).mono ?_
    rintro e w1 ⟨rfl, rfl⟩
    rw [HK.out]
    go_wp2
    go_ret
    exact ⟨rfl, rfl⟩
  | true =>
    have HK : Hid (kn x = true) := hk
    obtain ⟨h1, h2⟩ := kn_true hk
    obtain ⟨k, rfl⟩ : ∃ k : Nat, x = k := ⟨x.toNat, by omega⟩
    have hcell := h.at_ k (by omega)
    rw [← lt_at (by omega) (by omega)] at hcell
    have h3 : (k : Int) < 41 := by omega
    clear hk h h1 h2
    go_enter Tryd.func22, Tryd.ntmps22
    go_wp2_with fail
    refine (known_c k _).mono ?_
    rintro e w1 ⟨rfl, rfl⟩
    rw [HK.out]
    go_wp2
    go_ret
    exact ⟨rfl, rfl⟩
end Go.Proofs.YtecgeoafahohjaaDoor.Ab
