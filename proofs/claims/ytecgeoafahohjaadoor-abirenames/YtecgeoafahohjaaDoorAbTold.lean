/-
  Layer 14 (abi): contracts of told and of the functions that the statement hands in, over the translated program.
-/
import Derived.Test.YtecgeoafahohjaaDoorAbBase
import Derived.Test.YtecgeoafahohjaaDoorMaskMath
import Derived.Defers
import Derived.Recover
namespace Go.Proofs.YtecgeoafahohjaaDoor.Ab
open Go.ChangeShapes Go.WideShapes Go.ChangeAt Go.RowKit
set_option linter.unusedVariables false
set_option maxRecDepth 20000

theorem and511 (x : Int) : bits .and .i64 x 511 = x % 512 := and_mask64 9 511 x (by omega) (by decide)
theorem and255 (x : Int) : bits .and .i64 x 255 = x % 256 := and_mask64 8 255 x (by omega) (by decide)
/-- What the statement's function means by a name; whether it means something. -/
def mf (a : Int) (k n : Int) : Int := (n % 512 + a + 7 * k) % 512
def mb (o : Int) (k n : Int) : Bool := n != o
theorem clo_c (ga go : Nat) (a o k n : Int) (ha : 0 ≤ a ∧ a < 256) (hk : 0 ≤ k ∧ k ≤ 3) (w : World) (h1 : w.cell? ⟨ga, 0, none⟩ = some (.int .i64 a)) (h2 : w.cell? ⟨go, 0, none⟩ = some (.int .i64 o)) :
    Calls Tryd.prog 18 #[.int .i64 k, .int .i64 n, .pointer (some ⟨ga, 0, none⟩), .pointer (some ⟨go, 0, none⟩)] w fun e w' => e = .returned (.tuple #[.int .i64 (mf a k n), .bool (mb o k n)]) ∧ But [] w w' := by
  obtain ⟨m, hm⟩ : ∃ m, m = n % 512 := ⟨_, rfl⟩
  have e0 := and511 n
  rw [← hm] at e0
  have hm0 : 0 ≤ m := by omega
  have hm1 : m < 512 := by omega
  obtain ⟨ha0, ha1⟩ := ha
  obtain ⟨hk0, hk1⟩ := hk
  have e4 := and511 (m + a + 7 * k)
  have HF : Hid (mf a k n = (m + a + 7 * k) % 512) := by show _ = _; rw [hm]; rfl
  clear hm
  go_enter Tryd.func18, Tryd.ntmps18
  go_wp2
  go_quiet (fail)
  go_wp2
  go_ret2
  exact ⟨by rw [HF.out]; rfl, (But.refl [] w).drewN _⟩
theorem id_c (k n : Int) (w : World) : Calls Tryd.prog 19 #[.int .i64 k, .int .i64 n] w fun e w' => e = .returned (.tuple #[.int .i64 n, .bool true]) ∧ But [] w w' := by
  go_enter Tryd.func19, Tryd.ntmps19
  go_wp2
  go_ret2
  exact ⟨rfl, But.refl [] w⟩
theorem idle_c (w : World) : CallsD Tryd.prog 26 #[] .returning w fun e u' w' => e = .returned (.tuple #[]) ∧ u' = .returning ∧ w' = w := by
  refine callsD_of_wpS Tryd.func26 rfl fun c₀ cs hu => ?_
  apply wpS_region
  simp [wpOpsS, go_sem, recoverD, hu, Tryd.ntmps26]
  cases c₀
  simp_all [bodyPostS, results, Tryd.results26]
theorem eqFn1 (ga go : Nat) (w : World) : (binOp .eql 43 (.func (.func 18) #[] #[.pointer (some ⟨ga, 0, none⟩), .pointer (some ⟨go, 0, none⟩)]) .nilFunc).run Tryd.prog w = .ok (.bool false) w := by kernel_rfl
theorem eqFn2 (w : World) : (binOp .eql 43 (.func (.func 19) #[] #[]) .nilFunc).run Tryd.prog w = .ok (.bool false) w := by kernel_rfl
theorem told1_c (ga go : Nat) (a o k n : Int) (ha : 0 ≤ a ∧ a < 256) (hk : 0 ≤ k ∧ k ≤ 3) (w : World) (h1 : w.cell? ⟨ga, 0, none⟩ = some (.int .i64 a)) (h2 : w.cell? ⟨go, 0, none⟩ = some (.int .i64 o)) :
    Calls Tryd.prog 24 #[.func (.func 18) #[] #[.pointer (some ⟨ga, 0, none⟩), .pointer (some ⟨go, 0, none⟩)], .int .i64 k, .int .i64 n] w fun e w' => e = .returned (.tuple #[.int .i64 (mf a k n), .bool (mb o k n)]) ∧ But [] w w' := by
  have hnf := eqFn1 ga go
  go_enter_defers Tryd.func24, Tryd.ntmps24
  go_wp2_with (go_at_call 18; refine (clo_c ga go a o k n ha hk _ h1 h2).mono ?_; rintro e w1 ⟨rfl, k1⟩)
  refine leaves_cons (f := 26) (args := #[]) (by simp) (by simp [go_sem]) ?_
  refine (idle_c _).mono ?_
  rintro e u' w'' ⟨rfl, rfl, rfl⟩
  exact ⟨_, results_tmp2 rfl _ _ _, rfl, k1⟩
theorem told2_c (k n : Int) (w : World) : Calls Tryd.prog 24 #[.func (.func 19) #[] #[], .int .i64 k, .int .i64 n] w fun e w' => e = .returned (.tuple #[.int .i64 n, .bool true]) ∧ But [] w w' := by
  have hnf := eqFn2
  go_enter_defers Tryd.func24, Tryd.ntmps24
  go_wp2_with (go_at_call 19; refine (id_c k n _).mono ?_; rintro e w1 ⟨rfl, k1⟩)
  refine leaves_cons (f := 26) (args := #[]) (by simp) (by simp [go_sem]) ?_
  refine (idle_c _).mono ?_
  rintro e u' w'' ⟨rfl, rfl, rfl⟩
  exact ⟨_, results_tmp2 rfl _ _ _, rfl, k1⟩
end Go.Proofs.YtecgeoafahohjaaDoor.Ab
