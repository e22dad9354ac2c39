/-
  Layer 14 (abi): the chapter's example, over the translated program.
-/
import Derived.Test.YtecgeoafahohjaaDoorAbCheck
namespace Go.Proofs.YtecgeoafahohjaaDoor.Ab
open Go.ChangeShapes Go.WideShapes Go.ChangeAt Go.RowKit
open Wh
set_option linter.unusedVariables false
set_option maxRecDepth 20000

theorem nms_bind : nms (lt 11) = [(0, 2), (2, 0)] := by decide
theorem nc_bind : nc (nms (lt 11)) = [.int .i64 0, .int .i64 2, .int .i64 2, .int .i64 0] := by rw [nms_bind]; rfl
/-- Two names are the same. -/
theorem eqName (a k b j : Int) (w : World) : (Op.equalIn 10000 39 (.agg #[.int .i64 a, .int .i64 k]) (.agg #[.int .i64 b, .int .i64 j])).run Tryd.prog w = .ok (a == b && k == j) w := by
  rw [show (10000 : Nat) = 9999 + 1 from rfl, run_equalIn_struct w 9999 39 _ _ (by kernel_rfl) (by kernel_rfl)]
  simp [Program.fieldsOf, Tryd.underlying39, go_sem]
  by_cases h1 : a = b <;> by_cases h2 : k = j <;> simp [h1, h2]
theorem eqlName (a k b j : Int) (w : World) : (binOp .eql 39 (.agg #[.int .i64 a, .int .i64 k]) (.agg #[.int .i64 b, .int .i64 j])).run Tryd.prog w = .ok (.bool (a == b && k == j)) w := by
  simp [binOp, Op.equal, Op.maxDepth, eqName]
theorem neqName (a k b j : Int) (w : World) : (binOp .neq 39 (.agg #[.int .i64 a, .int .i64 k]) (.agg #[.int .i64 b, .int .i64 j])).run Tryd.prog w = .ok (.bool (!(a == b && k == j))) w := by
  simp [binOp, Op.equal, Op.maxDepth, eqName]
/-- The example's numbers. -/
def ga : Nat → Int
  | 0 => 3
  | 1 => 16
  | _ => 0
theorem bGet : Tryd.prog.built 29 [(0, .int .i64 1), (1, .agg #[.int .i64 3, .int .i64 16, .int .i64 0, .int .i64 0])] = some (cv 1 ga (zs 33)).toArray := by kernel_rfl
theorem rg_get : rgB 1 ga (zs 33) = false := rg_no2 (argN_all 1 (by omega) (by decide))
set_option maxHeartbeats 1000000 in
theorem awake_c (w : World) (h : NumOk w) : Calls Tryd.prog 11 #[] w fun e w' => e = .returned (.bool true) ∧ But [] w w' := by
  have HO := hid h
  clear h
  go_enter Tryd.func11, Tryd.ntmps11
  go_wp2_with fail
  refine (names_c 11 _ HO.out).mono ?_
  rintro e w1 ⟨A, n, c, rfl, hq, k1⟩
  rw [nc_bind] at hq
  have hn : n = 2 := by have := hq.1; simp at this; omega
  subst hn
  obtain ⟨g, off, cap, hv, -, hgl, hcap, hr⟩ := hq.row (by omega)
  injection hv with h1 h2 h3
  subst h1
  have hc0 := hr 0 _ rfl
  have hc1 := hr 1 _ rfl
  have hc2 := hr 2 _ rfl
  have hc3 := hr 3 _ rfl
  rw [Nat.add_zero] at hc0
  have HB := hid k1
  have HO1 := hid (HO.out.keep0 k1)
  have he := eqlName
  clear hq hr k1 hgl h3 hcap
  go_wp2_with (first
    | (refine wpList_build_g 29 [(0, .const (.int .i64 1)), (1, .tmp 21)] rfl (cv 1 ga (zs 33)).toArray bGet rfl ?_))
  refine (check_c 1 ga (zs 33) _ HO1.out (zs_len 33)).mono ?_
  rintro e w2 ⟨rfl, k2⟩
  have HB2 := hid (HB.out.trans k2)
  rw [rg_get]
  have h1 : erI false = 1 := rfl
  rw [h1]
  clear k2 h1
  go_wp2
  go_ret
  exact ⟨rfl, HB2.out⟩
end Go.Proofs.YtecgeoafahohjaaDoor.Ab
