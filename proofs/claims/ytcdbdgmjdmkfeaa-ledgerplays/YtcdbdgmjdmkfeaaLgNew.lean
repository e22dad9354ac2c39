/-
  Layer 13 (ledger): contracts of New, and of the document's New, over the translated program.
-/
import Derived.Test.YtcdbdgmjdmkfeaaLgRef
namespace Go.Proofs.Ytcdbdgmjdmkfeaa.Lg
open Go.ChangeShapes Go.WideShapes Go.ChangeAt Go.RowKit
set_option linter.unusedVariables false
set_option maxRecDepth 20000

theorem wpList_build' {P : Program} {ops : Array Oper} {rest : List Oper} {o : Oper} {a : Act} {w : World} {Q : Exit → Act → World → Prop} (hg : o.guard = none) (t : TypeId) (parts : List (Nat × Operand)) (ho : o.op = .build t parts.toArray)
    (cells : Array Value) (hf : P.built t (parts.map fun (i, x) => (i, a.eval x)) = some cells)
    (h : wpList P ops Q rest (a.put o.dst (.agg cells)) w) : wpList P ops Q (o :: rest) a w := by
  have e : (parts.toArray.map fun (i, x) => (i, a.eval x)).toList = parts.map fun (i, x) => (i, a.eval x) := by simp
  exact wpList_build hg t parts.toArray ho (by rw [e, hf]; rfl) (by rw [e, hf]; exact h)
/-- The cells of a ledger of nothing; of the document's. -/
def zl : List Value := (List.range 130).map (lv 0 u0 u0)
theorem zl_len : zl.length = 130 := by simp [zl]
theorem zl_get (j : Nat) (h : j < 130) : zl[j]? = some (lv 0 u0 u0 j) := by simp [zl, h]
theorem bLed : Try.prog.built 58 [] = some zl.toArray := by kernel_rfl
def zd : List Value := (List.range 128).map (rv u0 u0)
theorem zd_len : zd.length = 128 := by simp [zd]
theorem zd_get (j : Nat) (h : j < 128) : zd[j]? = some (rv u0 u0 j) := by simp [zd, h]
theorem bDoc : Try.prog.built 37 [] = some zd.toArray := by kernel_rfl
attribute [irreducible] zl zd
theorem ld_new (w : World) : LdAt (w.alloc (.cells zl.toArray 58)) w.heap.size 0 u0 u0 :=
  VB.new w zl.toArray _ 130 (by simp [zl_len]) _ (fun j hj => by simpa using zl_get j hj)
theorem rf_new (w : World) : RfAt (w.alloc (.cells zd.toArray 37)) w.heap.size u0 u0 :=
  VB.new w zd.toArray _ 128 (by simp [zd_len]) _ (fun j hj => by simpa using zd_get j hj)
/-- Four numbers. -/
def av (a : Nat → Int) : List Value := [.int .i64 (a 0), .int .i64 (a 1), .int .i64 (a 2), .int .i64 (a 3)]
theorem infoFour : (Try.prog.info? 22).map (·.size) = some 4 := by kernel_rfl
theorem four_cases' {j : Nat} (h : j < 4) : j = 0 ∨ j = 1 ∨ j = 2 ∨ j = 3 := by omega
theorem idx_four (a : Nat → Int) (j : Nat) (hj : j < 4) (w : World) : (Instr.index 22 (.agg (av a).toArray) (.int .i64 j)).run Try.prog w = .ok (.int .i64 (a j)) w := by
  rcases four_cases' hj with rfl | rfl | rfl | rfl <;> kernel_rfl
theorem av_cell {w : World} {B : Nat} {a : Nat → Int} (h : w.rangeAt B 0 (av a)) (j : Nat) (hj : j < 4) : w.cell? ⟨B, j, none⟩ = some (.int .i64 (a j)) := by
  have h1 : (av a)[j]? = some (.int .i64 (a j)) := by rcases four_cases' hj with rfl | rfl | rfl | rfl <;> rfl
  have := h j _ h1
  rwa [Nat.zero_add] at this
theorem new_c (a : Nat → Int) (w : World) :
    Calls Try.prog 6 #[.agg (av a).toArray] w fun e w' => ∃ b, e = .returned (.pointer (some ⟨b, 0, none⟩)) ∧ w.heap.size ≤ b ∧ LdAt w' b 0 (q0 a 4) u0 ∧ But [] w w' := by
  obtain ⟨B, hB⟩ : ∃ B, B = w.heap.size := ⟨_, rfl⟩
  obtain ⟨w0, hw0⟩ : ∃ w0, w0 = w.alloc (.cells (av a).toArray 22) := ⟨_, rfl⟩
  have hr := new_range w (av a) 22
  rw [← hw0, ← hB] at hr
  have HR : Hid (w0.rangeAt B 0 (av a)) := hr
  have HK0 : Hid (But [] w w0) := by show But _ _ _; rw [hw0]; exact (But.refl [] w).alloc _
  have HS0 : Hid (w0.heap.size = B + 1) := by show _ = _; rw [hw0, hB]; simp
  have HB : Hid (B = w.heap.size) := hB
  clear hr
  go_enter Try.func6, Try.ntmps6
  go_upto_region 1 with fail
  rw [← hw0, ← hB]
  clear hw0 hB
  obtain ⟨b, hb⟩ : ∃ b, b = w0.heap.size := ⟨_, rfl⟩
  have HBB : Hid (b = B + 1) := hb.trans HS0.out
  have H1 : Hid (LdAt (w0.alloc (.cells zl.toArray 58)) b 0 u0 u0) := by show LdAt _ _ _ _ _; rw [hb]; exact ld_new w0
  have hk1 : But [] w0 (w0.alloc (.cells zl.toArray 58)) := (But.refl [] w0).alloc _
  have HR1 : Hid ((w0.alloc (.cells zl.toArray 58)).rangeAt B 0 (av a)) := range_keep HR.out hk1 (by simp)
  have HK1 : Hid (But [b] w (w0.alloc (.cells zl.toArray 58))) := (HK0.out.trans hk1).any _
  go_upto_region 2 with (first | (refine wpList_build' rfl 58 [] rfl zl.toArray ?hb ?_; case hb => exact bLed))
  rw [← hb]
  generalize w0.alloc (.cells zl.toArray 58) = w1 at *
  clear hb hk1
  go_wp2_with (first
    | (refine wpList_load_mid rfl 22 _ rfl B 0 rfl (av a) _ HR1.out Try.underlying22 rfl infoFour ?_))
  go_loopg [9] 5 (fun g0 i wx => ∃ j : Nat, j + g0 = 5 ∧ j ≤ 4 ∧ i = .int .i64 j ∧ Hid (LdAt wx b 0 (q0 a j) u0) ∧ Hid (But [b] w wx))
  case atStart => exact ⟨0, by omega, by omega, rfl, by show LdAt _ _ _ _ _; rw [q0_zero]; exact H1.out, HK1⟩
  case round =>
    obtain ⟨j, hjg, hj4, rfl, HJ, KJ⟩ := hrel
    by_cases hj : j < 4
    · have hix := idx_four a j hj
      have hj' : (j : Int) < 4 := by omega
      obtain ⟨hc, hz⟩ := HJ.out.q 0 j (by omega) hj
      have H2 : Hid (LdAt (wr.setCell ⟨b, 2 + 0 * 8 + j * 2, none⟩ (.int .i64 (clm (a j)))) b 0 (q0 a (j + 1)) u0) := by
        show LdAt _ _ _ _ _
        rw [← q0_succ]
        exact HJ.out.setQ 0 j hj _
      have K2 : Hid (But [b] w (wr.setCell ⟨b, 2 + 0 * 8 + j * 2, none⟩ (.int .i64 (clm (a j))))) := KJ.out.setCell (.inl (by simp)) _
      obtain ⟨x, hx⟩ : ∃ x, x = a j := ⟨_, rfl⟩
      rw [← hx] at hix H2 K2
      simp only [Nat.zero_mul, Nat.add_zero] at hc hz H2 K2
      clear hx
      by_cases hx0 : x < 0
      · have HC : Hid (clm x = 0) := if_pos hx0
        rw [HC.out] at H2 K2
        have h1 : (if x < 0 then (0 : Int) else x) = 0 := if_pos hx0
        go_wp2
        go_roundg (5 - (j + 1))
        case measure => omega
        case rel => exact ⟨j + 1, by omega, by omega, by go_num, H2, K2⟩
      · have h1 : (if x < 0 then (0 : Int) else x) = x := if_neg hx0
        by_cases hx1 : 512 < x
        · have HC : Hid (clm x = 512) := by show _ = _; unfold clm; rw [if_neg hx0, if_pos hx1]
          rw [HC.out] at H2 K2
          have h2 : (if 512 < x then (512 : Int) else x) = 512 := if_pos hx1
          go_wp2
          go_roundg (5 - (j + 1))
          case measure => omega
          case rel => exact ⟨j + 1, by omega, by omega, by go_num, H2, K2⟩
        · have HC : Hid (clm x = x) := by show _ = _; unfold clm; rw [if_neg hx0, if_neg hx1]
          rw [HC.out] at H2 K2
          have h2 : (if 512 < x then (512 : Int) else x) = x := if_neg hx1
          go_wp2
          go_roundg (5 - (j + 1))
          case measure => omega
          case rel => exact ⟨j + 1, by omega, by omega, by go_num, H2, K2⟩
    · obtain rfl : j = 4 := by omega
      go_wp2
      go_ret
      have hb := HBB.out
      have hw := HB.out
      exact ⟨b, rfl, by omega, HJ.out, KJ.out.strike (by simp; omega)⟩
theorem rnew_c (a : Nat → Int) (w : World) :
    Calls Try.prog 7 #[.agg (av a).toArray] w fun e w' => ∃ b, e = .returned (.pointer (some ⟨b, 0, none⟩)) ∧ w.heap.size ≤ b ∧ RfAt w' b (q0 a 4) u0 ∧ But [] w w' := by
  obtain ⟨B, hB⟩ : ∃ B, B = w.heap.size := ⟨_, rfl⟩
  obtain ⟨w0, hw0⟩ : ∃ w0, w0 = w.alloc (.cells (av a).toArray 22) := ⟨_, rfl⟩
  have hr := new_range w (av a) 22
  rw [← hw0, ← hB] at hr
  have HR : Hid (w0.rangeAt B 0 (av a)) := hr
  have HK0 : Hid (But [] w w0) := by show But _ _ _; rw [hw0]; exact (But.refl [] w).alloc _
  have HS0 : Hid (w0.heap.size = B + 1) := by show _ = _; rw [hw0, hB]; simp
  have HB : Hid (B = w.heap.size) := hB
  clear hr
  go_enter Try.func7, Try.ntmps7
  go_upto_region 1 with fail
  rw [← hw0, ← hB]
  clear hw0 hB
  obtain ⟨b, hb⟩ : ∃ b, b = w0.heap.size := ⟨_, rfl⟩
  have HBB : Hid (b = B + 1) := hb.trans HS0.out
  have H1 : Hid (RfAt (w0.alloc (.cells zd.toArray 37)) b u0 u0) := by show RfAt _ _ _ _; rw [hb]; exact rf_new w0
  have hk1 : But [] w0 (w0.alloc (.cells zd.toArray 37)) := (But.refl [] w0).alloc _
  have HR1 : Hid ((w0.alloc (.cells zd.toArray 37)).rangeAt B 0 (av a)) := range_keep HR.out hk1 (by simp)
  have HK1 : Hid (But [b] w (w0.alloc (.cells zd.toArray 37))) := (HK0.out.trans hk1).any _
  go_upto_region 2 with (first | (refine wpList_build' rfl 37 [] rfl zd.toArray ?hb ?_; case hb => exact bDoc))
  rw [← hb]
  generalize w0.alloc (.cells zd.toArray 37) = w1 at *
  clear hb hk1
  go_wp2
  go_loopg [4, 5] 5 (fun g0 i n wx => ∃ j : Nat, j + g0 = 5 ∧ j ≤ 4 ∧ i = .int .i64 j ∧ Hid (RfAt wx b (q0 a j) u0) ∧ Hid (wx.rangeAt B 0 (av a)) ∧ Hid (But [b] w wx))
  case atStart => exact ⟨0, by omega, by omega, rfl, by show RfAt _ _ _ _; rw [q0_zero]; exact H1.out, HR1, HK1⟩
  case round =>
    obtain ⟨j, hjg, hj4, rfl, HJ, HRJ, KJ⟩ := hrel
    by_cases hj : j < 4
    · have hcx := av_cell HRJ.out j hj
      have hj' : (j : Int) < 4 := by omega
      obtain ⟨hc, hz⟩ := HJ.out.q 0 j (by omega) hj
      have H2 : Hid (RfAt (wr.setCell ⟨b, 0 * 8 + j, none⟩ (.int .i64 (clm (a j)))) b (q0 a (j + 1)) u0) := by
        show RfAt _ _ _ _
        rw [← q0_succ]
        exact HJ.out.setQ 0 j hj _
      have K2 : Hid (But [b] w (wr.setCell ⟨b, 0 * 8 + j, none⟩ (.int .i64 (clm (a j))))) := KJ.out.setCell (.inl (by simp)) _
      have HR2 : Hid ((wr.setCell ⟨b, 0 * 8 + j, none⟩ (.int .i64 (clm (a j)))).rangeAt B 0 (av a)) := range_keep HRJ.out ((But.refl [b] wr).setCell (.inl (by simp)) _) (by have := HBB.out; simp; omega)
      obtain ⟨x, hx⟩ : ∃ x, x = a j := ⟨_, rfl⟩
      rw [← hx] at hcx H2 K2 HR2
      simp only [Nat.zero_mul, Nat.zero_add] at hc hz H2 K2 HR2
      clear hx
      by_cases hx0 : x < 0
      · have HC : Hid (clm x = 0) := if_pos hx0
        rw [HC.out] at H2 K2 HR2
        go_wp2
        go_roundg (5 - (j + 1))
        case measure => omega
        case rel => exact ⟨j + 1, by omega, by omega, by go_num, H2, HR2, K2⟩
      · have hx0' : decide (x < 0) = false := decide_eq_false hx0
        by_cases hx1 : 512 < x
        · have HC : Hid (clm x = 512) := by show _ = _; unfold clm; rw [if_neg hx0, if_pos hx1]
          rw [HC.out] at H2 K2 HR2
          go_wp2
          go_roundg (5 - (j + 1))
          case measure => omega
          case rel => exact ⟨j + 1, by omega, by omega, by go_num, H2, HR2, K2⟩
        · have HC : Hid (clm x = x) := by show _ = _; unfold clm; rw [if_neg hx0, if_neg hx1]
          rw [HC.out] at H2 K2 HR2
          have h2 : decide (512 < x) = false := decide_eq_false hx1
          go_wp2
          go_roundg (5 - (j + 1))
          case measure => omega
          case rel => exact ⟨j + 1, by omega, by omega, by go_num, H2, HR2, K2⟩
    · obtain rfl : j = 4 := by omega
      go_wp2
      go_ret
      have hb := HBB.out
      have hw := HB.out
      exact ⟨b, rfl, by omega, HJ.out, KJ.out.strike (by simp; omega)⟩
end Go.Proofs.Ytcdbdgmjdmkfeaa.Lg
