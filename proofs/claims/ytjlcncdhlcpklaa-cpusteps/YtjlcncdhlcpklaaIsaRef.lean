/-
  Contracts of the document's own answers for layer 2, of the statements' helpers, and of a table that is made.
-/
import Derived.Test.YtjlcncdhlcpklaaIsaWord
namespace Go.Proofs.Ytjlcncdhlcpklaa
open Go.ChangeShapes Go.WideShapes Go.ChangeAt Go.RowKit
set_option linter.unusedVariables false
set_option maxRecDepth 20000

theorem results_four {fn : Func} {t u v x : Tmp} (h : fn.results = #[.tmp t, .tmp u, .tmp v, .tmp x]) (tmps : Array Value) (P : Program) (w : World) :
    (results fn tmps).run P w = .ok (.tuple #[tmps.getD t undef, tmps.getD u undef, tmps.getD v undef, tmps.getD x undef]) w := by simp [results, h]

set_option maxHeartbeats 2000000 in
theorem rfields_c (op : Int) (w : World) :
    Calls Try.prog 67 #[.int .i64 op] w fun e w' => e = .returned (.tuple #[.bool (faB op), .bool (fbB op), .bool (fiB op), .bool (knB op)]) ∧ w = w' := by
  rcases op_cases op with h | h | h
  · obtain ⟨e1, e2, e3, e4⟩ := kn_lo op h
    rw [e1, e2, e3, e4]
    clear e1 e2 e3 e4
    have h1 : decide (1 ≤ op) = false := by simp; omega
    have h3 : decide (3 ≤ op) = false := by simp; omega
    have h4 : decide (14 ≤ op) = false := by simp; omega
    have h5 : (op == 21) = false := by simp; omega
    have h6 : (op == 18) = false := by simp; omega
    have h7 : (op == 22) = false := by simp; omega
    have h8 : (op == 24) = false := by simp; omega
    go_enter Try.func67, Try.ntmps67
    go_wp2
    refine bodyPost_ret (results_four rfl _ _ _) rfl ?_
    exact ⟨rfl, rfl⟩
  · obtain ⟨e1, e2, e3, e4⟩ := kn_hi op h
    rw [e1, e2, e3, e4]
    clear e1 e2 e3 e4
    have h1 : decide (op ≤ 24) = false := by simp; omega
    have h3 : decide (op ≤ 12) = false := by simp; omega
    have h4 : decide (op ≤ 17) = false := by simp; omega
    have h5 : (op == 21) = false := by simp; omega
    have h6 : (op == 18) = false := by simp; omega
    have h7 : (op == 22) = false := by simp; omega
    have h8 : (op == 24) = false := by simp; omega
    go_enter Try.func67, Try.ntmps67
    go_wp2
    refine bodyPost_ret (results_four rfl _ _ _) rfl ?_
    exact ⟨rfl, rfl⟩
  · rcases h with rfl | rfl | rfl | rfl | rfl | rfl | rfl | rfl | rfl | rfl | rfl | rfl | rfl | rfl | rfl | rfl | rfl | rfl | rfl | rfl | rfl | rfl | rfl | rfl
    all_goals
      go_enter Try.func67, Try.ntmps67
      go_wp2
      refine bodyPost_ret (results_four rfl _ _ _) rfl ?_
      exact ⟨rfl, rfl⟩
theorem vld_out {op a b i : Int} (h : ¬ ((1 ≤ op ∧ op ≤ 24) ∧ (0 ≤ a ∧ a ≤ 15) ∧ (0 ≤ b ∧ b ≤ 15) ∧ (-32768 ≤ i ∧ i ≤ 32767))) : vldB op a b i = false := by
  cases hv : vldB op a b i
  · rfl
  · exact absurd (vld_bounds hv) h
theorem may_in (has : Bool) (n lo hi : Int) (h : lo ≤ n ∧ n ≤ hi) : mayB has n lo hi = (has || decide (n = 0)) := by
  cases has
  · simp [mayB]
  · simp [mayB, h.1, h.2]
theorem vld_in {op a b i : Int} (hk : knB op = true) (ha : 0 ≤ a ∧ a ≤ 15) (hb : 0 ≤ b ∧ b ≤ 15) (hi : -32768 ≤ i ∧ i ≤ 32767) :
    vldB op a b i = ((faB op || decide (a = 0)) && (fbB op || decide (b = 0)) && (fiB op || decide (i = 0))) := by
  unfold vldB
  rw [hk, may_in _ _ _ _ ha, may_in _ _ _ _ hb, may_in _ _ _ _ hi]
  rfl
theorem kn_of (op : Int) (h : knB op = false) : ¬ (1 ≤ op ∧ op ≤ 24) := by
  intro ⟨h1, h2⟩
  simp [knB, h1, h2] at h
set_option maxHeartbeats 4000000 in
theorem rvalid_c (op a b i : Int) (w : World) :
    Calls Try.prog 50 #[.agg #[.int .i64 op, .int .i64 a, .int .i64 b, .int .i64 i]] w fun e w' => e = .returned (.bool (vldB op a b i)) ∧ Below w.heap.size w w' := by
  cases hk : knB op
  · have HV : Hid (vldB op a b i = false) := vld_out (fun h => kn_of op hk h.1)
    go_enter Try.func50, Try.ntmps50
    go_wp2_with fail
    refine (rfields_c _ _).mono ?_
    rintro e w1 ⟨rfl, rfl⟩
    rw [hk]
    go_wp2
    go_ret
    exact ⟨by rw [HV.out]; rfl, (Below.refl _ _).alloc (Nat.le_refl _) _⟩
  by_cases g0 : a < 0
  · have HV : Hid (vldB op a b i = false) := vld_out (fun h => by omega)
    go_enter Try.func50, Try.ntmps50
    go_wp2_with fail
    refine (rfields_c _ _).mono ?_
    rintro e w1 ⟨rfl, rfl⟩
    rw [hk]
    go_wp2
    go_ret
    exact ⟨by rw [HV.out]; rfl, (Below.refl _ _).alloc (Nat.le_refl _) _⟩
  by_cases g1 : 15 < a
  · have HV : Hid (vldB op a b i = false) := vld_out (fun h => by omega)
    go_enter Try.func50, Try.ntmps50
    go_wp2_with fail
    refine (rfields_c _ _).mono ?_
    rintro e w1 ⟨rfl, rfl⟩
    rw [hk]
    go_wp2
    go_ret
    exact ⟨by rw [HV.out]; rfl, (Below.refl _ _).alloc (Nat.le_refl _) _⟩
  by_cases g2 : b < 0
  · have HV : Hid (vldB op a b i = false) := vld_out (fun h => by omega)
    go_enter Try.func50, Try.ntmps50
    go_wp2_with fail
    refine (rfields_c _ _).mono ?_
    rintro e w1 ⟨rfl, rfl⟩
    rw [hk]
    go_wp2
    go_ret
    exact ⟨by rw [HV.out]; rfl, (Below.refl _ _).alloc (Nat.le_refl _) _⟩
  by_cases g3 : 15 < b
  · have HV : Hid (vldB op a b i = false) := vld_out (fun h => by omega)
    go_enter Try.func50, Try.ntmps50
    go_wp2_with fail
    refine (rfields_c _ _).mono ?_
    rintro e w1 ⟨rfl, rfl⟩
    rw [hk]
    go_wp2
    go_ret
    exact ⟨by rw [HV.out]; rfl, (Below.refl _ _).alloc (Nat.le_refl _) _⟩
  by_cases g4 : i < -32768
  · have HV : Hid (vldB op a b i = false) := vld_out (fun h => by omega)
    go_enter Try.func50, Try.ntmps50
    go_wp2_with fail
    refine (rfields_c _ _).mono ?_
    rintro e w1 ⟨rfl, rfl⟩
    rw [hk]
    go_wp2
    go_ret
    exact ⟨by rw [HV.out]; rfl, (Below.refl _ _).alloc (Nat.le_refl _) _⟩
  by_cases g5 : 32767 < i
  · have HV : Hid (vldB op a b i = false) := vld_out (fun h => by omega)
    go_enter Try.func50, Try.ntmps50
    go_wp2_with fail
    refine (rfields_c _ _).mono ?_
    rintro e w1 ⟨rfl, rfl⟩
    rw [hk]
    go_wp2
    go_ret
    exact ⟨by rw [HV.out]; rfl, (Below.refl _ _).alloc (Nat.le_refl _) _⟩
  have hin := vld_in hk (a := a) (b := b) (i := i) (by omega) (by omega) (by omega)
  cases hfaB : faB op
  · by_cases ea : a = 0
    · cases hfbB : fbB op
      · by_cases eb : b = 0
        · cases hfiB : fiB op
          · by_cases ei : i = 0
            · have HV : Hid (vldB op a b i = true) := by
                show _ = _
                rw [hin]
                simp [hfaB, ea, hfbB, eb, hfiB, ei]
              have ba : (a == 0) = true := by simp [ea]
              clear ea
              have bb : (b == 0) = true := by simp [eb]
              clear eb
              have bi : (i == 0) = true := by simp [ei]
              clear ei
              clear hin
              go_enter Try.func50, Try.ntmps50
              go_wp2_with fail
              refine (rfields_c _ _).mono ?_
              rintro e w1 ⟨rfl, rfl⟩
              rw [hk, hfaB, hfbB, hfiB]
              go_wp2
              go_ret
              exact ⟨by rw [HV.out]; rfl, (Below.refl _ _).alloc (Nat.le_refl _) _⟩
            · have HV : Hid (vldB op a b i = false) := by
                show _ = _
                rw [hin]
                simp [hfaB, ea, hfbB, eb, hfiB, ei]
              have ba : (a == 0) = true := by simp [ea]
              clear ea
              have bb : (b == 0) = true := by simp [eb]
              clear eb
              have bi : (i == 0) = false := by simp [ei]
              clear ei
              clear hin
              go_enter Try.func50, Try.ntmps50
              go_wp2_with fail
              refine (rfields_c _ _).mono ?_
              rintro e w1 ⟨rfl, rfl⟩
              rw [hk, hfaB, hfbB, hfiB]
              go_wp2
              go_ret
              exact ⟨by rw [HV.out]; rfl, (Below.refl _ _).alloc (Nat.le_refl _) _⟩
          · have HV : Hid (vldB op a b i = true) := by
              show _ = _
              rw [hin]
              simp [hfaB, ea, hfbB, eb, hfiB]
            have ba : (a == 0) = true := by simp [ea]
            clear ea
            have bb : (b == 0) = true := by simp [eb]
            clear eb
            clear hin
            go_enter Try.func50, Try.ntmps50
            go_wp2_with fail
            refine (rfields_c _ _).mono ?_
            rintro e w1 ⟨rfl, rfl⟩
            rw [hk, hfaB, hfbB, hfiB]
            go_wp2
            go_ret
            exact ⟨by rw [HV.out]; rfl, (Below.refl _ _).alloc (Nat.le_refl _) _⟩
        · have HV : Hid (vldB op a b i = false) := by
            show _ = _
            rw [hin]
            simp [hfaB, ea, hfbB, eb]
          have ba : (a == 0) = true := by simp [ea]
          clear ea
          have bb : (b == 0) = false := by simp [eb]
          clear eb
          clear hin
          go_enter Try.func50, Try.ntmps50
          go_wp2_with fail
          refine (rfields_c _ _).mono ?_
          rintro e w1 ⟨rfl, rfl⟩
          rw [hk, hfaB, hfbB]
          go_wp2
          go_ret
          exact ⟨by rw [HV.out]; rfl, (Below.refl _ _).alloc (Nat.le_refl _) _⟩
      · cases hfiB : fiB op
        · by_cases ei : i = 0
          · have HV : Hid (vldB op a b i = true) := by
              show _ = _
              rw [hin]
              simp [hfaB, ea, hfbB, hfiB, ei]
            have ba : (a == 0) = true := by simp [ea]
            clear ea
            have bi : (i == 0) = true := by simp [ei]
            clear ei
            clear hin
            go_enter Try.func50, Try.ntmps50
            go_wp2_with fail
            refine (rfields_c _ _).mono ?_
            rintro e w1 ⟨rfl, rfl⟩
            rw [hk, hfaB, hfbB, hfiB]
            go_wp2
            go_ret
            exact ⟨by rw [HV.out]; rfl, (Below.refl _ _).alloc (Nat.le_refl _) _⟩
          · have HV : Hid (vldB op a b i = false) := by
              show _ = _
              rw [hin]
              simp [hfaB, ea, hfbB, hfiB, ei]
            have ba : (a == 0) = true := by simp [ea]
            clear ea
            have bi : (i == 0) = false := by simp [ei]
            clear ei
            clear hin
            go_enter Try.func50, Try.ntmps50
            go_wp2_with fail
            refine (rfields_c _ _).mono ?_
            rintro e w1 ⟨rfl, rfl⟩
            rw [hk, hfaB, hfbB, hfiB]
            go_wp2
            go_ret
            exact ⟨by rw [HV.out]; rfl, (Below.refl _ _).alloc (Nat.le_refl _) _⟩
        · have HV : Hid (vldB op a b i = true) := by
            show _ = _
            rw [hin]
            simp [hfaB, ea, hfbB, hfiB]
          have ba : (a == 0) = true := by simp [ea]
          clear ea
          clear hin
          go_enter Try.func50, Try.ntmps50
          go_wp2_with fail
          refine (rfields_c _ _).mono ?_
          rintro e w1 ⟨rfl, rfl⟩
          rw [hk, hfaB, hfbB, hfiB]
          go_wp2
          go_ret
          exact ⟨by rw [HV.out]; rfl, (Below.refl _ _).alloc (Nat.le_refl _) _⟩
    · have HV : Hid (vldB op a b i = false) := by
        show _ = _
        rw [hin]
        simp [hfaB, ea]
      have ba : (a == 0) = false := by simp [ea]
      clear ea
      clear hin
      go_enter Try.func50, Try.ntmps50
      go_wp2_with fail
      refine (rfields_c _ _).mono ?_
      rintro e w1 ⟨rfl, rfl⟩
      rw [hk, hfaB]
      go_wp2
      go_ret
      exact ⟨by rw [HV.out]; rfl, (Below.refl _ _).alloc (Nat.le_refl _) _⟩
  · cases hfbB : fbB op
    · by_cases eb : b = 0
      · cases hfiB : fiB op
        · by_cases ei : i = 0
          · have HV : Hid (vldB op a b i = true) := by
              show _ = _
              rw [hin]
              simp [hfaB, hfbB, eb, hfiB, ei]
            have bb : (b == 0) = true := by simp [eb]
            clear eb
            have bi : (i == 0) = true := by simp [ei]
            clear ei
            clear hin
            go_enter Try.func50, Try.ntmps50
            go_wp2_with fail
            refine (rfields_c _ _).mono ?_
            rintro e w1 ⟨rfl, rfl⟩
            rw [hk, hfaB, hfbB, hfiB]
            go_wp2
            go_ret
            exact ⟨by rw [HV.out]; rfl, (Below.refl _ _).alloc (Nat.le_refl _) _⟩
          · have HV : Hid (vldB op a b i = false) := by
              show _ = _
              rw [hin]
              simp [hfaB, hfbB, eb, hfiB, ei]
            have bb : (b == 0) = true := by simp [eb]
            clear eb
            have bi : (i == 0) = false := by simp [ei]
            clear ei
            clear hin
            go_enter Try.func50, Try.ntmps50
            go_wp2_with fail
            refine (rfields_c _ _).mono ?_
            rintro e w1 ⟨rfl, rfl⟩
            rw [hk, hfaB, hfbB, hfiB]
            go_wp2
            go_ret
            exact ⟨by rw [HV.out]; rfl, (Below.refl _ _).alloc (Nat.le_refl _) _⟩
        · have HV : Hid (vldB op a b i = true) := by
            show _ = _
            rw [hin]
            simp [hfaB, hfbB, eb, hfiB]
          have bb : (b == 0) = true := by simp [eb]
          clear eb
          clear hin
          go_enter Try.func50, Try.ntmps50
          go_wp2_with fail
          refine (rfields_c _ _).mono ?_
          rintro e w1 ⟨rfl, rfl⟩
          rw [hk, hfaB, hfbB, hfiB]
          go_wp2
          go_ret
          exact ⟨by rw [HV.out]; rfl, (Below.refl _ _).alloc (Nat.le_refl _) _⟩
      · have HV : Hid (vldB op a b i = false) := by
          show _ = _
          rw [hin]
          simp [hfaB, hfbB, eb]
        have bb : (b == 0) = false := by simp [eb]
        clear eb
        clear hin
        go_enter Try.func50, Try.ntmps50
        go_wp2_with fail
        refine (rfields_c _ _).mono ?_
        rintro e w1 ⟨rfl, rfl⟩
        rw [hk, hfaB, hfbB]
        go_wp2
        go_ret
        exact ⟨by rw [HV.out]; rfl, (Below.refl _ _).alloc (Nat.le_refl _) _⟩
    · cases hfiB : fiB op
      · by_cases ei : i = 0
        · have HV : Hid (vldB op a b i = true) := by
            show _ = _
            rw [hin]
            simp [hfaB, hfbB, hfiB, ei]
          have bi : (i == 0) = true := by simp [ei]
          clear ei
          clear hin
          go_enter Try.func50, Try.ntmps50
          go_wp2_with fail
          refine (rfields_c _ _).mono ?_
          rintro e w1 ⟨rfl, rfl⟩
          rw [hk, hfaB, hfbB, hfiB]
          go_wp2
          go_ret
          exact ⟨by rw [HV.out]; rfl, (Below.refl _ _).alloc (Nat.le_refl _) _⟩
        · have HV : Hid (vldB op a b i = false) := by
            show _ = _
            rw [hin]
            simp [hfaB, hfbB, hfiB, ei]
          have bi : (i == 0) = false := by simp [ei]
          clear ei
          clear hin
          go_enter Try.func50, Try.ntmps50
          go_wp2_with fail
          refine (rfields_c _ _).mono ?_
          rintro e w1 ⟨rfl, rfl⟩
          rw [hk, hfaB, hfbB, hfiB]
          go_wp2
          go_ret
          exact ⟨by rw [HV.out]; rfl, (Below.refl _ _).alloc (Nat.le_refl _) _⟩
      · have HV : Hid (vldB op a b i = true) := by
          show _ = _
          rw [hin]
          simp [hfaB, hfbB, hfiB]
        clear hin
        go_enter Try.func50, Try.ntmps50
        go_wp2_with fail
        refine (rfields_c _ _).mono ?_
        rintro e w1 ⟨rfl, rfl⟩
        rw [hk, hfaB, hfbB, hfiB]
        go_wp2
        go_ret
        exact ⟨by rw [HV.out]; rfl, (Below.refl _ _).alloc (Nat.le_refl _) _⟩
end Go.Proofs.Ytjlcncdhlcpklaa
