/-
  Layer 13 (ledger): the contract of Close, over the translated program.
-/
import Derived.Test.YtcdbdgmjdmkfeaaLgDo
namespace Go.Proofs.Ytcdbdgmjdmkfeaa.Lg
open Go.ChangeShapes Go.WideShapes Go.ChangeAt Go.RowKit
set_option linter.unusedVariables false
set_option maxRecDepth 20000

/-- The rows of one environment, as cells. -/
def rw4 (q u : Tb) (e : Nat) : List Value := [.int .i64 (q e 0), .int .i64 (u e 0), .int .i64 (q e 1), .int .i64 (u e 1), .int .i64 (q e 2), .int .i64 (u e 2), .int .i64 (q e 3), .int .i64 (u e 3)]
theorem infoRows : (Try.prog.info? 55).map (·.size) = some 8 := by kernel_rfl
theorem zero_one : ∀ u ∈ [Value.int .i64 0, .int .i64 0, .int .i64 0, .int .i64 0, .int .i64 0, .int .i64 0, .int .i64 0, .int .i64 0], u.oneCell' = true := by
  intro v hv
  simp only [List.mem_cons, List.not_mem_nil, or_false] at hv
  rcases hv with rfl | rfl | rfl | rfl | rfl | rfl | rfl | rfl <;> rfl
theorem four_cases {j : Nat} (h : j < 4) : j = 0 ∨ j = 1 ∨ j = 2 ∨ j = 3 := by omega
theorem LdAt.rows {w : World} {b : Nat} {s : Int} {q u : Tb} (h : LdAt w b s q u) (e : Nat) (he : e < 16) : w.rangeAt b (2 + e * 8) (rw4 q u e) :=
  VB.range h _ (by show 2 + e * 8 + 8 ≤ 130; omega) fun i hi => by
    have hi2 : i < 8 := hi
    have h1 := lv_q s q u e (i / 2) (by omega)
    have h2 := lv_u s q u e (i / 2) (by omega)
    have : i = 0 ∨ i = 1 ∨ i = 2 ∨ i = 3 ∨ i = 4 ∨ i = 5 ∨ i = 6 ∨ i = 7 := by omega
    rcases this with rfl | rfl | rfl | rfl | rfl | rfl | rfl | rfl
    · exact congrArg some h1.symm
    · exact congrArg some h2.symm
    · exact congrArg some h1.symm
    · exact congrArg some h2.symm
    · exact congrArg some h1.symm
    · exact congrArg some h2.symm
    · exact congrArg some h1.symm
    · exact congrArg some h2.symm
theorem idx_rows (q u : Tb) (e j : Nat) (hj : j < 4) (w : World) : (Instr.index 55 (.agg (rw4 q u e).toArray) (.int .i64 j)).run Try.prog w = .ok (.agg #[.int .i64 (q e j), .int .i64 (u e j)]) w := by
  rcases four_cases hj with rfl | rfl | rfl | rfl <;> kernel_rfl
/-- Laying a row of zeros is as having nothing. -/
theorem LdAt.zero {w : World} {b : Nat} {s : Int} {q u : Tb} (h : LdAt w b s q u) (e : Nat) (he : e < 16) :
    LdAt (w.setCells b (2 + e * 8) [.int .i64 0, .int .i64 0, .int .i64 0, .int .i64 0, .int .i64 0, .int .i64 0, .int .i64 0, .int .i64 0]) b s (zr q e) (zr u e) :=
  VB.congr (VB.sets (o := 2 + e * 8) h [.int .i64 0, .int .i64 0, .int .i64 0, .int .i64 0, .int .i64 0, .int .i64 0, .int .i64 0, .int .i64 0] (by show 2 + e * 8 + 8 ≤ 130; omega)) (fun j hj => by
    show (if 2 + e * 8 ≤ j ∧ j < 2 + e * 8 + 8 then _ else _) = _
    by_cases hc : 2 + e * 8 ≤ j ∧ j < 2 + e * 8 + 8
    · rw [if_pos hc]
      unfold lv zr
      have hz : (j - 2) / 8 = e := by omega
      rw [if_neg (by omega), if_neg (by omega), if_pos hz, if_pos hz, ite_self]
      obtain ⟨i, rfl⟩ : ∃ i, j = 2 + e * 8 + i := ⟨j - (2 + e * 8), by omega⟩
      have hi : i = 0 ∨ i = 1 ∨ i = 2 ∨ i = 3 ∨ i = 4 ∨ i = 5 ∨ i = 6 ∨ i = 7 := by omega
      rw [show 2 + e * 8 + i - (2 + e * 8) = i by omega]
      rcases hi with rfl | rfl | rfl | rfl | rfl | rfl | rfl | rfl <;> rfl
    · rw [if_neg hc]
      unfold lv zr
      by_cases h0 : j = 0
      · rw [if_pos h0, if_pos h0]
      · by_cases h1 : j = 1
        · rw [if_neg h0, if_pos h1, if_neg h0, if_pos h1]
        · have hz : ¬ (j - 2) / 8 = e := by omega
          rw [if_neg h0, if_neg h1, if_neg h0, if_neg h1, if_neg hz, if_neg hz])
theorem close_no (b : Nat) (e t : Int) (w : World) (h : ¬ clP e t) :
    Calls Try.prog 16 #[.pointer (some ⟨b, 0, none⟩), .int .i64 e, .int .i64 t] w fun r w' => r = .returned (.int .i64 1) ∧ w = w' := by
  by_cases hs : 0 ≤ e ∧ e < 16
  · have HV : Hid (heB e = true) := decide_eq_true hs
    by_cases ht : 0 ≤ t ∧ t < 16
    · have HT : Hid (heB t = true) := decide_eq_true ht
      have he : e = t := Decidable.byContradiction fun hh => h ⟨hs, ht, hh⟩
      subst he
      clear h hs ht
      go_enter_defers Try.func16, Try.ntmps16
      go_wp2_with (first
        | (go_at_call 27; refine (hasEnv_c b e _).mono ?_; rw [HV.out]; rintro r w1 ⟨rfl, rfl⟩))
      exact ⟨_, results_tmp rfl _ _ _, rfl, rfl⟩
    · have HT : Hid (heB t = false) := decide_eq_false ht
      clear h hs ht
      go_enter_defers Try.func16, Try.ntmps16
      go_wp2_with (first
        | (go_at_call_of 27 e; refine (hasEnv_c b e _).mono ?_; rw [HV.out]; rintro r w1 ⟨rfl, rfl⟩)
        | (go_at_call_of 27 t; refine (hasEnv_c b t _).mono ?_; rw [HT.out]; rintro r w1 ⟨rfl, rfl⟩))
      exact ⟨_, results_tmp rfl _ _ _, rfl, rfl⟩
  · have HV : Hid (heB e = false) := decide_eq_false hs
    clear h hs
    go_enter_defers Try.func16, Try.ntmps16
    go_wp2_with (first
      | (go_at_call 27; refine (hasEnv_c b e _).mono ?_; rw [HV.out]; rintro r w1 ⟨rfl, rfl⟩))
    exact ⟨_, results_tmp rfl _ _ _, rfl, rfl⟩
theorem close_nil (e t : Int) (w : World) :
    Calls Try.prog 16 #[.pointer none, .int .i64 e, .int .i64 t] w fun r w' => r = .returned (.int .i64 1) ∧ w = w' := by
  go_enter_defers Try.func16, Try.ntmps16
  go_wp2_with (first
    | (go_at_call 27; refine (hasEnv_nil e _).mono ?_; rintro r w1 ⟨rfl, rfl⟩))
  exact ⟨_, results_tmp rfl _ _ _, rfl, rfl⟩
theorem close_yes (b : Nat) (q u : Tb) (T : Nat → Int) (e t : Nat) (w : World) (h : LdAt w b 0 q u) (ho : Ok q u T) (he : e < 16) (ht : t < 16) (hne : e ≠ t) :
    Calls Try.prog 16 #[.pointer (some ⟨b, 0, none⟩), .int .i64 e, .int .i64 t] w fun r w' =>
      r = .returned (.int .i64 0) ∧ Lf b (zr (mvn q e t 4) e) (zr u e) w w' := by
  have HV : Hid (heB e = true) := decide_eq_true ⟨by omega, by omega⟩
  have HT : Hid (heB t = true) := decide_eq_true ⟨by omega, by omega⟩
  have H : Hid (LdAt w b 0 q u) := h
  have H1 : Hid (LdAt (w.setCell ⟨b, 0, none⟩ (.int .i32 1)) b 1 q u) := h.setLock 1
  have K1 : Hid (But [b] w (w.setCell ⟨b, 0, none⟩ (.int .i32 1))) := (But.refl [b] w).setCell (.inl (by simp)) _
  have HO : Hid (Ok q u T) := ho
  have HN : Hid (e ≠ t) := hne
  have hne' : ¬ ((e : Int) = (t : Int)) := by omega
  have hneb : decide ((e : Int) = (t : Int)) = false := decide_eq_false hne'
  have hneb2 : ((e : Int) == (t : Int)) = false := by simp; omega
  clear h ho hne
  go_enter_defers Try.func16, Try.ntmps16
  go_upto_region 3 with (first
    | (go_at_call_of 27 e; refine (hasEnv_c b e _).mono ?_; rw [HV.out]; rintro r w1 ⟨rfl, rfl⟩)
    | (go_at_call_of 27 t; refine (hasEnv_c b t _).mono ?_; rw [HT.out]; rintro r w1 ⟨rfl, rfl⟩))
  go_wp2_with fail
  refine (mutex_lock ⟨b, 0, none⟩ _ H.out.lock.1 H.out.lock.2).mono ?_
  rintro r w3 ⟨rfl, rfl⟩
  generalize w.setCell ⟨b, 0, none⟩ (.int .i32 1) = w1 at H1 K1 ⊢
  clear hne' hneb hneb2
  go_wp2_with (first
    | (refine wpList_load_mid rfl 55 _ rfl b (2 + e * 8) rfl (rw4 q u e) _ (H1.out.rows e he) Try.underlying55 rfl infoRows ?_))
  go_loopg [37] 5 (fun g0 i wx => ∃ j : Nat, j + g0 = 5 ∧ j ≤ 4 ∧ i = .int .i64 j ∧ Hid (LdAt wx b 1 (mvn q e t j) u) ∧ Hid (But [b] w wx))
  case atStart => exact ⟨0, by omega, by omega, rfl, by show LdAt _ _ _ _ _; rw [mvn_zero]; exact H1.out, K1⟩
  case round =>
    obtain ⟨j, hjg, hj4, rfl, HJ, KJ⟩ := hrel
    by_cases hj : j < 4
    · have hix := idx_rows q u e j hj
      have hj' : (j : Int) < 4 := by omega
      have HQE : Hid (mvn q e t j e j = q e j) := if_neg (fun hh => HN.out hh.1)
      have HQT : Hid (mvn q e t j t j = q t j) := if_neg (fun hh => by omega)
      go_upto_region 8 with (first
        | (refine wpList_store_mid rfl 54 _ _ rfl wr.heap.size 0 #[.int .i64 (q e j), .int .i64 (u e j)] rfl rfl (there_new _ _ _ 2 rfl) infoRow (all_oneCell_toArray (two_one _ _)) ?_))
      have hk2 : But [] wr ((wr.alloc (.cells #[.int .i64 0, .int .i64 0] 54)).setCells wr.heap.size 0 [.int .i64 (q e j), .int .i64 (u e j)]) := ((But.refl [] wr).alloc _).setCells (.inr (Nat.le_refl _)) _ _
      have hc2 := range_cells (World.rangeAt_setCells_same (wr.alloc (.cells #[.int .i64 0, .int .i64 0] 54)) wr.heap.size 0 [.int .i64 (q e j), .int .i64 (u e j)] (there_new _ _ _ 2 rfl)) 0 _ rfl
      simp only [Act.put]
      have H2 : Hid (LdAt ((wr.alloc (.cells #[.int .i64 0, .int .i64 0] 54)).setCells wr.heap.size 0 [.int .i64 (q e j), .int .i64 (u e j)]) b 1 (mvn q e t j) u) := HJ.out.keep hk2 (by simp)
      have K2 : Hid (But [b] w ((wr.alloc (.cells #[.int .i64 0, .int .i64 0] 54)).setCells wr.heap.size 0 [.int .i64 (q e j), .int .i64 (u e j)])) := KJ.out.trans (hk2.any _)
      clear hk2 hix
      generalize (wr.alloc (.cells #[.int .i64 0, .int .i64 0] 54)).setCells wr.heap.size 0 [.int .i64 (q e j), .int .i64 (u e j)] = w2 at H2 K2 hc2 ⊢
      generalize wr.heap.size = g at hc2 ⊢
      obtain ⟨hc, hz⟩ := H2.out.q t j ht hj
      rw [HQT.out] at hc
      have hw : IntKind.i64.wrap (q t j + q e j) = q t j + q e j := by
        have h1 := HO.out.le t j ht hj
        have h2 := HO.out.le e j he hj
        exact wrap_small _ (by omega) (by omega)
      have H3 : Hid (LdAt (w2.setCell ⟨b, 2 + t * 8 + j * 2, none⟩ (.int .i64 (q t j + q e j))).drew b 1 (mvn q e t (j + 1)) u) := by
        show LdAt _ _ _ _ _
        rw [← mvn_succ q e t j HN.out]
        exact (H2.out.setQ t j hj _).keep (But.refl [] _).drew (by simp)
      have K3 : Hid (But [b] w (w2.setCell ⟨b, 2 + t * 8 + j * 2, none⟩ (.int .i64 (q t j + q e j))).drew) := (K2.out.setCell (.inl (by simp)) _).drew
      have ht' : (t : Int) < 16 := by omega
      generalize q t j = x at hc hw H3 K3
      generalize q e j = y at hc2 hw H3 K3 ⊢
      go_wp2
      refine wp_region_still_tail 17 (by kernel_rfl) (by kernel_rfl) ?_
      simp only [List.take_succ_cons, List.take_zero, List.drop_succ_cons, List.drop_zero]
      change wpStill _ _ w2.drew _ _ _
      repeat still_step
      refine wpStill_nil ?_
      change wpList _ _ _ _ _ w2.drew
      go_wp2
      go_roundg (5 - (j + 1))
      case measure => omega
      case rel => exact ⟨j + 1, by omega, by omega, by go_num, H3, K3⟩
    · obtain rfl : j = 4 := by omega
      have H3 : Hid (LdAt (wr.setCells b (2 + e * 8) [.int .i64 0, .int .i64 0, .int .i64 0, .int .i64 0, .int .i64 0, .int .i64 0, .int .i64 0, .int .i64 0]) b 1 (zr (mvn q e t 4) e) (zr u e)) := HJ.out.zero e he
      have K3 : Hid (But [b] w (wr.setCells b (2 + e * 8) [.int .i64 0, .int .i64 0, .int .i64 0, .int .i64 0, .int .i64 0, .int .i64 0, .int .i64 0, .int .i64 0])) := KJ.out.setCells (.inl (by simp)) _ _
      go_wp2_with (first
        | (refine wpList_store_mid rfl 55 _ _ rfl b (2 + e * 8) #[.int .i64 0, .int .i64 0, .int .i64 0, .int .i64 0, .int .i64 0, .int .i64 0, .int .i64 0, .int .i64 0] rfl rfl (VB.there HJ.out (by show 2 + e * 8 + 8 ≤ 130; omega)) infoRows (all_oneCell_toArray zero_one) ?_))
      exact leave_unlock H3.out ⟨_, results_tmp rfl _ _ _, rfl, H3.out.setLock 0, K3.out.setCell (.inl (by simp)) _⟩
theorem close_c (b : Nat) (q u : Tb) (T : Nat → Int) (e t : Int) (w : World) (h : LdAt w b 0 q u) (ho : Ok q u T) :
    Calls Try.prog 16 #[.pointer (some ⟨b, 0, none⟩), .int .i64 e, .int .i64 t] w fun r w' => r = .returned (.int .i64 (clC e t)) ∧ Lf b (clQ q e t) (clU u e t) w w' := by
  by_cases hc : clP e t
  · have hc' := hc
    obtain ⟨⟨h0, h1⟩, ⟨h2, h3⟩, h4⟩ := hc'
    rw [show clC e t = 0 from if_pos hc, show clQ q e t = zr (mvn q e.toNat t.toNat 4) e.toNat from if_pos hc, show clU u e t = zr u e.toNat from if_pos hc]
    have := close_yes b q u T e.toNat t.toNat w h ho (by omega) (by omega) (by omega)
    rwa [show ((e.toNat : Nat) : Int) = e by omega, show ((t.toNat : Nat) : Int) = t by omega] at this
  · rw [show clC e t = 1 from if_neg hc, show clQ q e t = q from if_neg hc, show clU u e t = u from if_neg hc]
    refine (close_no b e t w hc).mono ?_
    rintro r w' ⟨rfl, rfl⟩
    exact ⟨rfl, h, But.refl _ _⟩
end Go.Proofs.Ytcdbdgmjdmkfeaa.Lg
