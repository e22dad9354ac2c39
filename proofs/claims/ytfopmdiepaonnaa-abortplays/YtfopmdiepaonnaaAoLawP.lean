/-
  Layer 17 (abort): the contract of the statement that the list is the document's at each moment, over the translated program. (Written by tools/gen_aop.py out of AoLawP.head.)
-/
import Derived.Test.YtfopmdiepaonnaaAoLawD
namespace Go.Proofs.Ytfopmdiepaonnaa.Ao
open Go.ChangeShapes Go.WideShapes Go.ChangeAt Go.RowKit
open Wh
set_option linter.unusedVariables false
set_option maxRecDepth 20000

/-- Two boxes: a want that came in, and the list as it was. -/
theorem play_boxes (w : World) (l : List Wn) (e k m t : Int) : ∃ b6 w6 b7 w7, b6 = w.heap.size ∧ w6 = w.alloc (.cells #[.int .i64 e, .int .i64 k, .int .i64 m, .int .i64 t] rW) ∧ b7 = w6.heap.size ∧ w7 = w6.alloc (.cells (lc l).toArray lT) ∧
    w7.rangeAt b6 0 (Wn.vs ⟨e, k, m, t⟩) ∧ w7.rangeAt b7 0 (lc l) ∧ But [] w w6 ∧ But [] w w7 := by
  have h1 : (w.alloc (.cells #[.int .i64 e, .int .i64 k, .int .i64 m, .int .i64 t] rW)).rangeAt w.heap.size 0 (Wn.vs ⟨e, k, m, t⟩) := new_range w (Wn.vs ⟨e, k, m, t⟩) rW
  exact ⟨_, _, _, _, rfl, rfl, rfl, rfl, range_keep h1 ((But.refl [] _).alloc _) (by simp), (lt_new _ l).all, (But.refl [] w).alloc _, ((But.refl [] w).alloc _).alloc _⟩
theorem len_lt {p q m : Nat} (h : p + q = m) : decide (0 < p) = decide ((q : Int) < (m : Int)) := by
  by_cases hp : 0 < p
  · rw [decide_eq_true hp, decide_eq_true (by omega)]
  · rw [decide_eq_false hp, decide_eq_false (by omega)]
set_option maxHeartbeats 8000000 in
theorem plays_c (A : Option Addr) (n c : Nat) (w : World) (h : RowOf ks_flatDeed w A n c) :
    Calls Try.prog 3 #[.slice A n c] w fun r w' => r = .returned (.bool true) ∧ But [] w w' := by
  have hz := zList
  have hzr := zRw
  obtain ⟨D, hD⟩ := row_di h
  obtain ⟨b, w0, hb, hw0, h0, k0⟩ := made_lt w []
  have H0 := hid h0
  have K0 := hid k0
  have HBW := hid hb
  have HD := hid hD
  have HAW := hid awake_c
  clear h0 k0 hD h
  go_enter Try.func3, Try.ntmps3
  go_upto_region 2 with fail
  rw [← hw0, ← hb]
  clear hw0 hb
  go_wp2
  go_loopg [4, 5] 101 (fun g0 s4 s5 wx => ∃ (i : Nat) (L : List Wn) (A4 : Option Addr) (m4 c4 : Nat), i + g0 = 101 ∧ i ≤ 100 ∧ i ≤ n ∧ s5 = .int .i64 i ∧ s4 = .slice A4 m4 c4 ∧ Hid (L.length = m4) ∧ Hid (LtAt wx b L) ∧ Hid (Ok L) ∧ Hid (Xa wx b A4 L) ∧ Hid (But [] w wx))
  case atStart => exact ⟨0, [], none, 0, 0, by omega, by omega, by omega, rfl, rfl, rfl, H0.out, Ok.nil, .inl rfl, K0.out⟩
  case round =>
    clear H0 K0
    obtain ⟨i, L, A4, m4, c4, hig, hi100, hin, rfl, rfl, HM, HV, HO, HX, HB⟩ := hrel
    have hm64 : m4 ≤ 64 := by have := HO.out.1; have := HM.out; omega
    by_cases hlt : i < n
    · by_cases h100 : i < 100
      · obtain ⟨g, off, hA, hg, hK, hrow⟩ := HD.out.at_ hlt
        subst hA
        have hK1 := cell_keep hK HB.out (by simp)
        have hrow1 := range_keep hrow HB.out (by simp)
        generalize D i = q at hK1 hrow1
        obtain ⟨K, ⟨e, k, m, t⟩⟩ := q
        have hK1 : wr.cell? ⟨g, off + i * 5, none⟩ = some (.int .i64 K) := hK1
        obtain ⟨d0, d1, d2, d3⟩ := deed_cells hrow1
        clear hK hrow hrow1 hg
        obtain ⟨b6, w6, b7, w7, hb6, hw6, hb7, hw7, h6, h7, k6, k7⟩ := play_boxes wr L e k m t
        have hR6 := (HV.out.keep0 k6).all
        have HR6 := hid hR6
        have HW7 := hid h6
        have HR7 := hid h7
        have hK7 := cell_keep hK1 k7 (by simp)
        have HV7 := hid (HV.out.keep0 k7)
        have HX7 := hid (HX.out.keep k7 (by simp))
        have HB7 := hid (HB.out.trans k7)
        have HBQ : Hid (b < b6 ∧ b < b7 ∧ w.heap.size ≤ b ∧ b < w7.heap.size) := ⟨by have := HV.out.lt; omega, by have := HV.out.lt; have := k6.size; omega, by have := HBW.out; omega, HV7.out.lt⟩
        clear h6 h7 k6 k7 hR6 HV HX HB
        go_upto_region 7 with fail
        rw [← hw6, ← hb6]
        clear hw6 hb6 d0 d1 d2 d3 hK1
        go_upto_region 8 with (first
          | (refine wpList_load_mid rfl lT _ rfl b 0 rfl (lc L) _ HR6.out Try.underlying27 rfl (iList _) ?_)
          | (refine wpList_store_new rfl lT _ _ rfl (lc []).toArray (lc L).toArray rfl rfl (iList' _) (by simp only [lc_size]) (lc_all _) ?_))
        rw [← hw7, ← hb7]
        clear hw7 hb7 HR6
        have CW : Hid (∀ wx, But [b] w7 wx → wx.cell? ⟨b6, 0, none⟩ = some (.int .i64 e) ∧ wx.cell? ⟨b6, 1, none⟩ = some (.int .i64 k) ∧ wx.cell? ⟨b6, 2, none⟩ = some (.int .i64 m) ∧ wx.cell? ⟨b6, 3, none⟩ = some (.int .i64 t)) := fun wx hx => by
          obtain ⟨c0, c1, c2, c3⟩ := four (range_keep HW7.out hx (by have := HBQ.out; simp; omega))
          simp only [Nat.zero_add] at c1 c2 c3
          exact ⟨c0, c1, c2, c3⟩
        go_upto_block 2 with fail
        clear hK7
        go_cut [4, 8, 9, 10, 11, 12, 13, 14, 15, 16, 17, 18] from 22 to 173 (fun s4 s8 s9 s10 s11 s12 s13 s14 s15 s16 s17 s18 wx => ∃ (L2 : List Wn) (A2 : Option Addr) (m2 c2 : Nat), s4 = .slice A2 m2 c2 ∧ Hid (L2.length = m2) ∧ Hid (LtAt wx b L2) ∧ Hid (Ok L2) ∧ Hid (Xa wx b A2 L2) ∧ Hid (But [b] w7 wx))
        case first =>
          as_aux_lemma =>
            have HRV := hid HV7.out.all
            obtain ⟨q, hq⟩ : ∃ q, q = decide (K = 0 ∨ K = 1 ∨ K = 2 ∨ K = 3) := ⟨_, rfl⟩
            have HQ := hid hq
            clear hq
            go_step
            go_step
            go_cut [42, 66] from 22 to 173 (fun s42 s66 wx => s42 = .int .i64 K ∧ s66 = .bool q ∧ wx = w7)
            case first =>
              as_aux_lemma =>
                by_cases e0 : K = 0
                · have hqt : q = true := by rw [HQ.out]; exact decide_eq_true (by omega)
                  subst e0
                  subst hqt
                  go_wp2
                  go_meet
                  exact ⟨rfl, rfl, rfl⟩
                · have e0' : (K == 0) = false := by simp [e0]
                  by_cases e1 : K = 1
                  · have hqt : q = true := by rw [HQ.out]; exact decide_eq_true (by omega)
                    subst e1
                    subst hqt
                    go_wp2
                    go_meet
                    exact ⟨rfl, rfl, rfl⟩
                  · have e1' : (K == 1) = false := by simp [e1]
                    by_cases e2 : K = 2
                    · have hqt : q = true := by rw [HQ.out]; exact decide_eq_true (by omega)
                      subst e2
                      subst hqt
                      go_wp2
                      go_meet
                      exact ⟨rfl, rfl, rfl⟩
                    · have e2' : (K == 2) = false := by simp [e2]
                      by_cases e3 : K = 3
                      · have hqt : q = true := by rw [HQ.out]; exact decide_eq_true (by omega)
                        subst e3
                        subst hqt
                        go_wp2
                        go_meet
                        exact ⟨rfl, rfl, rfl⟩
                      · have hqf : q = false := by rw [HQ.out]; exact decide_eq_false (by omega)
                        have e3' : (K == 3) = false := by simp [e3]
                        subst hqf
                        go_wp2
                        go_meet
                        exact ⟨rfl, rfl, rfl⟩
            case rest =>
              as_aux_lemma =>
                obtain ⟨rfl, rfl, hwc⟩ := hcut
                have hwc := hwc.symm
                subst hwc
                cases q with
                | true =>
                  as_aux_lemma =>
                    clear HQ
                    have HAK : Hid (∀ w, Calls Try.prog 6 #[.agg (lc L).toArray, .agg #[.int .i64 e, .int .i64 k, .int .i64 m, .int .i64 t]] w fun r w' => r = .returned (.tuple #[.agg (lc (askL L ⟨e, k, m, t⟩)).toArray, .int .i64 (askC L ⟨e, k, m, t⟩)]) ∧ But [] w w') := fun w => ask_c L HO.out.1 e k m t w
                    have HRA : Hid (∀ wx, But [] w7 wx → Calls Try.prog 8 #[.slice A4 m4 c4, .agg #[.int .i64 e, .int .i64 k, .int .i64 m, .int .i64 t]] wx (Ra b L ⟨e, k, m, t⟩ wx)) := fun wx kx => rask_c b A4 m4 c4 L e k m t wx HO.out.1 (HX7.out.keep kx (by simp)) (Nat.lt_of_lt_of_le HBQ.out.2.2.2 kx.size) HM.out
                    have HO2 := hid (HO.out.ask ⟨e, k, m, t⟩)
                    unfold Ra at HRA
                    generalize askL L ⟨e, k, m, t⟩ = L2 at *
                    generalize askC L ⟨e, k, m, t⟩ = C at *
                    have CX := hid (CW.out w7 (But.refl _ _))
                    go_upto_region 19 with fail
                    go_cut [8, 9] from 22 to 173 (fun s8 s9 wx => ∃ B : Nat, s8 = .pointer (some ⟨B, 0, none⟩) ∧ s9 = .int .i64 C ∧ Hid (wx.rangeAt B 0 (lc L2)) ∧ Hid (But [] w7 wx))
                    case first =>
                      refine wp_region_noPanic ?_
                      refine wp_region_held_drew (S := fun w' => But [] w7 w') (by kernel_rfl) (But.refl _ _).drew (fun hS0 => ?_)
                      generalize w7.drew = wd at *
                      refine held_take 0 (some 72) (.agg (lc L).toArray) rfl rfl (by kernel_rfl) (by kernel_rfl) (by kernel_rfl) (fun _ _ _ h => h) (yieldsIf_load_mid (by rfl) _ _ rfl b 0 rfl (lc L) _ (fun w' h => range_keep HRV.out h (by simp)) Try.underlying27 rfl (iList _)) hS0 ?_
                      simp only [Act.put, List.setIfInBounds_toArray, List.set_cons_zero, List.set_cons_succ]
                      refine held_take 1 (some 73) (.agg #[.int .i64 e, .int .i64 k, .int .i64 m, .int .i64 t]) rfl rfl (by kernel_rfl) (by kernel_rfl) (by kernel_rfl) (fun _ _ _ h => h) (Or.inl ⟨by rfl, fun w' hw' => by have hq0 := cell_keep CX.out.1 hw' (by simp); have hq1 := cell_keep CX.out.2.1 hw' (by simp); have hq2 := cell_keep CX.out.2.2.1 hw' (by simp); have hq3 := cell_keep CX.out.2.2.2 hw' (by simp); go_simp⟩) hS0 ?_
                      simp only [Act.put, List.setIfInBounds_toArray, List.set_cons_zero, List.set_cons_succ]
                      refine held_two 2 7 rfl rfl (by kernel_rfl) (by rfl) (by rfl) (fun K hK => ?_) (fun K hK => ?_)
                      · skip
                        go_simp
                        refine (want_c e k m t _).mono ?_
                        rintro r w8 ⟨rfl, k8⟩
                        go_wp2_with fail
                        have hS1' : But [] w7 w8 := hS0.trans k8
                        skip
                        refine hK.out _ _ hS1' (fun hS1 => ?_)
                        clear hK K
                        try simp only [Act.put, List.setIfInBounds_toArray, List.set_cons_zero, List.set_cons_succ]
                        refine held_two 3 7 rfl rfl (by kernel_rfl) (by rfl) (by rfl) (fun K hK => ?_) (fun K hK => ?_)
                        · skip
                          go_simp
                          refine (HAK.out _).mono ?_
                          rintro r w9 ⟨rfl, k9⟩
                          go_wp2_with fail
                          have hS2' : But [] w7 w9 := hS1.trans k9
                          skip
                          refine hK.out _ _ hS2' (fun hS2 => ?_)
                          clear hK K
                          try simp only [Act.put, List.setIfInBounds_toArray, List.set_cons_zero, List.set_cons_succ]
                          refine held_take 4 (some 71) (.tuple #[.agg (lc L2).toArray, .int .i64 C]) rfl rfl (by kernel_rfl) (by kernel_rfl) (by kernel_rfl) (fun _ _ _ h => h) (Or.inl ⟨by rfl, fun w' hw' => by go_simp⟩) hS2 ?_
                          simp only [Act.put, List.setIfInBounds_toArray, List.set_cons_zero, List.set_cons_succ]
                          refine held_take 5 (some 76) (.agg (lc L2).toArray) rfl rfl (by kernel_rfl) (by kernel_rfl) (by kernel_rfl) (fun _ _ _ h => h) (Or.inl ⟨by rfl, fun w' hw' => by go_simp⟩) hS2 ?_
                          simp only [Act.put, List.setIfInBounds_toArray, List.set_cons_zero, List.set_cons_succ]
                          refine held_take 6 (some 77) (.int .i64 C) rfl rfl (by kernel_rfl) (by kernel_rfl) (by kernel_rfl) (fun _ _ _ h => h) (Or.inl ⟨by rfl, fun w' hw' => by go_simp⟩) hS2 ?_
                          simp only [Act.put, List.setIfInBounds_toArray, List.set_cons_zero, List.set_cons_succ]
                          refine held_one 7 rfl (by kernel_rfl) (by rfl) (fun K hK => ?_)
                          go_simp
                          obtain ⟨hA5, hlt6, hka9⟩ := made_box (w9) (lc []).toArray lT 257 (lc_size [])
                          have hge7 : w7.heap.size ≤ (w9).heap.size := hS2.size
                          have hS3' : But [] w7 (w9.alloc (.cells (lc []).toArray lT)) := hS2.alloc _
                          generalize w9.alloc (.cells (lc []).toArray lT) = wa8 at *
                          generalize hBx : (w9).heap.size = Bx4 at *
                          have HBxBx4 : Hid ((w9).heap.size = Bx4) := hBx
                          clear hBx
                          refine hK.out _ _ hS3' (fun hS3 => ?_)
                          clear hK K
                          try simp only [Act.put, List.setIfInBounds_toArray, List.set_cons_zero, List.set_cons_succ]
                          refine held_one 8 rfl (by kernel_rfl) (by rfl) (fun K hK => ?_)
                          refine wp_store_mid0 _ _ _ rfl Bx4 0 (lc L2).toArray rfl rfl (by have hh := hA5; rwa [← lc_size L2] at hh) (iList' _) (lc_all _) rfl ?_
                          have hS10' : But [] w7 (wa8.setCells Bx4 0 (lc L2)) := hS3.setCells (.inr hge7) _ _
                          have hRhS10 : (wa8.setCells Bx4 0 (lc L2)).rangeAt Bx4 0 (lc L2) := World.rangeAt_setCells_same _ _ _ _ (by have hh := hA5; rwa [← lc_len L2] at hh)
                          have hkhS10 : But [Bx4] wa8 (wa8.setCells Bx4 0 (lc L2)) := (But.refl _ _).setCells (by simp) _ _
                          generalize wa8.setCells Bx4 0 (lc L2) = wz11 at *
                          refine hK.out _ _ hS10' (fun hS10 => ?_)
                          clear hK K
                          skip
                          refine held_take 9 (some 9) (.int .i64 C) rfl rfl (by kernel_rfl) (by kernel_rfl) (by kernel_rfl) (fun _ _ _ h => h) (Or.inl ⟨by rfl, fun w' hw' => by go_simp⟩) hS10 ?_
                          simp only [Act.put, List.setIfInBounds_toArray]
                          refine wpAnyH_done (by kernel_rfl) ?_ _
                          refine NoPanic.normal ?_
                          go_wp2_with fail
                          go_meet
                          exact ⟨Bx4, rfl, rfl, hRhS10, hS10⟩
                        · skip
                          go_simp
                          obtain ⟨hA14, hlt15, hka18⟩ := made_box (w8) (lc []).toArray lT 257 (lc_size [])
                          have hge16 : w7.heap.size ≤ (w8).heap.size := hS1.size
                          have hS12' : But [] w7 (w8.alloc (.cells (lc []).toArray lT)) := hS1.alloc _
                          generalize w8.alloc (.cells (lc []).toArray lT) = wa17 at *
                          generalize hBx : (w8).heap.size = Bx13 at *
                          have HBxBx13 : Hid ((w8).heap.size = Bx13) := hBx
                          clear hBx
                          refine hK.out _ _ hS12' (fun hS12 => ?_)
                          clear hK K
                          try simp only [Act.put, List.setIfInBounds_toArray, List.set_cons_zero, List.set_cons_succ]
                          refine held_one 3 rfl (by kernel_rfl) (by rfl) (fun K hK => ?_)
                          go_simp
                          refine (HAK.out _).mono ?_
                          rintro r w9 ⟨rfl, k9⟩
                          go_wp2_with fail
                          have hS19' : But [] w7 w9 := hS12.trans k9
                          have hA20 := there_keep hA14 k9 hlt15 (by simp)
                          have hlt21 := Nat.lt_of_lt_of_le hlt15 k9.size
                          skip
                          refine hK.out _ _ hS19' (fun hS19 => ?_)
                          clear hK K
                          try simp only [Act.put, List.setIfInBounds_toArray, List.set_cons_zero, List.set_cons_succ]
                          refine held_take 4 (some 71) (.tuple #[.agg (lc L2).toArray, .int .i64 C]) rfl rfl (by kernel_rfl) (by kernel_rfl) (by kernel_rfl) (fun _ _ _ h => h) (Or.inl ⟨by rfl, fun w' hw' => by go_simp⟩) hS19 ?_
                          simp only [Act.put, List.setIfInBounds_toArray, List.set_cons_zero, List.set_cons_succ]
                          refine held_take 5 (some 76) (.agg (lc L2).toArray) rfl rfl (by kernel_rfl) (by kernel_rfl) (by kernel_rfl) (fun _ _ _ h => h) (Or.inl ⟨by rfl, fun w' hw' => by go_simp⟩) hS19 ?_
                          simp only [Act.put, List.setIfInBounds_toArray, List.set_cons_zero, List.set_cons_succ]
                          refine held_take 6 (some 77) (.int .i64 C) rfl rfl (by kernel_rfl) (by kernel_rfl) (by kernel_rfl) (fun _ _ _ h => h) (Or.inl ⟨by rfl, fun w' hw' => by go_simp⟩) hS19 ?_
                          simp only [Act.put, List.setIfInBounds_toArray, List.set_cons_zero, List.set_cons_succ]
                          refine held_one 8 rfl (by kernel_rfl) (by rfl) (fun K hK => ?_)
                          refine wp_store_mid0 _ _ _ rfl Bx13 0 (lc L2).toArray rfl rfl (by have hh := hA20; rwa [← lc_size L2] at hh) (iList' _) (lc_all _) rfl ?_
                          have hS22' : But [] w7 (w9.setCells Bx13 0 (lc L2)) := hS19.setCells (.inr hge16) _ _
                          have hRhS22 : (w9.setCells Bx13 0 (lc L2)).rangeAt Bx13 0 (lc L2) := World.rangeAt_setCells_same _ _ _ _ (by have hh := hA20; rwa [← lc_len L2] at hh)
                          have hkhS22 : But [Bx13] w9 (w9.setCells Bx13 0 (lc L2)) := (But.refl _ _).setCells (by simp) _ _
                          generalize w9.setCells Bx13 0 (lc L2) = wz23 at *
                          refine hK.out _ _ hS22' (fun hS22 => ?_)
                          clear hK K
                          skip
                          refine held_take 9 (some 9) (.int .i64 C) rfl rfl (by kernel_rfl) (by kernel_rfl) (by kernel_rfl) (fun _ _ _ h => h) (Or.inl ⟨by rfl, fun w' hw' => by go_simp⟩) hS22 ?_
                          simp only [Act.put, List.setIfInBounds_toArray]
                          refine wpAnyH_done (by kernel_rfl) ?_ _
                          refine NoPanic.normal ?_
                          go_wp2_with fail
                          go_meet
                          exact ⟨Bx13, rfl, rfl, hRhS22, hS22⟩
                      · skip
                        go_simp
                        obtain ⟨hA26, hlt27, hka30⟩ := made_box (wd) (lc []).toArray lT 257 (lc_size [])
                        have hge28 : w7.heap.size ≤ (wd).heap.size := hS0.size
                        have hS24' : But [] w7 (wd.alloc (.cells (lc []).toArray lT)) := hS0.alloc _
                        generalize wd.alloc (.cells (lc []).toArray lT) = wa29 at *
                        generalize hBx : (wd).heap.size = Bx25 at *
                        have HBxBx25 : Hid ((wd).heap.size = Bx25) := hBx
                        clear hBx
                        refine hK.out _ _ hS24' (fun hS24 => ?_)
                        clear hK K
                        try simp only [Act.put, List.setIfInBounds_toArray, List.set_cons_zero, List.set_cons_succ]
                        refine held_one 2 rfl (by kernel_rfl) (by rfl) (fun K hK => ?_)
                        go_simp
                        refine (want_c e k m t _).mono ?_
                        rintro r w8 ⟨rfl, k8⟩
                        go_wp2_with fail
                        have hS31' : But [] w7 w8 := hS24.trans k8
                        have hA32 := there_keep hA26 k8 hlt27 (by simp)
                        have hlt33 := Nat.lt_of_lt_of_le hlt27 k8.size
                        skip
                        refine hK.out _ _ hS31' (fun hS31 => ?_)
                        clear hK K
                        try simp only [Act.put, List.setIfInBounds_toArray, List.set_cons_zero, List.set_cons_succ]
                        refine held_one 3 rfl (by kernel_rfl) (by rfl) (fun K hK => ?_)
                        go_simp
                        refine (HAK.out _).mono ?_
                        rintro r w9 ⟨rfl, k9⟩
                        go_wp2_with fail
                        have hS34' : But [] w7 w9 := hS31.trans k9
                        have hA35 := there_keep hA32 k9 hlt33 (by simp)
                        have hlt36 := Nat.lt_of_lt_of_le hlt33 k9.size
                        skip
                        refine hK.out _ _ hS34' (fun hS34 => ?_)
                        clear hK K
                        try simp only [Act.put, List.setIfInBounds_toArray, List.set_cons_zero, List.set_cons_succ]
                        refine held_take 4 (some 71) (.tuple #[.agg (lc L2).toArray, .int .i64 C]) rfl rfl (by kernel_rfl) (by kernel_rfl) (by kernel_rfl) (fun _ _ _ h => h) (Or.inl ⟨by rfl, fun w' hw' => by go_simp⟩) hS34 ?_
                        simp only [Act.put, List.setIfInBounds_toArray, List.set_cons_zero, List.set_cons_succ]
                        refine held_take 5 (some 76) (.agg (lc L2).toArray) rfl rfl (by kernel_rfl) (by kernel_rfl) (by kernel_rfl) (fun _ _ _ h => h) (Or.inl ⟨by rfl, fun w' hw' => by go_simp⟩) hS34 ?_
                        simp only [Act.put, List.setIfInBounds_toArray, List.set_cons_zero, List.set_cons_succ]
                        refine held_take 6 (some 77) (.int .i64 C) rfl rfl (by kernel_rfl) (by kernel_rfl) (by kernel_rfl) (fun _ _ _ h => h) (Or.inl ⟨by rfl, fun w' hw' => by go_simp⟩) hS34 ?_
                        simp only [Act.put, List.setIfInBounds_toArray, List.set_cons_zero, List.set_cons_succ]
                        refine held_one 8 rfl (by kernel_rfl) (by rfl) (fun K hK => ?_)
                        refine wp_store_mid0 _ _ _ rfl Bx25 0 (lc L2).toArray rfl rfl (by have hh := hA35; rwa [← lc_size L2] at hh) (iList' _) (lc_all _) rfl ?_
                        have hS37' : But [] w7 (w9.setCells Bx25 0 (lc L2)) := hS34.setCells (.inr hge28) _ _
                        have hRhS37 : (w9.setCells Bx25 0 (lc L2)).rangeAt Bx25 0 (lc L2) := World.rangeAt_setCells_same _ _ _ _ (by have hh := hA35; rwa [← lc_len L2] at hh)
                        have hkhS37 : But [Bx25] w9 (w9.setCells Bx25 0 (lc L2)) := (But.refl _ _).setCells (by simp) _ _
                        generalize w9.setCells Bx25 0 (lc L2) = wz38 at *
                        refine hK.out _ _ hS37' (fun hS37 => ?_)
                        clear hK K
                        skip
                        refine held_take 9 (some 9) (.int .i64 C) rfl rfl (by kernel_rfl) (by kernel_rfl) (by kernel_rfl) (fun _ _ _ h => h) (Or.inl ⟨by rfl, fun w' hw' => by go_simp⟩) hS37 ?_
                        simp only [Act.put, List.setIfInBounds_toArray]
                        refine wpAnyH_done (by kernel_rfl) ?_ _
                        refine NoPanic.normal ?_
                        go_wp2_with fail
                        go_meet
                        exact ⟨Bx25, rfl, rfl, hRhS37, hS37⟩
                    case rest =>
                      as_aux_lemma =>
                        obtain ⟨B, rfl, rfl, HRB, HBd⟩ := hcut
                        clear HAK CX HRV
                        obtain ⟨g0, g1, g2, g3⟩ := CW.out wc (HBd.out.any _)
                        go_wp2_with fail
                        refine (HRA.out _ HBd.out).mono ?_
                        rintro r w10 ⟨A10, c10, rfl, hx10, k10⟩
                        have HX10 := hid hx10
                        have HB10 := hid (HBd.out.trans k10)
                        have HRB10 : Hid (w10.rangeAt B 0 (lc L2)) := range_keep HRB.out k10 (by simp)
                        have HT10 : Hid (w10.there b 0 (lc L2).toArray.size) := by show World.there _ _ _ _; rw [lc_size]; exact (HV7.out.keep0 HB10.out).there
                        have HV11 : Hid (LtAt (w10.setCells b 0 (lc L2)) b L2) := lt_sets (HV7.out.keep0 HB10.out).there _
                        have HB11 : Hid (But [b] w7 (w10.setCells b 0 (lc L2))) := (HB10.out.any _).setCells (.inl (by simp)) _ _
                        have HX11 : Hid (Xa (w10.setCells b 0 (lc L2)) b A10 L2) := HX10.out.keep ((But.refl [b] _).setCells (by simp) _ _) (by simp)
                        clear hx10 k10 g0 g1 g2 g3 HRA HRB
                        go_wp2_with (first
                          | (refine wpList_load_mid rfl lT _ rfl B 0 rfl (lc L2) _ HRB10.out Try.underlying27 rfl (iList _) ?_)
                          | (refine wpList_store_mid rfl lT _ _ rfl b 0 (lc L2).toArray rfl rfl ?ht (iList' _) (lc_all _) ?_; case ht => exact HT10.out))
                        go_meet
                        exact ⟨L2, A10, _, c10, rfl, hid rfl, HV11.out, HO2.out, HX11.out, HB11.out⟩
                | false =>
                  as_aux_lemma =>
                    clear HQ
                    by_cases e4 : K = 4
                    · subst e4
                      obtain ⟨g0, g1, g2, g3⟩ := CW.out w7 (But.refl _ _)
                      have HBK := hid (back_c L HO.out.1 e k m w7)
                      have hlen := filt_len (key e k m) L
                      rw [HM.out] at hlen
                      have HO2 := hid (HO.out.filter fun a => !key e k m a)
                      have HKN : Hid (k < 0 → (L.filter fun a => !key e k m a) = L ∧ (L.filter (key e k m)).length = 0) := fun hk => ⟨(key_none HO.out hk).2, by rw [(key_none HO.out hk).1]; rfl⟩
                      have HRW : Hid (0 ≤ k → ∀ wx, But [] w7 wx → Calls Try.prog 10 #[.slice A4 m4 c4, .int .i64 e, .int .i64 k, .int .i64 m] wx fun r w' => ∃ v, r = .returned v ∧ Que w' wx.heap.size 4 v (L.filter fun a => !key e k m a).length (wl (L.filter fun a => !key e k m a)) ∧ But [] wx w') := fun hk wx kx => by
                        have := rwithout_c A4 m4 c4 L e k m wx (HX7.out.li.keep kx) HM.out (by omega)
                        rwa [wth_key hk] at this
                      unfold vv at HBK
                      generalize (L.filter fun a => !key e k m a) = L2 at *
                      generalize (L.filter (key e k m)).length = p at *
                      obtain ⟨did, hdid⟩ : ∃ x, x = decide ((L2.length : Int) < (m4 : Int)) := ⟨_, rfl⟩
                      have hdl := (len_lt hlen).trans hdid.symm
                      rw [hdl] at HBK
                      go_wp2_with (first
                        | (refine wpList_load_mid rfl lT _ rfl b 0 rfl (lc L) _ HRV.out Try.underlying27 rfl (iList _) ?_))
                      refine HBK.out.mono ?_
                      rintro r w5 ⟨rfl, k5⟩
                      obtain ⟨b8, w8, hb8, hw8, h8, k8⟩ := made_lt w5 L2
                      have HR8 := hid h8.all
                      have HB8 := hid (k5.trans k8)
                      obtain ⟨j0, j1, j2, j3⟩ := CW.out w8 (HB8.out.any _)
                      have HLEN := hid hlen
                      have HDI := hid hdid
                      clear k5 k8 h8 HBK g0 g1 g2 g3 hdl hlen hdid
                      go_upto_region 27 with (first
                        | (refine wpList_store_new rfl lT _ _ rfl (lc []).toArray (lc L2).toArray rfl rfl (iList' _) (by simp only [lc_size]) (lc_all _) ?_))
                      rw [← hw8, ← hb8]
                      clear hw8 hb8
                      by_cases hk : 0 ≤ k
                      · obtain rfl := HDI.out
                        clear HDI
                        go_wp2_with fail
                        refine (HRW.out hk _ HB8.out).mono ?_
                        rintro r w9 ⟨v9, rfl, hq9, k9⟩
                        obtain ⟨A9, c9, rfl, -, -, hx9⟩ := que_xa hq9 (Nat.lt_of_lt_of_le HBQ.out.2.2.2 HB8.out.size)
                        have HX9 := hid hx9
                        have HB9 := hid (HB8.out.trans k9)
                        have HR9 : Hid (w9.rangeAt b8 0 (lc L2)) := range_keep HR8.out k9 (by simp)
                        have HT9 : Hid (w9.there b 0 (lc L2).toArray.size) := by show World.there _ _ _ _; rw [lc_size]; exact (HV7.out.keep0 HB9.out).there
                        have HV11 : Hid (LtAt (w9.setCells b 0 (lc L2)) b L2) := lt_sets (HV7.out.keep0 HB9.out).there _
                        have HB11 : Hid (But [b] w7 (w9.setCells b 0 (lc L2))) := (HB9.out.any _).setCells (.inl (by simp)) _ _
                        have HX11 : Hid (Xa (w9.setCells b 0 (lc L2)) b A9 L2) := HX9.out.keep ((But.refl [b] _).setCells (by simp) _ _) (by simp)
                        clear hq9 k9 hx9 HRW HKN j0 j1 j2 j3
                        go_wp2_with (first
                          | (refine wpList_load_mid rfl lT _ rfl b8 0 rfl (lc L2) _ HR9.out Try.underlying27 rfl (iList _) ?_)
                          | (refine wpList_store_mid rfl lT _ _ rfl b 0 (lc L2).toArray rfl rfl ?ht (iList' _) (lc_all _) ?_; case ht => exact HT9.out))
                        go_meet
                        exact ⟨L2, A9, _, c9, rfl, hid rfl, HV11.out, HO2.out, HX11.out, HB11.out⟩
                      · have hk' : decide (0 ≤ k) = false := decide_eq_false hk
                        obtain ⟨hL2, hp0⟩ := HKN.out (by omega)
                        subst hL2
                        obtain rfl : did = false := by rw [HDI.out]; exact decide_eq_false (by have := HM.out; omega)
                        clear HDI
                        have HT9 : Hid (w8.there b 0 (lc L2).toArray.size) := by show World.there _ _ _ _; rw [lc_size]; exact (HV7.out.keep0 HB8.out).there
                        have HV11 : Hid (LtAt (w8.setCells b 0 (lc L2)) b L2) := lt_sets (HV7.out.keep0 HB8.out).there _
                        have HB11 : Hid (But [b] w7 (w8.setCells b 0 (lc L2))) := (HB8.out.any _).setCells (.inl (by simp)) _ _
                        have HX11 : Hid (Xa (w8.setCells b 0 (lc L2)) b A4 L2) := (HX7.out.keep HB8.out (by simp)).keep ((But.refl [b] _).setCells (by simp) _ _) (by simp)
                        clear HRW HKN hp0 j0 j2 j3
                        go_wp2_with (first
                          | (refine wpList_load_mid rfl lT _ rfl b8 0 rfl (lc L2) _ HR8.out Try.underlying27 rfl (iList _) ?_)
                          | (refine wpList_store_mid rfl lT _ _ rfl b 0 (lc L2).toArray rfl rfl ?ht (iList' _) (lc_all _) ?_; case ht => exact HT9.out))
                        go_meet
                        exact ⟨L2, A4, m4, c4, rfl, HM.out, HV11.out, HO2.out, HX11.out, HB11.out⟩
                    · have e4' : (K == 4) = false := by simp [e4]
                      by_cases e5 : K = 5
                      · subst e5
                        obtain ⟨g0, g1, g2, g3⟩ := CW.out w7 (But.refl _ _)
                        have HGN := hid (gone_c L HO.out.1 e w7)
                        have HO2 := hid (HO.out.filter fun a => !ofE e a)
                        have HRW : Hid (∀ wx, Li wx A4 L → Calls Try.prog 10 #[.slice A4 m4 c4, .int .i64 e, .int .i64 (-1), .int .i64 0] wx fun r w' => ∃ v, r = .returned v ∧ Que w' wx.heap.size 4 v (L.filter fun a => !ofE e a).length (wl (L.filter fun a => !ofE e a)) ∧ But [] wx w') := fun wx kx => by
                          have := rwithout_c A4 m4 c4 L e (-1) 0 wx kx HM.out (by omega)
                          rwa [wth_env e 0] at this
                        unfold vv at HGN
                        generalize (L.filter fun a => !ofE e a) = L2 at *
                        go_wp2_with (first
                          | (refine wpList_load_mid rfl lT _ rfl b 0 rfl (lc L) _ HRV.out Try.underlying27 rfl (iList _) ?_))
                        refine HGN.out.mono ?_
                        rintro r w5 ⟨rfl, k5⟩
                        have HT9 : Hid (w5.there b 0 (lc L2).toArray.size) := by show World.there _ _ _ _; rw [lc_size]; exact (HV7.out.keep0 k5).there
                        obtain ⟨w8, hw8⟩ : ∃ w8, w8 = w5.setCells b 0 (lc L2) := ⟨_, rfl⟩
                        have hk8 : But [b] w5 w8 := by rw [hw8]; exact (But.refl [b] _).setCells (by simp) _ _
                        have HV11 : Hid (LtAt w8 b L2) := by show LtAt _ _ _; rw [hw8]; exact lt_sets (HV7.out.keep0 k5).there _
                        have HB11 : Hid (But [b] w7 w8) := (k5.any _).trans hk8
                        have HX11 : Hid (Xa w8 b A4 L) := (HX7.out.keep k5 (by simp)).keep hk8 (by simp)
                        obtain ⟨j0, -, -, -⟩ := CW.out w8 HB11.out
                        have hb8 : b < w8.heap.size := HV11.out.lt
                        clear k5 hk8 HGN g0 g1 g2 g3
                        go_upto_region 35 with (first
                          | (refine wpList_store_mid rfl lT _ _ rfl b 0 (lc L2).toArray rfl rfl ?ht (iList' _) (lc_all _) ?_; case ht => exact HT9.out))
                        rw [← hw8]
                        clear hw8
                        go_wp2_with fail
                        refine (HRW.out _ HX11.out.li).mono ?_
                        rintro r w9 ⟨v9, rfl, hq9, k9⟩
                        obtain ⟨A9, c9, rfl, -, -, hx9⟩ := que_xa hq9 hb8
                        have HX12 := hid hx9
                        have HB12 := hid (HB11.out.trans (k9.any _))
                        have HV12 := hid (HV11.out.keep0 k9)
                        clear hq9 k9 hx9 HRW j0
                        go_wp2
                        go_meet
                        exact ⟨L2, A9, _, c9, rfl, hid rfl, HV12.out, HO2.out, HX12.out, HB12.out⟩
                      · have e5' : (K == 5) = false := by simp [e5]
                        have HTC := hid (turn_c L HO.out w7)
                        have HRT : Hid (∀ wx, Li wx A4 L → Calls Try.prog 13 #[.slice A4 m4 c4] wx (Tr wx.heap.size L wx)) := fun wx kx => rturn_c A4 m4 c4 L wx HO.out kx HM.out
                        have HO2 := hid HO.out.turn
                        have HAL := hid (fun w => all_c L HO.out.1 w)
                        have hD64 : (tnD L).length ≤ 64 := Nat.le_trans (List.length_filter_le _ _) (by rw [dn_len]; exact HO.out.1)
                        rw [HM.out] at HAL
                        unfold vv at HTC HAL
                        unfold Tr at HRT
                        go_wp2_with (first
                          | (refine wpList_load_mid rfl lT _ rfl b 0 rfl (lc L) _ HRV.out Try.underlying27 rfl (iList _) ?_))
                        refine HTC.out.mono ?_
                        rintro r w5 ⟨A5, c5, rfl, hq5, k5⟩
                        obtain ⟨b8, w8, hb8, hw8, h8, k8⟩ := made_lt w5 (tnL L)
                        have HR8 := hid h8.all
                        have HB8 := hid (k5.trans k8)
                        obtain ⟨A6, c6, e6, -, hli⟩ := que_li (hq5.keep0 k8)
                        injection e6 with e61 e62 e63
                        subst e61
                        have HLD := hid hli
                        have HX8 := hid (HX7.out.keep HB8.out (by simp))
                        clear k5 k8 h8 HTC hq5 hli e62 e63
                        generalize tnL L = L2 at *
                        generalize tnD L = Du at *
                        go_upto_region 10 with (first
                          | (refine wpList_store_new rfl lT _ _ rfl (lc []).toArray (lc L2).toArray rfl rfl (iList' _) (by simp only [lc_size]) (lc_all _) ?_))
                        rw [← hw8, ← hb8]
                        clear hw8 hb8
                        go_wp2_with fail
                        refine (HRT.out _ HX8.out.li).mono ?_
                        rintro r w9 ⟨A91, A92, c91, c92, rfl, hq91, hq92, k9⟩
                        obtain ⟨A93, c93, e93, -, -, hx9⟩ := que_xa hq91 (Nat.lt_of_lt_of_le HBQ.out.2.2.2 HB8.out.size)
                        injection e93 with e931 e932 e933
                        subst e931
                        obtain ⟨A94, c94, e94, -, hl9⟩ := que_li hq92
                        injection e94 with e941 e942 e943
                        subst e941
                        have HX9 := hid hx9
                        have HL9 := hid hl9
                        have HLD9 := hid (HLD.out.keep k9)
                        have HB9 := hid (HB8.out.trans k9)
                        have HR9 : Hid (w9.rangeAt b8 0 (lc L2)) := range_keep HR8.out k9 (by simp)
                        clear hq91 hq92 k9 hx9 hl9 HLD HR8 HRT e932 e933 e942 e943
                        go_wp2_with fail
                        refine (same_c A5 A92 Du.length _ _ Du w9 rfl (by omega) HLD9.out HL9.out).mono ?_
                        rintro r w10 ⟨rfl, k10⟩
                        have HB10 := hid (HB9.out.trans k10)
                        have HR10 : Hid (w10.rangeAt b8 0 (lc L2)) := range_keep HR9.out k10 (by simp)
                        have HX10 := hid (HX9.out.keep k10 (by simp))
                        have HRW : Hid (w10.rangeAt b7 0 (lc L)) := range_keep HR7.out HB10.out (by simp)
                        clear k10 HR9 HX9 HLD9 HL9
                        go_wp2_with (first
                          | (refine wpList_load_mid_g lT _ rfl b7 0 rfl (lc L) _ HRW.out Try.underlying27 rfl (iList _) rfl ?_))
                        refine (HAL.out _).mono ?_
                        rintro r w11 ⟨v11, rfl, hq11, k11⟩
                        obtain ⟨A11, c11, rfl, -, hl11⟩ := que_li hq11
                        have HL11 := hid hl11
                        have HB11 := hid (HB10.out.trans k11)
                        have HR11 : Hid (w11.rangeAt b8 0 (lc L2)) := range_keep HR10.out k11 (by simp)
                        have HX11 := hid (HX10.out.keep k11 (by simp))
                        clear k11 hq11 hl11 HAL HR10 HX10 HRW
                        go_wp2_with fail
                        refine (same_c A11 A4 m4 c11 c4 L w11 HM.out (by omega) HL11.out (HX7.out.li.keep HB11.out)).mono ?_
                        rintro r w12 ⟨rfl, k12⟩
                        have HB12 := hid (HB11.out.trans k12)
                        have HR12 : Hid (w12.rangeAt b8 0 (lc L2)) := range_keep HR11.out k12 (by simp)
                        have HT12 : Hid (w12.there b 0 (lc L2).toArray.size) := by show World.there _ _ _ _; rw [lc_size]; exact (HV7.out.keep0 HB12.out).there
                        have HV13 : Hid (LtAt (w12.setCells b 0 (lc L2)) b L2) := lt_sets (HV7.out.keep0 HB12.out).there _
                        have HB13 : Hid (But [b] w7 (w12.setCells b 0 (lc L2))) := (HB12.out.any _).setCells (.inl (by simp)) _ _
                        have HX13 : Hid (Xa (w12.setCells b 0 (lc L2)) b A91 L2) := (HX11.out.keep k12 (by simp)).keep ((But.refl [b] _).setCells (by simp) _ _) (by simp)
                        clear k12 HR11 HX11 HL11
                        go_wp2_with (first
                          | (refine wpList_load_mid rfl lT _ rfl b8 0 rfl (lc L2) _ HR12.out Try.underlying27 rfl (iList _) ?_)
                          | (refine wpList_store_mid rfl lT _ _ rfl b 0 (lc L2).toArray rfl rfl ?ht (iList' _) (lc_all _) ?_; case ht => exact HT12.out))
                        go_meet
                        exact ⟨L2, A91, _, _, rfl, hid rfl, HV13.out, HO2.out, HX13.out, HB13.out⟩
        case rest =>
          as_aux_lemma =>
            obtain ⟨L2, A2, m2, c2, rfl, HM2, HV2, HO2, HX2, HB2⟩ := hcut
            clear HO HM hm64 HX7 HV7
            have hm2 : m2 ≤ 64 := by have := HO2.out.1; have := HM2.out; omega
            have HRV2 := hid HV2.out.all
            have HFC := hid (first_c L2 HO2.out e k wc)
            have HAL := hid (fun w => all_c L2 HO2.out.1 w)
            rw [HM2.out] at HAL
            unfold vv at HFC HAL
            obtain ⟨g0, g1, -, -⟩ := CW.out wc HB2.out
            go_wp2_with (first
              | (refine wpList_load_mid rfl lT _ rfl b 0 rfl (lc L2) _ HRV2.out Try.underlying27 rfl (iList _) ?_))
            refine HFC.out.mono ?_
            rintro r w3 ⟨⟨f, hf, hr⟩, k3⟩
            obtain ⟨n1, b1, hp, hcases⟩ := pr_cases hf
            rw [hp] at hr
            subst hr
            have HF := hid hf
            have HCS := hid hcases
            have HRF := hid (rfirst_c A2 m2 c2 L2 e k w3 HO2.out (HX2.out.li.keep k3) HM2.out)
            have K3 := hid k3
            obtain ⟨j0, j1, -, -⟩ := CW.out w3 (HB2.out.trans (k3.any _))
            clear g0 g1 hf hp hcases k3 HFC
            go_wp2_with fail
            refine HRF.out.mono ?_
            rintro r w4 ⟨⟨f2, hf2, rfl⟩, k4⟩
            obtain rfl : f2 = f := hf2.one HF.out
            have K4 := hid (K3.out.trans k4)
            have HR4 : Hid (w4.rangeAt b 0 (lc L2)) := range_keep HRV2.out K4.out (by simp)
            clear hf2 k4 HRF j0 j1 HF
            go_wp2_with (first
              | (refine wpList_load_mid rfl lT _ rfl b 0 rfl (lc L2) _ HR4.out Try.underlying27 rfl (iList _) ?_))
            refine (HAL.out _).mono ?_
            rintro r w5 ⟨v5, rfl, hq5, k5⟩
            obtain ⟨A5, c5, rfl, -, hl5⟩ := que_li hq5
            have HL5 := hid hl5
            have K5 := hid (K4.out.trans k5)
            clear k5 hq5 hl5 HAL HR4
            go_wp2_with fail
            refine (same_c A5 A2 m2 c5 c2 L2 w5 HM2.out (by omega) HL5.out (HX2.out.li.keep K5.out)).mono ?_
            rintro r w6 ⟨rfl, k6⟩
            have K6 := hid (K5.out.trans k6)
            have HV6 := hid (HV2.out.keep0 K6.out)
            have HX6 := hid (HX2.out.keep K6.out (by simp))
            have HB6 : Hid (But [] w w6) := but_own (l := [b]) HB7.out (HB2.out.trans (K6.out.any _)) (fun i hi => by simp at hi; have := HBQ.out; omega)
            clear k6 HL5
            rcases HCS.out with ⟨e1, e2, e3⟩ | ⟨e1, e2, e3⟩
            · subst e1; subst e2; subst e3
              clear HCS
              go_wp2
              go_roundg (101 - (i + 1))
              case measure => omega
              case rel => exact ⟨i + 1, L2, A2, m2, c2, by omega, by omega, by omega, by go_num, rfl, HM2.out, HV6.out, HO2.out, HX6.out, HB6.out⟩
            · subst e2; subst e3
              have hj0 : decide (0 ≤ n1) = true := decide_eq_true e1
              clear HCS
              go_wp2
              go_roundg (101 - (i + 1))
              case measure => omega
              case rel => exact ⟨i + 1, L2, A2, m2, c2, by omega, by omega, by omega, by go_num, rfl, HM2.out, HV6.out, HO2.out, HX6.out, HB6.out⟩
      · obtain rfl : i = 100 := by omega
        have h100' : ((100 : Nat) : Int) = 100 := rfl
        go_wp2_with fail
        refine (HAW.out _).mono ?_
        rintro r w9 ⟨rfl, k9⟩
        have K9 := hid (HB.out.trans k9)
        clear k9
        go_wp2
        go_ret
        exact ⟨rfl, K9.out⟩
    · obtain rfl : i = n := by omega
      go_wp2_with fail
      refine (HAW.out _).mono ?_
      rintro r w9 ⟨rfl, k9⟩
      have K9 := hid (HB.out.trans k9)
      clear k9
      go_wp2
      go_ret
      exact ⟨rfl, K9.out⟩
end Go.Proofs.Ytfopmdiepaonnaa.Ao
