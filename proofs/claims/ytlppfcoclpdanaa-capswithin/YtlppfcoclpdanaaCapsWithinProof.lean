/-
  Whatever the input, the Go function CapsWithin answers true, and its arguments read behind the call as they read before. No condition.
-/
import Derived.Test.YtlppfcoclpdanaaRows
import Derived.Test.YtlppfcoclpdanaaCsGone
import Derived.Test.YtlppfcoclpdanaaCsNew
import Derived.Test.YtlppfcoclpdanaaCsRefN
import Derived.Test.YtlppfcoclpdanaaCsDoes
import Derived.Test.YtlppfcoclpdanaaCsAwake
import Derived.WalkKit
import Derived.Deep.LoopGhost
import Derived.Deep.CutBlock
import Derived.Deep.CutRange
import Derived.ProofKit
import Derived.OpenShut
import Derived.ShutString
import Derived.ChangeOld
import Derived.Below
import Derived.Carry
namespace Go.Proofs.Ytlppfcoclpdanaa.capsWithin
open Go.ChangeShapes Go.WideShapes Go.ChangeAt Go.RowKit
open Go.ChangeMaps (open_string shut_string)
set_option linter.unusedVariables false

theorem own : ownKnob Try.prog.godebug = none := by kernel_rfl
theorem laidOut : laidOutB Try.prog = true := by kernel_rfl

set_option maxHeartbeats 4000000 in
set_option maxRecDepth 100000 in
theorem walk (w : World) (A0 : Option Addr) (len0 cap0 : Nat) (r0 : RowOf ks_flatDeed w A0 len0 cap0) :
    Calls Try.prog 4 #[.slice A0 len0 cap0] w fun e w' => e = .returned (.bool true) ∧ Below w.heap.size w w' := by
  obtain ⟨hlc, hcm, hrow⟩ := r0
  have HR : Hid (len0 = 0 ∨ ∃ b off, A0 = some ⟨b, off, none⟩ ∧ b < w.heap.size ∧ ∀ i, i < len0 → ∃ vs, w.rangeAt b (off + i * 5) vs ∧ Fits ks_flatDeed vs) := hrow
  unfold maxLen at hcm
  clear hrow
  go_enter Try.func4, Try.ntmps4
  go_wp2_with fail
  refine (Sn.of_c 0 40 w).mono ?_
  rintro e w1 ⟨A1, n1, c1, rfl, hs1, k1⟩
  have HS1 := Sn.hid hs1
  have HK1 := Sn.hid k1
  clear hs1 k1
  go_wp2_with fail
  refine (Cs.New_c A1 n1 c1 _ _ w1 HS1.out).mono ?_
  rintro e w2 ⟨bt, rfl, hbt, ht2, k2⟩
  have HBT : Hid (w.heap.size ≤ bt) := Nat.le_trans HK1.out.size hbt
  have HT2 : Hid (Cs.TrA w2 bt [bt] (Cs.T0 (Sn.one 0 40)) 1) := ht2
  have HK2 := Sn.hid (HK1.out.trans k2)
  have HK3 : Hid (But [] w2 (w2.alloc (.cells #[.int .i64 0, .int .u64 1] 26))) := (But.refl [] w2).alloc _
  clear hbt ht2 k2
  go_upto_region 2 with fail
  have HT3 := Sn.hid (HT2.out.keep0 HK3.out)
  have HK3' := Sn.hid (HK2.out.trans HK3.out)
  generalize w2.alloc (.cells #[.int .i64 0, .int .u64 1] 26) = w3 at *
  clear HT2 HK2 HK3 HS1 HK1
  go_wp2_with fail
  refine (Sn.rof_c 0 40 w3).mono ?_
  rintro e w4 ⟨rfl, k4⟩
  have HK4 := Sn.hid k4
  clear k4
  go_wp2_with fail
  refine (Cs.rNew_c _ w4).mono ?_
  rintro e w5 ⟨bx, bl, rfl, hbx, hbl, hrf, k5⟩
  have HL0 : Hid (Cs.Lw w bt bx bl [] (Cs.T0 (Sn.one 0 40)) 1 0 w5) :=
    ⟨Cs.Bo.new HT3.out (HK4.out.trans k5) (Nat.le_trans HK4.out.size hbx) (Nat.le_trans HK4.out.size hbl) hrf (Cs.new_wf (Sn.one_lim _ _)), Nat.le_refl _, (HK3'.out.trans HK4.out).trans k5, HBT.out, by have := HK3'.out.size; have := HK4.out.size; omega, by have := HK3'.out.size; have := HK4.out.size; omega⟩
  clear hbx hbl hrf k5 HT3 HK4 HK3' HBT
  have HG0 : Hid (Cs.Gn w w5.heap.size bt bx bl (Cs.T0 (Sn.one 0 40)) 1 0 none 0 0 [] w5) :=
    ⟨⟨[], HL0.out, fun g e => by simp [Value.ownBlock] at e⟩, Que.nil _ _ _, HL0.out.bo.lt, Nat.le_refl _, fun x hx => by simp at hx⟩
  clear HL0
  generalize w5.heap.size = B0 at *
  go_wp2
  go_loopg [6, 7] 30 (fun g0 gv iv wx => ∃ (i n c : Nat) (T : Cs.Tr) (m : Nat) (A : Option Addr) (gl : List (Nat × Nat)), i + g0 = 30 ∧ i ≤ len0 ∧ n ≤ 64 * i ∧ gv = .slice A n c ∧ iv = .int .i64 i ∧ Hid (Cs.Gn w B0 bt bx bl T m i A n c gl wx))
  case atStart => exact ⟨0, 0, 0, _, _, none, [], by omega, Nat.zero_le _, by omega, rfl, rfl, HG0.out⟩
  case round =>
    obtain ⟨i, ng, cg, T, m, Ag, gl, hig, hil, hng, rfl, rfl, HS⟩ := hrel
    rename World => wa
    clear HG0
    by_cases hlt : i < len0
    · by_cases h100 : i < 30
      · obtain ⟨bA, off, rfl, hbl, hall⟩ : ∃ bA off, A0 = some ⟨bA, off, none⟩ ∧ bA < w.heap.size ∧ ∀ i, i < len0 → ∃ vs, w.rangeAt bA (off + i * 5) vs ∧ Fits ks_flatDeed vs := by
          rcases HR.out with h | h
          · omega
          · exact h
        obtain ⟨vs, hr, hfit⟩ := hall i hlt
        obtain ⟨K, at_, F, To, G, rfl⟩ := deed_of hfit
        have HRE := Sn.hid (Cs.range_below hr HS.out.but)
        clear hall hr hfit
        have hilt : (i : Int) < (len0 : Int) := by omega
        have h30I : decide ((i : Int) < 30) = true := decide_eq_true (by omega)
        go_wp2
        go_loopg [8, 9] 65 (fun g1 sv kv wy => ∃ (k c : Nat) (A : Option Addr), k + g1 = 65 ∧ k ≤ 64 ∧ sv = .slice A k c ∧ kv = .int .i64 k ∧ Hid (Que wy wa.heap.size 2 (.slice A k c) k (Cs.kc T (List.range k))) ∧ Hid (But [] wa wy))
        case atStart => exact ⟨0, 0, none, by omega, by omega, rfl, rfl, Que.nil _ _ _, But.refl _ _⟩
        case round =>
          obtain ⟨k, cw, Aw, hkg, hk, rfl, rfl, HQ, HB⟩ := hrel
          by_cases hkl : k < 64
          · have hkI : (k : Int) < 64 := by omega
            have hRF := HS.out.rf.keep0 HB.out
            have hc0 := hRF.c0
            have hcg := hRF.g hkl
            obtain ⟨g', off', c', w6, hr6, hq6, hk6, ho6⟩ := Wh.que_push (P := Try.prog) 44 26 _ Try.underlying44 Cs.Try.infoCap rfl (by decide) (by decide) HQ.out [.int .i64 (k : Nat), .int .u64 ((T k).gen : Nat)] rfl (Cs.one_cap _ _) HB.out.size (by omega)
            rw [← Cs.kc_snoc, ← List.range_succ] at hq6
            have HQ6 := Sn.hid hq6
            have HB6 := Sn.hid (Cs.but_own' HB.out hk6 (fun i hi => (HQ.out.lt i hi).1))
            have HR6 := Sn.hid hr6
            clear hr6 hq6 hk6 ho6 HQ HB hRF
            generalize (T k).gen = gp at *
            go_wp2_with (first | (at_builtin; refine wpList_append_known _ rfl _ _ 44 rfl _ _ rfl rfl HR6.out ?_) | fail)
            go_roundg (65 - (k + 1))
            case measure => omega
            case rel => exact ⟨k + 1, c', _, by omega, by omega, rfl, by go_num, HQ6.out, HB6.out⟩
          · obtain rfl : k = 64 := by omega
            have HS6 := Sn.hid (HS.out.keep HB.out)
            have HRE6 := Sn.hid (Cs.range_below HRE.out HB.out)
            have HWG : Hid (∀ g, (Value.slice Aw 64 cw).ownBlock = some g → (Value.slice Ag ng cg).ownBlock ≠ some g ∧ g < wr.heap.size ∧ B0 ≤ g) := by
              show ∀ g, _ → _
              intro g hg
              obtain ⟨h1, h2⟩ := HQ.out.lt g (by rw [hg]; simp)
              refine ⟨fun e => ?_, h2, Nat.le_trans HS.out.le h1⟩
              have := (HS.out.q.lt g (by rw [e]; simp)).2
              omega
            have HQ6 := Sn.hid HQ.out
            clear HQ HB HRE HS
            rename World => wb
            obtain ⟨gw, ow, rfl, -⟩ := Cs.caps_at HQ6.out (j := 0) (by omega)
            obtain ⟨Y, hL1, hY⟩ := HS6.out.ex
            have HL1 := Sn.hid hL1
            have HY := Sn.hid hY
            clear hL1 hY
            go_wp2_with (first
              | (refine wpList_load_mid rfl 40 _ rfl bA (off + i * 5) rfl [.int .i64 K, .int .i64 at_, .int .i64 F, .int .i64 To, .int .u64 G] _ HRE6.out Try.underlying40 rfl infoDeed ?_)
              | fail)
            refine (Cs.does_c bt bx bl m T K at_ F To G wb HL1.out.bo (by have := HL1.out.le; omega)).mono ?_
            rintro e w7 ⟨rfl, T', m', hb7, hs7, k7⟩
            have HS7 : Hid (Cs.Gn w B0 bt bx bl T' m' (i + 1) Ag ng cg gl w7) := (HS6.out.does (wy := w7) K at_ F To G (by have := HL1.out.le; omega)).2 Y T' m' HL1.out HY.out hb7 hs7.1 k7
            have HQ7 := Sn.hid (HQ6.out.keep k7 (fun g hg => by have := (HWG.out g (by simpa using hg)).2.2; have := HS6.out.b; simp; omega))
            have HWG7 : Hid (∀ g, (Value.slice (some ⟨gw, ow, none⟩) 64 cw).ownBlock = some g → (Value.slice Ag ng cg).ownBlock ≠ some g ∧ g < w7.heap.size) := fun g hg => ⟨(HWG.out g hg).1, Nat.lt_of_lt_of_le (HWG.out g hg).2.1 k7.size⟩
            have HGM : Hid (∀ p, (T p).gen ≤ m') := fun p => Nat.le_trans (HS6.out.wf.le p) hs7.1.1
            clear hb7 hs7 k7 HL1 HY HS6 HRE6 HQ6 HWG Y
            have hng2 : ng ≤ 64 * i + 0 := hng
            clear hng
            go_wp2
            go_loopg [6, 10] 65 (fun g2 gv kv wy => ∃ (k n c : Nat) (A : Option Addr) (l : List (Nat × Nat)), k + g2 = 65 ∧ k ≤ 64 ∧ n ≤ 64 * i + k ∧ gv = .slice A n c ∧ kv = .int .i64 k ∧ Hid (Cs.Gn w B0 bt bx bl T' m' (i + 1) A n c l wy) ∧ Hid (Que wy wa.heap.size 2 (.slice (some ⟨gw, ow, none⟩) 64 cw) 64 (Cs.kc T (List.range 64))) ∧ Hid (∀ g, (Value.slice (some ⟨gw, ow, none⟩) 64 cw).ownBlock = some g → (Value.slice A n c).ownBlock ≠ some g ∧ g < wy.heap.size))
            case atStart => exact ⟨0, ng, cg, Ag, gl, by omega, by omega, hng2, rfl, rfl, HS7.out, HQ7.out, HWG7.out⟩
            case round =>
              obtain ⟨k, n, c, A, l, hkg, hk, hnk, rfl, rfl, HS, HQ, HWG⟩ := hrel
              clear HS7 HQ7 HWG7
              rename World => w8
              by_cases hkl : k < 64
              · have hkI : (k : Int) < 64 := by omega
                have HGk := Sn.hid (HGM.out k)
                obtain ⟨G', hG'⟩ : ∃ G', (T k).gen = G' := ⟨_, rfl⟩
                have HCS : Hid (∀ wy, But [] w8 wy → wy.cell? ⟨gw, ow + k * 2, none⟩ = some (.int .i64 (k : Nat)) ∧ wy.cell? ⟨gw, ow + k * 2 + 1, none⟩ = some (.int .u64 (G' : Nat))) := by
                  show ∀ wy, _ → _
                  intro wy hy
                  rw [← hG']
                  exact Cs.was_at (HQ.out.keep0 hy) hkl
                rw [hG'] at HGk
                have HGE := Sn.hid hG'
                clear hG'
                obtain ⟨Z, f, hf⟩ := HS.out.tr
                have HF := Sn.hid hf
                clear hf
                obtain ⟨hc0, hc1⟩ := HCS.out w8 (But.refl _ _)
                obtain ⟨there, hth⟩ : ∃ b, Cs.isB T' k G' = b := ⟨_, rfl⟩
                go_wp2_with fail
                refine (Cs.Set_c bt m' Z T' f k G' w8 HF.out).mono ?_
                rintro e w9 ⟨A9, n9, c9, rfl, -, -, k9⟩
                rw [hth]
                have HTH := Sn.hid hth
                have HK10 : Hid (But [] w8 (w9.alloc (.cells #[.slice A9 n9 c9] 31))) := k9.alloc _
                clear hth k9 hc0 hc1
                go_upto_region 17 with fail
                generalize w9.alloc (.cells #[.slice A9 n9 c9] 31) = w10 at *
                obtain ⟨hc0, hc1⟩ := HCS.out w10 HK10.out
                go_cut [90] from 81 to 89 (fun s90 wx => s90 = .bool (!there && decide (0 < G')) ∧ wx = w10)
                case first =>
                  cases there with
                  | true =>
                    go_wp2_with fail
                    go_meet
                    exact ⟨rfl, rfl⟩
                  | false =>
                    by_cases hG0 : 0 < G'
                    · have hd : decide (0 < G') = true := decide_eq_true hG0
                      have hd2 : decide ((0 : Int) < (G' : Int)) = true := decide_eq_true (by omega)
                      go_wp2_with fail
                      go_meet
                      exact ⟨by rw [hd]; rfl, rfl⟩
                    · have hd : decide (0 < G') = false := decide_eq_false hG0
                      have hd2 : decide ((0 : Int) < (G' : Int)) = false := decide_eq_false (by omega)
                      go_wp2_with fail
                      go_meet
                      exact ⟨by rw [hd]; rfl, rfl⟩
                case rest =>
                obtain ⟨rfl, h10⟩ := hcut
                rw [h10]
                clear h10
                obtain ⟨put, hput⟩ : ∃ b, (!there && decide (0 < G')) = b := ⟨_, rfl⟩
                have HPUT := Sn.hid hput
                rw [hput]
                clear hput
                go_upto_if 90 with fail
                go_cut [6] (fun s6 wx => ∃ (n' c' : Nat) (A' : Option Addr) (l' : List (Nat × Nat)), s6 = .slice A' n' c' ∧ n' ≤ 64 * i + (k + 1) ∧ Hid (Cs.Gn w B0 bt bx bl T' m' (i + 1) A' n' c' l' wx) ∧ Hid (Que wx wa.heap.size 2 (.slice (some ⟨gw, ow, none⟩) 64 cw) 64 (Cs.kc T (List.range 64))) ∧ Hid (∀ g, (Value.slice (some ⟨gw, ow, none⟩) 64 cw).ownBlock = some g → (Value.slice A' n' c').ownBlock ≠ some g ∧ g < wx.heap.size))
                case first =>
                  cases put with
                  | false =>
                    go_wp2_with fail
                    go_meet
                    exact ⟨n, c, A, l, rfl, by omega, HS.out.keep HK10.out, HQ.out.keep0 HK10.out, fun g hg => ⟨(HWG.out g hg).1, Nat.lt_of_lt_of_le (HWG.out g hg).2 HK10.out.size⟩⟩
                  | true =>
                    have hp := HPUT.out
                    simp only [Bool.and_eq_true, Bool.not_eq_true', decide_eq_true_eq] at hp
                    obtain ⟨hp1, hp2⟩ := hp
                    subst hp1
                    have hS10 := HS.out.keep HK10.out
                    have hQ10 := HQ.out.keep0 HK10.out
                    obtain ⟨g', off', c', w12, hr12, hq12, hk12, ho12⟩ := Wh.que_push (P := Try.prog) 44 26 _ Try.underlying44 Cs.Try.infoCap rfl (by decide) (by decide) hS10.q [.int .i64 (k : Nat), .int .u64 (G' : Nat)] rfl (Cs.one_cap _ _) hS10.le (by omega)
                    have HS12 := Sn.hid (hS10.push hq12 hk12 ho12 ⟨hp2, HGk.out, Cs.not_was hkl hp2 HTH.out⟩)
                    have HQ12 := Sn.hid (hQ10.keep hk12 (fun g hg hm => (HWG.out g (by simpa using hg)).1 (by simpa using hm)))
                    have HWG12 : Hid (∀ g, (Value.slice (some ⟨gw, ow, none⟩) 64 cw).ownBlock = some g → (Value.slice (some ⟨g', off', none⟩) (n + 1) c').ownBlock ≠ some g ∧ g < w12.heap.size) := by
                      show ∀ g, _ → _
                      intro g hg
                      obtain ⟨h1, h2⟩ := HWG.out g hg
                      refine ⟨fun e => ?_, Nat.lt_of_lt_of_le h2 (Nat.le_trans HK10.out.size hk12.size)⟩
                      simp [Value.ownBlock] at e
                      subst e
                      rcases ho12 with ho | ho
                      · exact h1 ho
                      · have := HK10.out.size; omega
                    have HR12 := Sn.hid hr12
                    clear hr12 hq12 hk12 ho12 hS10 hQ10 hp2
                    go_wp2_with (first | (at_builtin; refine wpList_append_known _ rfl _ _ 44 rfl _ _ rfl rfl HR12.out ?_) | fail)
                    go_meet
                    exact ⟨n + 1, c', _, _, rfl, by omega, HS12.out, HQ12.out, HWG12.out⟩
                case rest =>
                obtain ⟨n1', c1', A1', l1', rfl, hn1, HS1, HQ1, HWG1⟩ := hcut
                clear HS HQ HWG HCS hc0 hc1 HF HK10 HTH HPUT hnk
                rename World => w12
                have HCS : Hid (∀ wy, But [] w12 wy → wy.cell? ⟨gw, ow + k * 2, none⟩ = some (.int .i64 (k : Nat)) ∧ wy.cell? ⟨gw, ow + k * 2 + 1, none⟩ = some (.int .u64 (G' : Nat))) := by
                  show ∀ wy, _ → _
                  intro wy hy
                  rw [← HGE.out]
                  exact Cs.was_at (HQ1.out.keep0 hy) hkl
                obtain ⟨Z, f, hf⟩ := HS1.out.tr
                have HF := Sn.hid hf
                have HWF := Sn.hid HS1.out.wf
                clear hf
                obtain ⟨pa, pg, ok, hPV, hwi⟩ := Cs.par_within HWF.out k G'
                have HWI := Sn.hid hwi
                clear hwi
                obtain ⟨hc0, hc1⟩ := HCS.out w12 (But.refl _ _)
                go_wp2_with fail
                refine (Cs.Parent_c bt m' Z T' f k G' w12 HF.out HWF.out).mono ?_
                rintro e w13 ⟨rfl, k13⟩
                rw [hPV]
                obtain ⟨q13, hq13⟩ : ∃ q, q = w13.heap.size := ⟨_, rfl⟩
                have hb13 := new_range w13 [.int .i64 pa, .int .u64 pg] 26
                change (w13.alloc (.cells #[.int .i64 pa, .int .u64 pg] 26)).rangeAt _ _ _ at hb13
                rw [← hq13] at hb13
                have HP0 := Sn.hid (range_cells hb13 0 _ rfl)
                have HP1 := Sn.hid (range_cells hb13 1 _ rfl)
                have HK14 : Hid (But [] w12 (w13.alloc (.cells #[.int .i64 pa, .int .u64 pg] 26))) := k13.alloc _
                clear k13 hPV hc0 hc1 hb13
                go_upto_region 20 with fail
                rw [← hq13]
                clear hq13
                generalize w13.alloc (.cells #[.int .i64 pa, .int .u64 pg] 26) = w14 at *
                obtain ⟨hc0, hc1⟩ := HCS.out w14 HK14.out
                go_wp2_with fail
                refine (Cs.Set_c bt m' Z T' f k G' w14 (HF.out.keep0 HK14.out)).mono ?_
                rintro e w15 ⟨A15, n15, c15, rfl, hs15, -, k15⟩
                obtain ⟨q15, hq15⟩ : ∃ q, q = w15.heap.size := ⟨_, rfl⟩
                have hb15 := new_range w15 [.slice A15 n15 c15] 31
                change (w15.alloc (.cells #[.slice A15 n15 c15] 31)).rangeAt _ _ _ at hb15
                rw [← hq15] at hb15
                have HB15 := Sn.hid (range_cells hb15 0 _ rfl)
                have HS15 := Sn.hid (hs15.keep0 ((But.refl [] w15).alloc (.cells #[.slice A15 n15 c15] 31)))
                have HK15 : Hid (But [] w14 (w15.alloc (.cells #[.slice A15 n15 c15] 31))) := k15.alloc _
                clear k15 hs15 hc0 hc1 hb15
                go_upto_region 21 with fail
                rw [← hq15]
                clear hq15
                generalize w15.alloc (.cells #[.slice A15 n15 c15] 31) = w16 at *
                have HK16 := Sn.hid (HK14.out.trans HK15.out)
                have hp0 := cell_keep HP0.out HK15.out (by simp)
                have hp1 := cell_keep HP1.out HK15.out (by simp)
                go_wp2_with fail
                refine (Cs.Set_c bt m' Z T' f pa pg w16 (HF.out.keep0 HK16.out)).mono ?_
                rintro e w17 ⟨A17, n17, c17, rfl, hs17, -, k17⟩
                obtain ⟨q17, hq17⟩ : ∃ q, q = w17.heap.size := ⟨_, rfl⟩
                have hb17 := new_range w17 [.slice A17 n17 c17] 31
                change (w17.alloc (.cells #[.slice A17 n17 c17] 31)).rangeAt _ _ _ at hb17
                rw [← hq17] at hb17
                have HB17 := Sn.hid (range_cells hb17 0 _ rfl)
                have HS17 := Sn.hid (hs17.keep0 ((But.refl [] w17).alloc (.cells #[.slice A17 n17 c17] 31)))
                have HK17 : Hid (But [] w16 (w17.alloc (.cells #[.slice A17 n17 c17] 31))) := k17.alloc _
                clear k17 hs17 hp0 hp1 hb17
                go_upto_region 22 with fail
                rw [← hq17]
                clear hq17
                generalize w17.alloc (.cells #[.slice A17 n17 c17] 31) = w18 at *
                have HK18 := Sn.hid (HK16.out.trans HK17.out)
                go_cut [128] from 122 to 127 (fun s128 wx => s128 = .bool false ∧ Hid (But [] w12 wx))
                case first =>
                  cases ok with
                  | false =>
                    go_wp2_with fail
                    go_meet
                    exact ⟨rfl, HK18.out⟩
                  | true =>
                    have HW1 := Sn.hid (HWI.out rfl)
                    have hb15 := cell_keep HB15.out HK17.out (by simp)
                    have hb17 := HB17.out
                    go_wp2_with fail
                    refine (Sn.within_c A15 A17 n15 n17 c15 c17 _ _ _ _ w18 (HS15.out.keep0 HK17.out) HS17.out).mono ?_
                    rintro e w19 ⟨rfl, k19⟩
                    rw [HW1.out]
                    have HK19 := Sn.hid (HK18.out.trans k19)
                    clear k19 hb15 hb17
                    go_wp2_with fail
                    go_meet
                    exact ⟨rfl, HK19.out⟩
                case rest =>
                obtain ⟨rfl, HK20⟩ := hcut
                clear HP0 HP1 HB15 HS15 HB17 HS17 HK14 HK15 HK16 HK17 HK18 HWI
                rename World => w20
                obtain ⟨hc0, hc1⟩ := HCS.out w20 HK20.out
                go_wp2_with fail
                refine (Cs.Children_c bt m' Z T' f k G' w20 (HF.out.keep0 HK20.out)).mono ?_
                rintro e w21 ⟨Ak, nk, ck, rfl, hqk, k21⟩
                have HK21 := Sn.hid (HK20.out.trans k21)
                have HQK := Sn.hid hqk
                have hnl : nk = (Cs.chS T' k G').length := by have := hqk.1; rw [Cs.kc_len] at this; omega
                have hn64 := Cs.chs_len T' k G'
                rw [← hnl] at hn64
                have HNL := Sn.hid hnl
                clear hqk k21 hnl hc0 hc1
                go_wp2
                go_loopg [19, 21] (nk + 1) (fun g3 nv jv wy => ∃ j : Nat, j + g3 = nk + 1 ∧ j ≤ nk ∧ nv = .int .i64 ((Sn.nums (Cs.sAny T' ((Cs.chS T' k G').take j)) 1024).length : Nat) ∧ jv = .int .i64 j ∧ Hid (But [] w21 wy))
                case atStart => exact ⟨0, by omega, by omega, by rw [List.take_zero]; rfl, rfl, But.refl _ _⟩
                case round =>
                  obtain ⟨j, hjg, hj, rfl, rfl, HB⟩ := hrel
                  rename World => w22
                  by_cases hjl : j < nk
                  · have hjI : (j : Int) < (nk : Int) := by omega
                    obtain ⟨gk, ok2, rfl, hd0, hd1⟩ := Cs.caps_at (HQK.out.keep0 HB.out) hjl
                    obtain ⟨hch, hst⟩ := Cs.chs_step HWF.out (k := k) (G := G') (j := j) (by rw [← HNL.out]; exact hjl)
                    have hle := Sn.nums_le (Cs.sAny T' ((Cs.chS T' k G').take j)) 1024
                    generalize (Cs.chS T' k G').getD j 0 = p at *
                    have hle2 := Sn.nums_le (T' p).st 1024
                    have HST := Sn.hid hst
                    have HCH := Sn.hid hch
                    have hd1' : w22.cell? ⟨gk, ok2 + j * 2 + 1, none⟩ = some (.int .u64 ((T' p).gen : Nat)) := hd1
                    clear hst hch hd1
                    have HKw := Sn.hid (HK21.out.trans HB.out)
                    go_wp2_with fail
                    refine (Cs.Set_c bt m' Z T' f p (T' p).gen w22 (HF.out.keep0 HKw.out)).mono ?_
                    rintro e w23 ⟨A23, n23, c23, rfl, hs23, -, k23⟩
                    rw [Cs.setS_yes HCH.out] at hs23
                    obtain ⟨q23, hq23⟩ : ∃ q, q = w23.heap.size := ⟨_, rfl⟩
                    have hb23 := new_range w23 [.slice A23 n23 c23] 31
                    change (w23.alloc (.cells #[.slice A23 n23 c23] 31)).rangeAt _ _ _ at hb23
                    rw [← hq23] at hb23
                    have HB23 := Sn.hid (range_cells hb23 0 _ rfl)
                    have HS23 := Sn.hid (hs23.keep0 ((But.refl [] w23).alloc (.cells #[.slice A23 n23 c23] 31)))
                    have HK23 : Hid (But [] w22 (w23.alloc (.cells #[.slice A23 n23 c23] 31))) := k23.alloc _
                    clear k23 hs23 hd0 hd1' hb23
                    go_upto_region 30 with fail
                    rw [← hq23]
                    clear hq23
                    generalize w23.alloc (.cells #[.slice A23 n23 c23] 31) = w24 at *
                    have hb23 := HB23.out
                    go_wp2_with fail
                    refine (Sn.len_c A23 n23 c23 _ _ w24 HS23.out).mono ?_
                    rintro e w25 ⟨rfl, k25⟩
                    have HK25 := Sn.hid (HB.out.trans (HK23.out.trans k25))
                    generalize (Sn.nums (T' p).st 1024).length = v at *
                    generalize (Sn.nums (Cs.sAny T' ((Cs.chS T' k G').take j)) 1024).length = u at *
                    clear k25 hb23
                    go_wp2
                    go_roundg (nk + 1 - (j + 1))
                    case measure => omega
                    case rel => exact ⟨j + 1, by omega, by omega, by rw [HST.out]; go_num, by go_num, HK25.out⟩
                  · obtain rfl : j = nk := by omega
                    have HKw := Sn.hid (HK21.out.trans HB.out)
                    obtain ⟨hc0, hc1⟩ := HCS.out w22 HKw.out
                    rw [List.take_of_length_le (by rw [← HNL.out]; exact Nat.le_refl _)]
                    go_wp2_with fail
                    refine (Cs.Lent_c bt m' Z T' f k G' w22 (HF.out.keep0 HKw.out) HWF.out.lim).mono ?_
                    rintro e w23 ⟨A23, n23, c23, rfl, hs23, k23⟩
                    rw [Cs.chs_lent] at hs23
                    have HS23 := Sn.hid hs23
                    have HK23 := Sn.hid (HKw.out.trans k23)
                    clear hs23 k23 hc0 hc1
                    go_wp2_with fail
                    refine (Sn.len_c A23 n23 c23 _ _ w23 HS23.out).mono ?_
                    rintro e w24 ⟨rfl, k24⟩
                    have HK24 := Sn.hid (HK23.out.trans k24)
                    generalize (Sn.nums (Cs.sAny T' (Cs.chS T' k G')) 1024).length = u at *
                    clear k24
                    go_wp2
                    go_roundg (65 - (k + 1))
                    case measure => omega
                    case rel => exact ⟨k + 1, n1', c1', A1', l1', by omega, by omega, hn1, rfl, by go_num, HS1.out.keep HK24.out, HQ1.out.keep0 HK24.out, fun g hg => ⟨(HWG1.out g hg).1, Nat.lt_of_lt_of_le (HWG1.out g hg).2 HK24.out.size⟩⟩
              · obtain rfl : k = 64 := by omega
                obtain ⟨Z, f, hf⟩ := HS.out.tr
                have HF := Sn.hid hf
                clear hf HQ HWG HGM
                go_wp2
                go_loopg [24] (n + 1) (fun g4 jv wy => ∃ j : Nat, j + g4 = n + 1 ∧ j ≤ n ∧ jv = .int .i64 j ∧ Hid (But [] w8 wy))
                case atStart => exact ⟨0, by omega, by omega, rfl, But.refl _ _⟩
                case round =>
                  obtain ⟨j, hjg, hj, rfl, HB⟩ := hrel
                  rename World => w9
                  by_cases hjl : j < n
                  · have hjI : (j : Int) < (n : Int) := by omega
                    obtain ⟨gg, og, ⟨p1, p2⟩, rfl, hp, hd0, hd1⟩ := Cs.gone_at (HS.out.q.keep0 HB.out) hjl
                    have hno := HS.out.no hp
                    have HNO := Sn.hid hno
                    have hd1' : w9.cell? ⟨gg, og + j * 2 + 1, none⟩ = some (.int .u64 (p2 : Nat)) := hd1
                    have hd0' : w9.cell? ⟨gg, og + j * 2, none⟩ = some (.int .i64 (p1 : Nat)) := hd0
                    clear hno hd1 hd0 hp
                    go_wp2_with fail
                    refine (Cs.Set_c bt m' Z T' f p1 p2 w9 (HF.out.keep0 HB.out)).mono ?_
                    rintro e w10 ⟨A10, n10, c10, rfl, -, -, k10⟩
                    rw [HNO.out]
                    have HK11 : Hid (But [] w8 (w10.alloc (.cells #[.slice A10 n10 c10] 31))) := HB.out.trans (k10.alloc _)
                    clear k10 hd0' hd1'
                    go_upto_region 37 with fail
                    generalize w10.alloc (.cells #[.slice A10 n10 c10] 31) = w11 at *
                    go_wp2
                    go_roundg (n + 1 - (j + 1))
                    case measure => omega
                    case rel => exact ⟨j + 1, by omega, by omega, by go_num, HK11.out⟩
                  · obtain rfl : j = n := by omega
                    go_wp2
                    go_roundg (30 - (i + 1))
                    case measure => omega
                    case rel => exact ⟨i + 1, j, c, T', m', A, l, by omega, by omega, by omega, rfl, by go_num, HS.out.keep HB.out⟩
      · obtain rfl : i = 30 := by omega
        go_wp2_with fail
        refine (Cs.awake_c _).mono ?_
        rintro e w8 ⟨rfl, k8⟩
        have hE8 := Sn.hid (HS.out.but.trans k8)
        clear k8
        go_wp2
        go_ret
        exact ⟨rfl, hE8.out.below (Nat.le_refl _) (by simp)⟩
    · obtain rfl : i = len0 := by omega
      go_wp2_with fail
      refine (Cs.awake_c _).mono ?_
      rintro e w8 ⟨rfl, k8⟩
      have hE8 := Sn.hid (HS.out.but.trans k8)
      clear k8
      go_wp2
      go_ret
      exact ⟨rfl, hE8.out.below (Nat.le_refl _) (by simp)⟩

set_option maxRecDepth 100000 in
theorem lifted (os : Os) (started : os.Started) (H : Type) (enc : TypeId × Value → H) :
    ReturnsInHanded {} Try.checked os 4 .any (Rows.capsWithinSpec.pre6 enc Try.prog Try.f4 Rows.capsWithinRow.domain false) (Rows.capsWithinSpec.post enc Try.prog Try.f4 false true false false) := by
  refine returnsInHanded_of_change (C := Try.checked) own started (by kernel_rfl) Try.func4
    (ChangeSpec.witness6 (enc := enc) (C := Try.checked) false ⟨#[], #[.slice none 0 0], []⟩ 8 (by kernel_rfl) (by kernel_rfl) (by kernel_rfl) (by kernel_rfl)) ?_
  intro W base args ds gs before hval0 hW hcnd _
  have hval : ∀ (j : Nat) t v, Try.f4.params[j]? = some t → args[j]? = some v → Value.okWide Try.prog W .any base t v := hval0
  have hW' := hW
  obtain ⟨p, q, hA0, hV, rfl, hfz, hnd⟩ := hW
  have hA : DataW.TrodAll enc Try.prog W 0 (fun _ => true) true Try.f4.params.toList args.toList ds p := hA0
  rw [Try.params4] at hA hval
  obtain ⟨v0, vs0, d0, ds0, p0, q0, hargs, rfl, rfl, h0, t0⟩ := trodAll_cons hA
  obtain ⟨rfl, rfl, rfl⟩ := trodAll_nil t0
  obtain rfl : args = #[v0] := by cases args; simp_all
  obtain ⟨rfl, rfl⟩ := trodVars_none hV
  have k0 := h0
  have lt0 : ∀ x ∈ p0, x.block < W.heap.size := by obtain ⟨m, hm⟩ := k0; exact DataW.trod_lt m _ _ _ hm
  obtain ⟨A0, len0, cap0, rfl⟩ := okWide_slice Try.underlying22 (hval 0 22 v0 rfl rfl)
  have r0 := rowOf_open Try.underlying22 flatDeed (by decide) h0
  clear hA0 hval0
  refine (walk W A0 len0 cap0 r0).mono fun e W' ⟨he, hg⟩ => ?_
  subst he
  exact ⟨_, rfl, _, _, _, [], _, [], hW', (trodAll_cons_mk (shut_bool Try.underlying4 _) trodAll_mk0), (trodAll_cons_mk (Below.trod laidOut (by kernel_rfl) (of_decide_eq_true (by kernel_rfl)) k0 hg lt0) trodAll_mk0), rfl, hg.frame _, (fun h => by cases h)⟩

theorem over : Rows.capsWithinRow.holds Try.pinned (OpenSpec.ofChange Rows.capsWithinSpec) :=
  OpenClaim.holds_of_wide 4 Try.f4 rfl rfl rfl rfl rfl rfl rfl ⟨rfl, rfl, rfl, rfl, rfl⟩ rfl rfl rfl rfl rfl (by kernel_rfl) Try.func4 (by kernel_rfl)
    (of_decide_eq_true (by kernel_rfl)) (by unfold Func.isWrapper; first | (rw [if_pos (by decide +kernel)]; kernel_rfl) | (rw [if_neg (by decide +kernel)]; exact ⟨rfl, rfl⟩))
    (fun os started H enc _ => lifted os started H enc)
end Go.Proofs.Ytlppfcoclpdanaa.capsWithin
namespace Go.Proofs.Ytlppfcoclpdanaa
/-- The statement, by its short name. -/
theorem capsWithin_holds : Rows.CapsWithinSaid := capsWithin.over
#print axioms capsWithin_holds
end Go.Proofs.Ytlppfcoclpdanaa
