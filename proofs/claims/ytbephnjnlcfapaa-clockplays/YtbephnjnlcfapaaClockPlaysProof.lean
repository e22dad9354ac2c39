/-
  Whatever the input, the Go function ClockPlays answers true, and its arguments read behind the call as they read before. No condition.
-/
import Derived.Test.YtbephnjnlcfapaaRows
import Derived.Test.YtbephnjnlcfapaaClLaw
import Derived.WalkKit
import Derived.Deep.LoopGhost
import Derived.Deep.CutBlock
import Derived.Deep.CutRange
import Derived.Deep.RegionHeld3
import Derived.ProofKit
import Derived.OpenShut
import Derived.ShutString
import Derived.ChangeOld
import Derived.Below
import Derived.Carry
namespace Go.Proofs.Ytbephnjnlcfapaa.clockPlays
open Go.ChangeShapes Go.WideShapes Go.ChangeAt Go.RowKit
open Go.ChangeMaps (open_string shut_string)
set_option linter.unusedVariables false

theorem own : ownKnob Try.prog.godebug = none := by kernel_rfl
theorem laidOut : laidOutB Try.prog = true := by kernel_rfl

set_option maxHeartbeats 4000000 in
set_option maxRecDepth 100000 in
theorem walk (w : World) (A0 : Option Addr) (len0 cap0 : Nat) (r0 : RowOf ks_flatDeed w A0 len0 cap0) :
    Calls Try.prog 3 #[.slice A0 len0 cap0] w fun e w' => e = .returned (.bool true) ∧ Below w.heap.size w w' := by
  obtain ⟨hlc, hcm, hrow⟩ := r0
  have HR : Hid (len0 = 0 ∨ ∃ b off, A0 = some ⟨b, off, none⟩ ∧ b < w.heap.size ∧ ∀ i, i < len0 → ∃ vs, w.rangeAt b (off + i * 4) vs ∧ Fits ks_flatDeed vs) := hrow
  unfold maxLen at hcm
  clear hrow
  have hz1 := Cl.zmt_zero
  have hz2 := Cl.zst_zero
  obtain ⟨g, hg⟩ : ∃ g, g = w.heap.size := ⟨_, rfl⟩
  obtain ⟨bm, hbm⟩ : ∃ bm, bm = g + 1 := ⟨_, rfl⟩
  obtain ⟨ba, hba⟩ : ∃ ba, ba = bm + 1 := ⟨_, rfl⟩
  obtain ⟨bx, hbx⟩ : ∃ bx, bx = ba + 1 := ⟨_, rfl⟩
  have H0 : Hid (Cl.St w g bm ba bx 0 (fun _ => 0) 0 false 0 (fun _ => 0) 0 false ((((w.alloc (.cells #[.int .u64 0] 31)).alloc (.cells Cl.zmt 37)).alloc (.cells #[.pointer none] 45)).alloc (.cells Cl.zst 49))) := by
    show Cl.St _ _ _ _ _ _ _ _ _ _ _ _ _ _
    rw [hbx, hba, hbm, hg]
    exact Cl.st_first w
  rw [← hg] at HR ⊢
  go_enter Try.func3, Try.ntmps3
  go_wp2
  rw [← hg, ← hbm, ← hba, ← hbx]
  generalize (((w.alloc (.cells #[.int .u64 0] 31)).alloc (.cells Cl.zmt 37)).alloc (.cells #[.pointer none] 45)).alloc (.cells Cl.zst 49) = w0 at H0 ⊢
  clear hg hbm hba hbx hz1 hz2
  go_loopg [7] 100 (fun g0 iv wx => ∃ (i : Nat) (n : Int) (m : Nat → Int) (x : Int) (t : Bool), i + g0 = 100 ∧ i ≤ len0 ∧ iv = .int .i64 i ∧ Hid (Cl.St w g bm ba bx n m x t n m x t wx))
  case atStart => exact ⟨0, 0, _, 0, false, by omega, Nat.zero_le _, rfl, H0⟩
  case round =>
    obtain ⟨i, n, m, x, t, hig, hil, rfl, HS⟩ := hrel
    clear H0
    by_cases hlt : i < len0
    · by_cases h100 : i < 100
      · obtain ⟨b, off, rfl, hbl, hall⟩ : ∃ b off, A0 = some ⟨b, off, none⟩ ∧ b < g ∧ ∀ i, i < len0 → ∃ vs, w.rangeAt b (off + i * 4) vs ∧ Fits ks_flatDeed vs := by
          rcases HR.out with h | h
          · omega
          · exact h
        obtain ⟨vs, hr, hfit⟩ := hall i hlt
        obtain ⟨K, E, N, T, rfl⟩ := deed_of hfit
        have HRE : Hid (wr.rangeAt b (off + i * 4) [.int .i64 K, .int .i64 E, .int .i64 N, .int .u64 T]) := fun j v hv => below_cell HS.out.bel hbl (hr j v hv)
        clear hall hr hfit
        have hilt : (i : Int) < (len0 : Int) := by omega
        obtain ⟨q, hq⟩ : ∃ q, q = wr.heap.size := ⟨_, rfl⟩
        have H1 : Hid (Cl.Sq w g bm ba bx q K E N T n m x t n m x t (wr.alloc (.cells #[.int .i64 K, .int .i64 E, .int .i64 N, .int .u64 T] 51))) := by
          show Cl.Sq _ _ _ _ _ _ _ _ _ _ _ _ _ _ _ _ _ _ _
          rw [hq]
          exact Cl.sq_new HS.out
        go_upto_region 7 with (first
          | (refine wpList_load_mid rfl 51 _ rfl b (off + i * 4) rfl [.int .i64 K, .int .i64 E, .int .i64 N, .int .u64 T] _ HRE.out Try.underlying51 rfl infoDeed ?_))
        rw [← hq]
        generalize wr.alloc (.cells #[.int .i64 K, .int .i64 E, .int .i64 N, .int .u64 T] 51) = w1 at H1 ⊢
        clear hq HS HRE
        have hck := H1.out.box.k
        go_upto_block 2 with fail
        clear hck
        go_cut [7] from 19 to 168 (fun s7 wx => s7 = .int .i64 i ∧ ∃ (n : Int) (m : Nat → Int) (x : Int) (t : Bool), Hid (Cl.Sq w g bm ba bx q K E N T n m x t n m x t wx))
        case first =>
          have H1d : Hid (Cl.Sq w g bm ba bx q K E N T n m x t n m x t w1.drew) := H1.out.drew
          by_cases hK : K = 0
          · subst hK
            go_wp2
            obtain ⟨s, hs⟩ : ∃ s, IntKind.u64.wrap (n + T) = s := ⟨_, rfl⟩
            have HW : Hid (IntKind.u64.wrap (n + T) = s) := hs
            obtain ⟨hc1, hz1⟩ := H1d.out.st.ref.now
            have hc2 := H1d.out.box.t
            refine wp_region_still_tail 10 (by kernel_rfl) (by kernel_rfl) ?_
            simp only [List.take_succ_cons, List.take_zero, List.drop_succ_cons, List.drop_zero]
            change wpStill _ _ w1.drew _ _ _
            repeat still_step
            refine wpStill_nil ?_
            change wpList _ _ _ _ _ w1.drew
            have H2 : Hid (Cl.Sq w g bm ba bx q 0 E N T n m x t s m x t (w1.setCell ⟨bx, 0, none⟩ (.int .u64 s)).drew) := (H1.out.putNow s).drew
            go_wp2
            clear hc1 hz1 hc2 hs
            generalize (w1.setCell ⟨bx, 0, none⟩ (.int .u64 s)).drew = w2 at H2 ⊢
            have H2d : Hid (Cl.Sq w g bm ba bx q 0 E N T n m x t s m x t w2.drew) := H2.out.drew
            go_region_held3 (fun w' => w'.cell? ⟨q, 3, none⟩ = some (.int .u64 T) ∧ w'.cell? ⟨bx, 0, none⟩ = some (.int .u64 s))
              (first | assumption | exact Cl.s10 (by assumption))
              (first
                | (go_at_call 6; refine (Cl.go_s T s H2d.out HW.out).mono ?_; rintro e w3 ⟨rfl, H3⟩))
            go_wp2
            go_meet
            exact ⟨rfl, s, m, x, t, H3⟩
          · have hK0 : ¬ K = 0 := hK
            clear hK
            by_cases hK : K = 1
            · subst hK
              by_cases hmay : Cl.mayS E N
              · obtain ⟨⟨he0, he1⟩, hn0, hn1⟩ := hmay
                obtain ⟨k, rfl⟩ : ∃ k : Nat, E = k := ⟨E.toNat, by omega⟩
                have hk : k < 16 := by omega
                obtain ⟨s, hs⟩ : ∃ s, IntKind.i64.wrap (m k + N) = s := ⟨_, rfl⟩
                have HW : Hid (IntKind.i64.wrap (m k + N) = s) := hs
                clear hs he0 he1
                go_wp2
                go_region_held3 (fun w' => w'.cell? ⟨q, 1, none⟩ = some (.int .i64 k) ∧ w'.cell? ⟨q, 2, none⟩ = some (.int .i64 N))
                  (first | assumption | exact Cl.s13 (by assumption))
                  (first
                    | (go_at_call 7; refine (Cl.spend_s k N s H1d.out hk hn0 hn1 HW.out).mono ?_; rintro e w3 ⟨rfl, H3⟩)
                    | (go_at_call 8; refine (Cl.rspend_s k N s H3.out hk hn0 hn1 HW.out).mono ?_; rintro e w4 ⟨rfl, H4⟩))
                go_wp2
                go_meet
                exact ⟨rfl, n, _, x, t, H4⟩
              · have HN : Hid (¬ Cl.mayS E N) := hmay
                clear hmay
                go_wp2
                go_region_held3 (fun w' => w'.cell? ⟨q, 1, none⟩ = some (.int .i64 E) ∧ w'.cell? ⟨q, 2, none⟩ = some (.int .i64 N))
                  (first | assumption | exact Cl.s13 (by assumption))
                  (first
                    | (go_at_call 7; refine (Cl.spend_ns E N H1d.out HN.out).mono ?_; rintro e w3 ⟨rfl, H3⟩)
                    | (go_at_call 8; refine (Cl.rspend_ns E N H3.out HN.out).mono ?_; rintro e w4 ⟨rfl, H4⟩))
                go_wp2
                go_meet
                exact ⟨rfl, n, m, x, t, H4⟩
            · have hK1 : ¬ K = 1 := hK
              clear hK
              by_cases hK : K = 2
              · subst hK
                by_cases hin : 0 ≤ E ∧ E < 16
                · obtain ⟨he0, he1⟩ := hin
                  obtain ⟨k, rfl⟩ : ∃ k : Nat, E = k := ⟨E.toNat, by omega⟩
                  have hk : k < 16 := by omega
                  obtain ⟨v, hv⟩ : ∃ v, Cl.spentP m k = v := ⟨_, rfl⟩
                  have HV : Hid (Cl.spentP m k = v) := hv
                  clear hv he0
                  go_wp2
                  go_region_held3 (fun w' => w'.cell? ⟨q, 1, none⟩ = some (.int .i64 k))
                    (first | assumption | exact Cl.s16 (by assumption))
                    (first
                      | (go_at_call 9; refine (Cl.clear_s k H1d.out hk v HV.out).mono ?_; rintro e w3 ⟨rfl, H3⟩)
                      | (go_at_call 10; refine (Cl.rof_s k H3.out v HV.out).mono ?_; rintro e w4 ⟨rfl, H4⟩))
                  have hc := H4.out.box.e
                  go_wp2
                  clear hc
                  obtain ⟨hc1, hz1⟩ := H4.out.drew.st.ref.of k hk
                  have hc2 := H4.out.drew.box.e
                  refine wp_region_still_tail 6 (by kernel_rfl) (by kernel_rfl) ?_
                  simp only [List.take_succ_cons, List.take_zero, List.drop_succ_cons, List.drop_zero]
                  change wpStill _ _ w4.drew _ _ _
                  repeat still_step
                  refine wpStill_nil ?_
                  change wpList _ _ _ _ _ w4.drew
                  have H5 : Hid (Cl.Sq w g bm ba bx q 2 k N T n (Cl.upd m k 0) x t n (Cl.upd m k 0) x t (w4.setCell ⟨bx, 1 + k, none⟩ (.int .i64 0)).drew) := (H4.out.putOf k hk 0).drew
                  go_wp2
                  go_meet
                  exact ⟨rfl, n, _, x, t, H5⟩
                · obtain ⟨v, hv⟩ : ∃ v, Cl.spentP m E = v := ⟨_, rfl⟩
                  have HV : Hid (Cl.spentP m E = v) := hv
                  have HN : Hid (E < 0 ∨ 16 ≤ E) := by show _ ∨ _; omega
                  clear hv hin
                  go_wp2
                  go_region_held3 (fun w' => w'.cell? ⟨q, 1, none⟩ = some (.int .i64 E))
                    (first | assumption | exact Cl.s16 (by assumption))
                    (first
                      | (go_at_call 9; refine (Cl.clear_ns E H1d.out HN.out v HV.out).mono ?_; rintro e w3 ⟨rfl, H3⟩)
                      | (go_at_call 10; refine (Cl.rof_s E H3.out v HV.out).mono ?_; rintro e w4 ⟨rfl, H4⟩))
                  have hc := H4.out.box.e
                  rcases HN.out with h0 | h1
                  · have d0 : decide (0 ≤ E) = false := decide_eq_false (by omega)
                    go_wp2
                    go_meet
                    exact ⟨rfl, n, m, x, t, H4⟩
                  · have d0 : 0 ≤ E := by omega
                    have d1 : decide (E < 16) = false := decide_eq_false (by omega)
                    go_wp2
                    go_meet
                    exact ⟨rfl, n, m, x, t, H4⟩
              · have hK2 : ¬ K = 2 := hK
                clear hK
                by_cases hK : K = 3
                · subst hK
                  have hc := H1.out.box.t
                  go_wp2_with fail
                  refine (Cl.set_s T H1.out).mono ?_
                  rintro e w2 ⟨rfl, H2⟩
                  clear hc
                  have hc := H2.out.box.t
                  obtain ⟨hc1, hz1⟩ := H2.out.st.ref.at_
                  have H3 : Hid (Cl.Sq w g bm ba bx q 3 E N T n m T true n m T t (w2.setCell ⟨bx, 17, none⟩ (.int .u64 T))) := H2.out.putAt T
                  go_upto_region 23 with fail
                  clear hc hc1 hz1
                  generalize w2.setCell ⟨bx, 17, none⟩ (.int .u64 T) = w3 at H3 ⊢
                  obtain ⟨hc1, hz1⟩ := H3.out.st.ref.is
                  have H4 : Hid (Cl.Sq w g bm ba bx q 3 E N T n m T true n m T true (w3.setCell ⟨bx, 18, none⟩ (.bool true))) := H3.out.putIs true
                  go_wp2
                  go_meet
                  exact ⟨rfl, n, m, T, true, H4⟩
                · have hK3 : ¬ K = 3 := hK
                  clear hK
                  by_cases hK : K = 4
                  · subst hK
                    go_wp2
                    go_region_held3 (fun w' => w'.cell? ⟨bx, 18, none⟩ = some (.bool t))
                      (first | assumption | exact Cl.s25 (by assumption))
                      (first
                        | (go_at_call 12; refine (Cl.off_s H1d.out).mono ?_; rintro e w3 ⟨rfl, H3⟩))
                    obtain ⟨hc1, hz1⟩ := H3.out.st.ref.is
                    have H4 : Hid (Cl.Sq w g bm ba bx q 4 E N T n m x false n m x false (w3.setCell ⟨bx, 18, none⟩ (.bool false))) := H3.out.putIs false
                    go_wp2
                    go_meet
                    exact ⟨rfl, n, m, x, false, H4⟩
                  · have hK4 : ¬ K = 4 := hK
                    clear hK
                    by_cases hK : K = 5
                    · subst hK
                      obtain ⟨r, hr⟩ : ∃ r, (t && decide (x ≤ T)) = r := ⟨_, rfl⟩
                      obtain ⟨d, hd⟩ : ∃ d, (t && !decide (x ≤ T)) = d := ⟨_, rfl⟩
                      have HRR : Hid ((t && decide (x ≤ T)) = r) := hr
                      have HDD : Hid ((t && !decide (x ≤ T)) = d) := hd
                      clear hr hd
                      go_wp2
                      go_region_held3 (fun w' => w'.cell? ⟨q, 3, none⟩ = some (.int .u64 T))
                        (first | assumption | exact Cl.s29 (by assumption))
                        (first
                          | (go_at_call 13; refine (Cl.due_s T H1d.out r d HRR.out HDD.out).mono ?_; rintro e w3 ⟨rfl, H3⟩)
                          | (go_at_call 14; refine (Cl.rdue_s T H3.out r d HRR.out HDD.out).mono ?_; rintro e w4 ⟨rfl, H4⟩))
                      go_wp2
                      go_meet
                      exact ⟨rfl, n, m, x, d, H4⟩
                    · have hK5 : ¬ K = 5 := hK
                      clear hK
                      go_wp2
                      go_meet
                      exact ⟨rfl, n, m, x, t, H1⟩
        case rest =>
          obtain ⟨rfl, n, m, x, t, H2⟩ := hcut
          clear H1
          go_wp2
          go_loopg [9, 10] 16 (fun g2 sv ev wy => ∃ (k : Nat) (s : Int), k + g2 = 16 ∧ ev = .int .i64 k ∧ sv = .int .i64 s ∧ Hid (s = Cl.sumW m k) ∧ wc = wy)
          case atStart => exact ⟨0, 0, rfl, rfl, rfl, rfl, rfl⟩
          case round =>
            obtain ⟨k, s, hkg, rfl, rfl, HS, rfl⟩ := hrel
            by_cases hk : k < 16
            · have hki : (k : Int) < 16 := by omega
              obtain ⟨v, hv⟩ : ∃ v, v = m k := ⟨_, rfl⟩
              have hc : wc.cell? ⟨bx, 1 + k, none⟩ = some (.int .i64 v) := by rw [hv]; exact (H2.out.st.ref.of k hk).1
              obtain ⟨s', hs'⟩ : ∃ s', s' = Cl.sumW m (k + 1) := ⟨_, rfl⟩
              have hw : IntKind.i64.wrap (s + v) = s' := by
                rw [hs', hv, HS.out]
                rfl
              have HS' : Hid (s' = Cl.sumW m (k + 1)) := hs'
              clear hv hs'
              go_wp2
              go_roundg (16 - (k + 1))
              case measure => omega
              case rel => exact ⟨k + 1, s', by omega, by go_num, rfl, HS', rfl⟩
            · obtain rfl : k = 16 := by omega
              have HSU : Hid (Cl.sumW m 16 = s) := HS.out.symm
              have H2d : Hid (Cl.Sq w g bm ba bx q K E N T n m x t n m x t wc.drew) := H2.out.drew
              obtain ⟨v, hv⟩ : ∃ v, Cl.spentP m E = v := ⟨_, rfl⟩
              have HV : Hid (Cl.spentP m E = v) := hv
              clear hv HS
              go_wp2
              go_region_held3 (fun w' => w'.cell? ⟨q, 1, none⟩ = some (.int .i64 E) ∧ w'.cell? ⟨bx, 0, none⟩ = some (.int .u64 n))
                (first | assumption | exact Cl.s36 (by assumption))
                (first
                  | (go_at_call 15; refine (Cl.now_s H2d.out).mono ?_; rintro e w3 ⟨rfl, H3⟩)
                  | (go_at_call 16; refine (Cl.spent_s E H3.out v HV.out).mono ?_; rintro e w4 ⟨rfl, H4⟩)
                  | (go_at_call 10; refine (Cl.rof_s E H4.out v HV.out).mono ?_; rintro e w5 ⟨rfl, H5⟩)
                  | (go_at_call 17; refine (Cl.all_s H5.out s HSU.out).mono ?_; rintro e w6 ⟨rfl, H6⟩))
              have H7 : Hid (Cl.St w g bm ba bx n m x t n m x t w6) := H6.out.st
              go_wp2
              go_roundg (100 - (i + 1))
              case measure => omega
              case rel => exact ⟨i + 1, n, m, x, t, by omega, by omega, by go_num, H7⟩
      · obtain rfl : i = 100 := by omega
        go_wp2_with fail
        refine (Cl.awake_c _).mono ?_
        rintro e w8 ⟨rfl, k8⟩
        have hE8 : Hid (Below g w w8) := below_but HS.out.bel k8 (by simp) (by have := HS.out.clk.lt; omega)
        clear k8
        go_wp2
        go_ret
        exact ⟨rfl, hE8.out⟩
    · obtain rfl : i = len0 := by omega
      go_wp2_with fail
      refine (Cl.awake_c _).mono ?_
      rintro e w8 ⟨rfl, k8⟩
      have hE8 : Hid (Below g w w8) := below_but HS.out.bel k8 (by simp) (by have := HS.out.clk.lt; omega)
      clear k8
      go_wp2
      go_ret
      exact ⟨rfl, hE8.out⟩

set_option maxRecDepth 100000 in
theorem lifted (os : Os) (started : os.Started) (H : Type) (enc : TypeId × Value → H) :
    ReturnsInHanded {} Try.checked os 3 .any (Rows.clockPlaysSpec.pre6 enc Try.prog Try.f3 Rows.clockPlaysRow.domain false) (Rows.clockPlaysSpec.post enc Try.prog Try.f3 false true false false) := by
  refine returnsInHanded_of_change (C := Try.checked) own started (by kernel_rfl) Try.func3
    (ChangeSpec.witness6 (enc := enc) (C := Try.checked) false ⟨#[], #[.slice none 0 0], []⟩ 8 (by kernel_rfl) (by kernel_rfl) (by kernel_rfl) (by kernel_rfl)) ?_
  intro W base args ds gs before hval0 hW hcnd _
  have hval : ∀ (j : Nat) t v, Try.f3.params[j]? = some t → args[j]? = some v → Value.okWide Try.prog W .any base t v := hval0
  have hW' := hW
  obtain ⟨p, q, hA0, hV, rfl, hfz, hnd⟩ := hW
  have hA : DataW.TrodAll enc Try.prog W 0 (fun _ => true) true Try.f3.params.toList args.toList ds p := hA0
  rw [Try.params3] at hA hval
  obtain ⟨v0, vs0, d0, ds0, p0, q0, hargs, rfl, rfl, h0, t0⟩ := trodAll_cons hA
  obtain ⟨rfl, rfl, rfl⟩ := trodAll_nil t0
  obtain rfl : args = #[v0] := by cases args; simp_all
  obtain ⟨rfl, rfl⟩ := trodVars_none hV
  have k0 := h0
  have lt0 : ∀ x ∈ p0, x.block < W.heap.size := by obtain ⟨m, hm⟩ := k0; exact DataW.trod_lt m _ _ _ hm
  obtain ⟨A0, len0, cap0, rfl⟩ := okWide_slice Try.underlying22 (hval 0 22 v0 rfl rfl)
  have r0 := rowOf_open Try.underlying22 flatDeed (by decide) h0
  clear hA0 hval0
  refine (walk W A0 len0 cap0 r0).mono fun e W' ⟨he, hg⟩ => ?_
  subst he
  exact ⟨_, rfl, _, _, _, [], _, [], hW', (trodAll_cons_mk (shut_bool Try.underlying4 _) trodAll_mk0), (trodAll_cons_mk (Below.trod laidOut (by kernel_rfl) (of_decide_eq_true (by kernel_rfl)) k0 hg lt0) trodAll_mk0), rfl, hg.frame _, (fun h => by cases h)⟩

theorem over : Rows.clockPlaysRow.holds Try.pinned (OpenSpec.ofChange Rows.clockPlaysSpec) :=
  OpenClaim.holds_of_wide 3 Try.f3 rfl rfl rfl rfl rfl rfl rfl ⟨rfl, rfl, rfl, rfl, rfl⟩ rfl rfl rfl rfl rfl (by kernel_rfl) Try.func3 (by kernel_rfl)
    (of_decide_eq_true (by kernel_rfl)) (by unfold Func.isWrapper; first | (rw [if_pos (by decide +kernel)]; kernel_rfl) | (rw [if_neg (by decide +kernel)]; exact ⟨rfl, rfl⟩))
    (fun os started H enc _ => lifted os started H enc)
end Go.Proofs.Ytbephnjnlcfapaa.clockPlays
namespace Go.Proofs.Ytbephnjnlcfapaa
/-- The statement, by its short name. -/
theorem clockPlays_holds : Rows.ClockPlaysSaid := clockPlays.over
#print axioms clockPlays_holds
end Go.Proofs.Ytbephnjnlcfapaa
