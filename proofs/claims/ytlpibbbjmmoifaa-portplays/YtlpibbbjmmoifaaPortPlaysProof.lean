/-
  Whatever the input, the Go function PortPlays answers true, and its arguments read behind the call as they read before. No condition.
-/
import Derived.Test.YtlpibbbjmmoifaaRows
import Derived.Test.YtlpibbbjmmoifaaPtPl
import Derived.WalkKit
import Derived.Deep.LoopGhost
import Derived.Deep.CutBlock
import Derived.Deep.CutRange
import Derived.ProofKit
import Derived.OpenShut
import Derived.ShutString
import Derived.ChangeOld
import Derived.Below
import Derived.Carry
namespace Go.Proofs.Ytlpibbbjmmoifaa.portPlays
open Go.ChangeShapes Go.WideShapes Go.ChangeAt Go.RowKit
open Go.ChangeMaps (open_string shut_string)
set_option linter.unusedVariables false

theorem own : ownKnob Try.prog.godebug = none := by kernel_rfl
theorem laidOut : laidOutB Try.prog = true := by kernel_rfl

set_option maxHeartbeats 4000000 in
set_option maxRecDepth 100000 in
theorem walk (w : World) (A0 : Option Addr) (len0 cap0 : Nat) (r0 : RowOf ks_flatDeed w A0 len0 cap0) :
    Calls Try.prog 3 #[.slice A0 len0 cap0] w fun e w' => e = .returned (.bool true) ∧ Below w.heap.size w w' := by
  obtain ⟨hlc, hcm, hrow⟩ := r0
  have HR : Hid (len0 = 0 ∨ ∃ b off, A0 = some ⟨b, off, none⟩ ∧ b < w.heap.size ∧ ∀ i, i < len0 → ∃ vs, w.rangeAt b (off + i * 3) vs ∧ Fits ks_flatDeed vs) := hrow
  unfold maxLen at hcm
  clear hrow
  have hz := Pt.zport_zero
  obtain ⟨b, hb⟩ : ∃ b, b = w.heap.size := ⟨_, rfl⟩
  have H0 : Hid (Pt.P0 w b 0 [] (.slice none 0 0) (w.alloc (.cells Pt.zport 27))) := by
    show Pt.P0 _ _ _ _ _ _
    rw [hb]
    exact ⟨Pt.port_new w, Que.nil _ _ _, ((But.refl [] w).alloc _).below (Nat.le_refl _) (by simp)⟩
  rw [← hb] at HR ⊢
  go_enter Try.func3, Try.ntmps3
  go_wp2
  rw [← hb]
  generalize w.alloc (.cells Pt.zport 27) = w0 at H0 ⊢
  clear hb hz
  go_loopg [4, 5] 100 (fun g0 xv iv wx => ∃ (i s ln c : Nat) (xs : List Int) (A : Option Addr), i + g0 = 100 ∧ i ≤ len0 ∧ ln ≤ 64 ∧ xv = .slice A ln c ∧ iv = .int .i64 i ∧ Hid (xs.length = ln) ∧ Hid (Pt.P0 w b s xs (.slice A ln c) wx))
  case atStart => exact ⟨0, 0, 0, 0, [], none, by omega, Nat.zero_le _, by omega, rfl, rfl, rfl, H0⟩
  case round =>
    obtain ⟨i, s, ln, c, xs, A, hig, hil, hln, rfl, rfl, HL, HS⟩ := hrel
    clear H0
    by_cases hlt : i < len0
    · by_cases h100 : i < 100
      · obtain ⟨bA, off, rfl, hbl, hall⟩ : ∃ bA off, A0 = some ⟨bA, off, none⟩ ∧ bA < b ∧ ∀ i, i < len0 → ∃ vs, w.rangeAt bA (off + i * 3) vs ∧ Fits ks_flatDeed vs := by
          rcases HR.out with h | h
          · omega
          · exact h
        obtain ⟨vs, hr, hfit⟩ := hall i hlt
        obtain ⟨K, N, W, rfl⟩ := deed_of hfit
        have HRE : Hid (wr.rangeAt bA (off + i * 3) [.int .i64 K, .int .i64 N, .int .u32 W]) := fun j v hv => Pt.below_cell HS.out.bel hbl (hr j v hv)
        clear hall hr hfit
        have hilt : (i : Int) < (len0 : Int) := by omega
        obtain ⟨q, hq⟩ : ∃ q, q = wr.heap.size := ⟨_, rfl⟩
        have H1 : Hid (Pt.PS w b q K N W s xs xs (.slice A ln c) (wr.alloc (.cells #[.int .i64 K, .int .i64 N, .int .u32 W] 30))) := by
          show Pt.PS _ _ _ _ _ _ _ _ _ _ _
          rw [hq]
          exact HS.out.new _
        go_upto_region 7 with (first
          | (refine wpList_load_mid rfl 30 _ rfl bA (off + i * 3) rfl [.int .i64 K, .int .i64 N, .int .u32 W] _ HRE.out Try.underlying30 rfl infoDeed ?_))
        rw [← hq]
        generalize wr.alloc (.cells #[.int .i64 K, .int .i64 N, .int .u32 W] 30) = w1 at H1 ⊢
        clear hq HS HRE
        have hck := H1.out.k
        go_upto_block 2 with fail
        clear hck
        go_cut [4, 7, 8, 9, 10, 11, 12] from 15 to 125 (fun s4 s7 s8 s9 s10 s11 s12 wx => ∃ (s ln c : Nat) (xs : List Int) (A : Option Addr), s4 = .slice A ln c ∧ ln ≤ 64 ∧ Hid (xs.length = ln) ∧ Hid (Pt.P0 w b s xs (.slice A ln c) wx))
        case first =>
          have hcw := H1.out.w
          by_cases hKs : K = 0 ∨ K = 1 ∨ K = 2
          · rcases hKs with rfl | rfl | rfl
            all_goals
              by_cases hx : ln < 64
              · have hxI : (ln : Int) < 64 := by omega
                go_wp2_with fail
                refine (Pt.send_s H1.out W (by rw [HL.out]; exact hx)).mono ?_
                rintro e w2 ⟨rfl, H2⟩
                have hcw2 := H2.w
                have HA2 : Hid (Pt.PS w b q _ N W s (xs ++ [W]) xs (.slice A ln c) w2) := H2
                clear H2 hcw
                obtain ⟨v', w3, hr, H3⟩ := (HA2.out.keep ((But.refl [] w2).alloc (.cells #[.int .u32 W] 24))).app (x := .slice (some ⟨w2.heap.size, 0, none⟩) 1 1) (ys := [W])
                  (Src.ofSlice _ Try.underlying28 ⟨w2.heap.size, 0, none⟩ 1 1 _ rfl (cell_one_new _ _ _) (one_int _ _)) (by rw [HL.out]; simp; omega)
                obtain ⟨A', c', rfl, hc'⟩ := H3.form
                have HR3 : Hid ((Builtin.append_ #[28, 28] 28 #[.slice A ln c, .slice (some ⟨w2.heap.size, 0, none⟩) 1 1]).run Try.prog (w2.alloc (.cells #[.int .u32 W] 24)) = .ok (.slice A' (xs ++ [W]).length c') w3) := hr
                have HA3 : Hid (Pt.P0 w b s (xs ++ [W]) (.slice A' (xs ++ [W]).length c') w3) := H3.p0
                have HL3 : Hid ((xs ++ [W]).length = ln + 1) := by show _ = _; rw [List.length_append, HL.out]; rfl
                rw [HL3.out] at HR3 HA3
                clear hr H3 hc'
                go_wp2_with (first | (at_builtin; refine wpList_append_known _ rfl _ _ 28 rfl _ _ rfl rfl HR3.out ?_))
                go_meet
                exact ⟨s, _, _, _, _, rfl, by omega, HL3.out, HA3.out⟩
              · have hxI : ¬ (ln : Int) < 64 := by omega
                have hxN : ¬ ln < 64 := hx
                go_wp2_with fail
                refine (Pt.send_ns H1.out W (by rw [HL.out]; omega)).mono ?_
                rintro e w2 ⟨rfl, H2⟩
                have HA2 : Hid (Pt.P0 w b s xs (.slice A ln c) w2) := H2.p0
                clear H2 hcw
                go_wp2
                go_meet
                exact ⟨s, _, _, _, _, rfl, by omega, HL.out, HA2.out⟩
          · have hK0 : ¬ K = 0 := fun h => hKs (.inl h)
            have hK1 : ¬ K = 1 := fun h => hKs (.inr (.inl h))
            have hK2 : ¬ K = 2 := fun h => hKs (.inr (.inr h))
            clear hKs
            by_cases hK : K = 3
            · subst hK
              cases xs with
              | nil =>
                obtain rfl : ln = 0 := HL.out.symm
                go_wp2_with fail
                refine (Pt.receive_ns H1.out).mono ?_
                rintro e w2 ⟨rfl, H2⟩
                have HA2 : Hid (Pt.P0 w b s [] (.slice A 0 c) w2) := H2.p0
                clear H2 hcw
                go_wp2
                go_meet
                exact ⟨s, 0, c, [], A, rfl, by omega, rfl, HA2.out⟩
              | cons x xs =>
                obtain ⟨ln, rfl⟩ : ∃ l, ln = l + 1 := ⟨xs.length, HL.out.symm⟩
                have HL2 : Hid (xs.length = ln) := by show _ = _; have := HL.out; simpa using this
                go_wp2_with fail
                refine (Pt.receive_s H1.out).mono ?_
                rintro e w2 ⟨rfl, H2⟩
                have HA2 : Hid (Pt.PS w b q 3 N W ((s + 1) % 64) xs (x :: xs) (.slice A (ln + 1) c) w2) := H2
                clear H2 hcw H1 HL
                obtain ⟨g, o, c', hv, _, _, _, hrow⟩ := HA2.out.que.row (by simp)
                injection hv with hv hv2 hv3
                clear hv2 hv3
                subst hv
                have hc0 : w2.cell? ⟨g, o, none⟩ = some (.int .u32 x) := by have := hrow 0 _ rfl; simpa using this
                obtain ⟨v', hr, H3⟩ := HA2.out.tail
                obtain ⟨A', c', rfl, _⟩ := H3.form
                rw [HL2.out] at hr H3
                have HR3 : Hid ((Instr.sliceAt 28 (.slice (some ⟨g, o, none⟩) (ln + 1) c) (some (.int .i64 1)) none none).run Try.prog w2 = .ok (.slice A' ln c') w2) := hr
                have HA3 : Hid (Pt.P0 w b ((s + 1) % 64) xs (.slice A' ln c') w2) := H3.p0
                clear hr H3 hrow HA2
                go_wp2_with (first | (refine wpList_slice_known _ rfl 28 _ _ _ _ rfl HR3.out ?_))
                go_meet
                exact ⟨_, _, _, _, _, rfl, by omega, HL2.out, HA3.out⟩
            · have hK3 : ¬ K = 3 := hK
              clear hK
              by_cases hK : K = 4
              · subst hK
                have hm31 := and31 N
                obtain ⟨M, hM⟩ : ∃ M : Nat, N % 32 = (M : Int) := ⟨(N % 32).toNat, by omega⟩
                have hM32 : M < 32 := by omega
                rw [hM] at hm31
                clear hM
                have hcn := H1.out.n
                go_wp2
                go_loopg [10, 11] (M + 1) (fun g1 sv kv wy => ∃ (k cS : Nat) (AS : Option Addr), k + g1 = M + 1 ∧ k ≤ M ∧ sv = .slice AS k cS ∧ kv = .int .i64 k ∧ Hid (Que wy w1.heap.size 1 (.slice AS k cS) k ((tab k (fun j => IntKind.u32.wrap (W + (j : Int)))).map (Value.int .u32))) ∧ Hid (But [] w1 wy))
                case atStart => exact ⟨0, 0, none, by omega, by omega, rfl, rfl, Que.nil _ _ _, But.refl _ _⟩
                case round =>
                  obtain ⟨k, cS, AS, hkg, hkM, rfl, rfl, HQ, HB⟩ := hrel
                  have hcw2 := cell_keep hcw HB.out (by simp)
                  have hcn2 := cell_keep hcn HB.out (by simp)
                  by_cases hk : k < M
                  · have hkI : (k : Int) < (M : Int) := by omega
                    obtain ⟨y, hy⟩ : ∃ y, IntKind.u32.wrap (W + (k : Int)) = y := ⟨_, rfl⟩
                    obtain ⟨A', c', w5, hr5, hq5, hk5⟩ := Pt.que_app1 HQ.out y HB.out.size (by omega)
                    have HR5 : Hid ((Builtin.append_ #[28, 28] 28 #[.slice AS k cS, .slice (some ⟨wr.heap.size, 0, none⟩) 1 1]).run Try.prog (wr.alloc (.cells #[.int .u32 y] 24)) = .ok (.slice A' (k + 1) c') w5) := hr5
                    have HB5 : Hid (But [] w1 w5) := Pt.but_own HB.out hk5 (fun i hi => (HQ.out.lt i hi).1)
                    have HQ5 : Hid (Que w5 w1.heap.size 1 (.slice A' (k + 1) c') (k + 1) ((tab (k + 1) (fun j => IntKind.u32.wrap (W + (j : Int)))).map (Value.int .u32))) := by
                      show Que _ _ _ _ _ _
                      rw [tab_snoc, List.map_append, List.map_singleton, hy]
                      exact hq5
                    clear hr5 hq5 hk5 HQ HB
                    go_wp2_with (first | (at_builtin; refine wpList_append_known _ rfl _ _ 28 rfl _ _ rfl rfl HR5.out ?_))
                    go_roundg (M + 1 - (k + 1))
                    case measure => omega
                    case rel => exact ⟨k + 1, c', A', by omega, by omega, rfl, by go_num, HQ5.out, HB5.out⟩
                  · obtain rfl : k = M := by omega
                    have hkI : ¬ (k : Int) < (k : Int) := by omega
                    have H4 : Hid (Pt.PS w b q 4 N W s xs xs (.slice A ln c) wr) := H1.out.keep HB.out
                    obtain ⟨ys, hys⟩ : ∃ ys, ys = tab k (fun j => IntKind.u32.wrap (W + (j : Int))) := ⟨_, rfl⟩
                    have HYL : Hid (ys.length = k) := by show _ = _; rw [hys, tab_len]
                    rw [← hys] at HQ
                    obtain ⟨m, hm⟩ : ∃ m, m = min k (64 - ln) := ⟨_, rfl⟩
                    have HM : Hid (min k (64 - xs.length) = m) := by show _ = _; rw [HL.out, hm]
                    obtain ⟨-, A6, c6, hv6, hr6⟩ := Pt.Que.rd HQ.out
                    injection hv6 with hv6 hv7 hv8
                    subst hv6
                    clear hv7 hv8
                    have hbl : b < w1.heap.size := H1.out.pt.lt
                    have HRD : Hid (Rd .u32 wr 0 wr.heap.size AS ys) := hr6.wider (Nat.zero_le _) (Nat.le_refl _)
                    have HNE : Hid (ys ≠ [] → ∀ g off, AS = some ⟨g, off, none⟩ → g ≠ b) := by
                      show ys ≠ [] → _
                      intro h g off e
                      rcases hr6 with h' | ⟨g', off', e', h1, h2, _⟩
                      · exact absurd h' h
                      · rw [e] at e'; injection e' with e'; injection e' with e1
                        omega
                    have hgg : ((64 : Int) - (ln : Int) > (k : Int)) ∧ m = k ∨ ¬ ((64 : Int) - (ln : Int) > (k : Int)) ∧ (m : Int) = 64 - (ln : Int) := by omega
                    have hmk : m ≤ k := by omega
                    have hml : ln + m ≤ 64 := by omega
                    clear hm hr6 hys H1 HB hcw hcn hcw2 hcn2
                    have hcn3 := H4.out.n
                    rcases hgg with ⟨hg, hme⟩ | ⟨hg, hme⟩
                    · obtain rfl := hme
                      have hg2 : (m : Int) < 64 - (ln : Int) := by omega
                      go_wp2_with fail
                      refine (Pt.sendAll_n b 0 s m m xs ys AS cS _ H4.out.pt HYL.out HM.out HRD.out HNE.out).mono ?_
                      rintro e w7 ⟨rfl, h7, k7⟩
                      have H7 : Hid (Pt.PS w b q 4 N W s (xs ++ ys.take m) xs (.slice A ln c) w7) := H4.out.put h7 k7
                      have HQ7 : Hid (Que w7 w1.heap.size 1 (.slice AS m cS) m (ys.map (Value.int .u32))) := HQ.out.keep k7 (fun i hi => by have := (HQ.out.lt i hi).1; simp; omega)
                      clear h7 k7 H4 HQ HRD HNE
                      obtain ⟨v8, hr8, hs8⟩ := src_first (P := Try.prog) (t := 28) HQ7.out hmk (by
                        intro u hu
                        obtain ⟨x, _, rfl⟩ := List.mem_map.1 hu
                        rfl) (by kernel_rfl) (by kernel_rfl)
                      rw [← List.map_take] at hs8
                      have HTL : Hid ((ys.take m).length = m) := by show _ = _; rw [List.length_take, HYL.out]; omega
                      obtain ⟨v9, w9, hr9, h9⟩ := H7.out.app (x := v8) (ys := ys.take m) (by rw [HTL.out]; exact hs8) (by rw [HL.out, HTL.out]; omega)
                      obtain ⟨A9, c9, rfl, _⟩ := h9.form
                      have HL9 : Hid ((xs ++ ys.take m).length = ln + m) := by show _ = _; rw [List.length_append, HL.out, HTL.out]
                      rw [HL9.out] at hr9 h9
                      have HR8 : Hid ((Instr.sliceAt 28 (.slice AS m cS) none (some (.int .i64 ((m : Int)))) none).run Try.prog w7 = .ok v8 w7) := by
                        show _ = _
                        exact hr8
                      have HR9 : Hid ((Builtin.append_ #[28, 28] 28 #[.slice A ln c, v8]).run Try.prog w7 = .ok (.slice A9 (ln + m) c9) w9) := hr9
                      have HP9 : Hid (Pt.P0 w b s (xs ++ ys.take m) (.slice A9 (ln + m) c9) w9) := h9.p0
                      clear hr8 hs8 hr9 h9 H7 HQ7
                      go_wp2_with (first
                        | (refine wpList_slice_known _ rfl 28 _ _ _ _ rfl HR8.out ?_)
                        | (at_builtin; refine wpList_append_known _ rfl _ _ 28 rfl _ _ rfl rfl HR9.out ?_))
                      go_meet
                      exact ⟨_, _, _, _, _, rfl, hml, HL9.out, HP9.out⟩
                    · have hg2 : ¬ (k : Int) > 64 - (ln : Int) ∨ True := .inr trivial
                      have hg3 : ¬ (k : Int) < 64 - (ln : Int) := by omega
                      have hne7 : ((m : Int) != 64 - (ln : Int)) = false := by simp; omega
                      have HME : Hid ((m : Int) = 64 - (ln : Int)) := hme
                      clear hme hg2 hg
                      go_wp2_with fail
                      refine (Pt.sendAll_n b 0 s k m xs ys AS cS _ H4.out.pt HYL.out HM.out HRD.out HNE.out).mono ?_
                      rintro e w7 ⟨rfl, h7, k7⟩
                      have H7 : Hid (Pt.PS w b q 4 N W s (xs ++ ys.take m) xs (.slice A ln c) w7) := H4.out.put h7 k7
                      have HQ7 : Hid (Que w7 w1.heap.size 1 (.slice AS k cS) k (ys.map (Value.int .u32))) := HQ.out.keep k7 (fun i hi => by have := (HQ.out.lt i hi).1; simp; omega)
                      clear h7 k7 H4 HQ HRD HNE
                      obtain ⟨v8, hr8, hs8⟩ := src_first (P := Try.prog) (t := 28) HQ7.out hmk (by
                        intro u hu
                        obtain ⟨x, _, rfl⟩ := List.mem_map.1 hu
                        rfl) (by kernel_rfl) (by kernel_rfl)
                      rw [← List.map_take] at hs8
                      have HTL : Hid ((ys.take m).length = m) := by show _ = _; rw [List.length_take, HYL.out]; omega
                      obtain ⟨v9, w9, hr9, h9⟩ := H7.out.app (x := v8) (ys := ys.take m) (by rw [HTL.out]; exact hs8) (by rw [HL.out, HTL.out]; omega)
                      obtain ⟨A9, c9, rfl, _⟩ := h9.form
                      have HL9 : Hid ((xs ++ ys.take m).length = ln + m) := by show _ = _; rw [List.length_append, HL.out, HTL.out]
                      rw [HL9.out] at hr9 h9
                      have HR8 : Hid ((Instr.sliceAt 28 (.slice AS k cS) none (some (.int .i64 (64 - (ln : Int)))) none).run Try.prog w7 = .ok v8 w7) := by
                        show _ = _
                        rw [← HME.out]
                        exact hr8
                      have HR9 : Hid ((Builtin.append_ #[28, 28] 28 #[.slice A ln c, v8]).run Try.prog w7 = .ok (.slice A9 (ln + m) c9) w9) := hr9
                      have HP9 : Hid (Pt.P0 w b s (xs ++ ys.take m) (.slice A9 (ln + m) c9) w9) := h9.p0
                      clear hr8 hs8 hr9 h9 H7 HQ7
                      go_wp2_with (first
                        | (refine wpList_slice_known _ rfl 28 _ _ _ _ rfl HR8.out ?_)
                        | (at_builtin; refine wpList_append_known _ rfl _ _ 28 rfl _ _ rfl rfl HR9.out ?_))
                      go_meet
                      exact ⟨_, _, _, _, _, rfl, hml, HL9.out, HP9.out⟩
              · have hK4 : ¬ K = 4 := hK
                clear hK
                by_cases hK : K = 5
                · subst hK
                  go_wp2_with fail
                  refine (Pt.clear_s H1.out).mono ?_
                  rintro e w2 ⟨rfl, H2⟩
                  rw [HL.out]
                  have HA2 : Hid (Pt.P0 w b 0 [] (.slice none 0 0) w2) := H2.none.p0
                  clear H2 hcw
                  go_wp2
                  go_meet
                  exact ⟨0, 0, 0, [], none, rfl, by omega, rfl, HA2.out⟩
                · have hK5 : ¬ K = 5 := hK
                  have HA2 : Hid (Pt.P0 w b s xs (.slice A ln c) w1) := H1.out.p0
                  clear hK hcw
                  go_wp2
                  go_meet
                  exact ⟨s, _, _, _, _, rfl, by omega, HL.out, HA2.out⟩
        case rest =>
          obtain ⟨s, ln, c, xs, A, rfl, hln, HL, HS⟩ := hcut
          clear H1
          have he : ((64 - ln : Nat) : Int) = 64 - (ln : Int) := by omega
          go_wp2_with fail
          refine (Pt.len_c b 0 s xs _ HS.out.pt).mono ?_
          rintro e w2 ⟨rfl, rfl⟩
          rw [HL.out]
          go_wp2_with fail
          refine (Pt.room_c b 0 s xs _ HS.out.pt).mono ?_
          rintro e w3 ⟨rfl, rfl⟩
          rw [HL.out, he]
          go_wp2_with fail
          refine (Pt.all_c b 0 s xs _ HS.out.pt).mono ?_
          rintro e w4 ⟨v, rfl, h4, k4⟩
          obtain ⟨A4, c4, rfl, _, _, _, hr4⟩ := Rd.of_own h4
          have HR4 : Hid (Rd .u32 w4 0 w4.heap.size A4 xs) := hr4.wider (Nat.zero_le _) (Nat.le_refl _)
          have HS4 : Hid (Pt.P0 w b s xs (.slice A ln c) w4) := HS.out.keep k4
          obtain ⟨hln2, A5, c5, hv5, hr5⟩ := Pt.Que.rd HS4.out.que
          injection hv5 with hv5 hv6 hv7
          subst hv5
          have HR5 : Hid (Rd .u32 w4 0 w4.heap.size A xs) := hr5.wider (Nat.zero_le _) (Nat.le_refl _)
          rw [HL.out]
          clear h4 k4 hr4 hr5 HS hln2 hv6 hv7
          go_wp2_with fail
          refine (Pt.same_c _ _ ln _ _ xs _ HL.out.symm (by omega) HR4.out HR5.out).mono ?_
          rintro e w6 ⟨rfl, k6⟩
          have HS6 : Hid (Pt.P0 w b s xs (.slice A ln c) w6) := HS4.out.keep k6
          clear k6
          go_wp2
          go_roundg (100 - (i + 1))
          case measure => omega
          case rel => exact ⟨i + 1, s, ln, c, xs, A, by omega, by omega, hln, rfl, by go_num, HL, HS6⟩
      · obtain rfl : i = 100 := by omega
        go_wp2_with fail
        refine (Pt.awake_c _).mono ?_
        rintro e w8 ⟨rfl, k8⟩
        have hE8 : Hid (Below b w w8) := Pt.below_but HS.out.bel k8 (by simp) (by have := HS.out.pt.lt; omega)
        clear k8
        go_wp2
        go_ret
        exact ⟨rfl, hE8.out⟩
    · obtain rfl : i = len0 := by omega
      go_wp2_with fail
      refine (Pt.awake_c _).mono ?_
      rintro e w8 ⟨rfl, k8⟩
      have hE8 : Hid (Below b w w8) := Pt.below_but HS.out.bel k8 (by simp) (by have := HS.out.pt.lt; omega)
      clear k8
      go_wp2
      go_ret
      exact ⟨rfl, hE8.out⟩

set_option maxRecDepth 100000 in
theorem lifted (os : Os) (started : os.Started) (H : Type) (enc : TypeId × Value → H) :
    ReturnsInHanded {} Try.checked os 3 .any (Rows.portPlaysSpec.pre6 enc Try.prog Try.f3 Rows.portPlaysRow.domain false) (Rows.portPlaysSpec.post enc Try.prog Try.f3 false true false false) := by
  refine returnsInHanded_of_change (C := Try.checked) own started (by kernel_rfl) Try.func3
    (ChangeSpec.witness6 (enc := enc) (C := Try.checked) false ⟨#[], #[.slice none 0 0], []⟩ 8 (by kernel_rfl) (by kernel_rfl) (by kernel_rfl) (by kernel_rfl)) ?_
  intro W base args ds gs before hval0 hW hcnd _
  have hval : ∀ (j : Nat) t v, Try.f3.params[j]? = some t → args[j]? = some v → Value.okWide Try.prog W .any base t v := hval0
  have hW' := hW
  obtain ⟨p, q, hA0, hV, rfl, hfz, hnd⟩ := hW
  have hA : DataW.TrodAll enc Try.prog W 0 (fun _ => true) true Try.f3.params.toList args.toList ds p := hA0
  rw [Try.params3] at hA hval
  obtain ⟨v0, vs0, d0, ds0, p0, q0, hargs, rfl, rfl, h0, t0⟩ := trodAll_cons hA
  obtain ⟨rfl, rfl, rfl⟩ := trodAll_nil t0
  obtain rfl : args = #[v0] := by cases args; simp_all
  obtain ⟨rfl, rfl⟩ := trodVars_none hV
  have k0 := h0
  have lt0 : ∀ x ∈ p0, x.block < W.heap.size := by obtain ⟨m, hm⟩ := k0; exact DataW.trod_lt m _ _ _ hm
  obtain ⟨A0, len0, cap0, rfl⟩ := okWide_slice Try.underlying22 (hval 0 22 v0 rfl rfl)
  have r0 := rowOf_open Try.underlying22 flatDeed (by decide) h0
  clear hA0 hval0
  refine (walk W A0 len0 cap0 r0).mono fun e W' ⟨he, hg⟩ => ?_
  subst he
  exact ⟨_, rfl, _, _, _, [], _, [], hW', (trodAll_cons_mk (shut_bool Try.underlying4 _) trodAll_mk0), (trodAll_cons_mk (Below.trod laidOut (by kernel_rfl) (of_decide_eq_true (by kernel_rfl)) k0 hg lt0) trodAll_mk0), rfl, hg.frame _, (fun h => by cases h)⟩

theorem over : Rows.portPlaysRow.holds Try.pinned (OpenSpec.ofChange Rows.portPlaysSpec) :=
  OpenClaim.holds_of_wide 3 Try.f3 rfl rfl rfl rfl rfl rfl rfl ⟨rfl, rfl, rfl, rfl, rfl⟩ rfl rfl rfl rfl rfl (by kernel_rfl) Try.func3 (by kernel_rfl)
    (of_decide_eq_true (by kernel_rfl)) (by unfold Func.isWrapper; first | (rw [if_pos (by decide +kernel)]; kernel_rfl) | (rw [if_neg (by decide +kernel)]; exact ⟨rfl, rfl⟩))
    (fun os started H enc _ => lifted os started H enc)
end Go.Proofs.Ytlpibbbjmmoifaa.portPlays
namespace Go.Proofs.Ytlpibbbjmmoifaa
/-- The statement, by its short name. -/
theorem portPlays_holds : Rows.PortPlaysSaid := portPlays.over
#print axioms portPlays_holds
end Go.Proofs.Ytlpibbbjmmoifaa
