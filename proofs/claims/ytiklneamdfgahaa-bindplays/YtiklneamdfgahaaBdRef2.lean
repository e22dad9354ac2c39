/-
  Layer 15 (bind): contracts of the document's Pages, Uses, Drop, over the translated program. (The walk of Drop is written by tools/gen_bdr.py.)
-/
import Derived.Test.YtiklneamdfgahaaBdRef
import Derived.Test.YtiklneamdfgahaaBdUses
import Derived.Deep.DeepCutAuto
namespace Go.Proofs.Ytiklneamdfgahaa.Bd
open Go.ChangeShapes Go.WideShapes Go.ChangeAt Go.RowKit
open Wh
set_option linter.unusedVariables false
set_option maxRecDepth 20000

theorem rget_v (b : Nat) (T : Tb) (s p : Int) (w : World) (h : RfAt w b T) :
    Calls Try.prog 9 #[.pointer (some ⟨b, 0, none⟩), .int .i64 s, .int .i64 p] w fun r w' => r = .returned (.agg #[.bool (gtb T s p), .int .i64 (gtv T s p).1, .bool (gtv T s p).2]) ∧ But [] w w' := rget_c b T s p w h
theorem fld0 (x0 x1 x2 : Value) (w : World) : (Instr.field 27 (.agg #[x0, x1, x2]) 0).run Try.prog w = .ok x0 w := by kernel_rfl
set_option maxHeartbeats 2000000 in
theorem rpages_c (b : Nat) (T : Tb) (s : Int) (w : World) (h : RfAt w b T) :
    Calls Try.prog 12 #[.pointer (some ⟨b, 0, none⟩), .int .i64 s] w (Ls w (pgl T s 32).length 1 (ic (pgl T s 32))) := by
  have H := hid h
  have hfl := fld0
  clear h
  go_enter Try.func12, Try.ntmps12
  go_wp2
  go_loopg [5, 6] 33 (fun g0 v i wx => ∃ (k m cv : Nat) (Av : Option Addr), k + g0 = 33 ∧ k ≤ 32 ∧ m ≤ k ∧ i = .int .i64 k ∧ v = .slice Av m cv ∧ Hid (Que wx w.heap.size 1 (.slice Av m cv) m (ic (pgl T s k))) ∧ Hid (But [] w wx))
  case atStart => exact ⟨0, 0, 0, none, by omega, by omega, by omega, rfl, rfl, by show Que _ _ _ _ _ _; rw [show pgl T s 0 = [] by unfold pgl; rfl]; exact Que.nil _ _ _, But.refl _ _⟩
  case round =>
    obtain ⟨k, m, cv, Av, hkg, hk, hmk, rfl, rfl, HQ, HB⟩ := hrel
    by_cases hlt : k < 32
    · have hkI : (k : Int) < 32 := by omega
      have HL := hid (pgl_succ T s k)
      have HG := hid (rget_v b T s k wr (H.out.keep HB.out (by simp)))
      cases hb : gt T s (k : Int) with
      | some bb =>
        obtain ⟨e1, e2⟩ := gtb_some hb
        rw [e1, e2] at HG
        rw [hb] at HL
        have HL' : Hid (pgl T s (k + 1) = pgl T s k ++ [k]) := by show _ = _; rw [HL.out]; rfl
        obtain ⟨f, u⟩ := bb
        clear hb e1 e2 HL
        go_wp2_with fail
        refine HG.out.mono ?_
        rintro r w2 ⟨rfl, k1⟩
        have HB1 := hid (HB.out.trans k1)
        have HQ1 := hid (HQ.out.keep0 k1)
        clear k1 HG
        obtain ⟨g', off', c', w5, hr5, hq5, hk5, ho5⟩ := que_push (P := Try.prog) 41 3 _ Try.underlying41 Bd.Try.infoInt rfl (by decide) (by decide) HQ1.out (ic [k]) rfl (ic_one _) HB1.out.size (by omega)
        have HR5 : Hid ((Builtin.append_ #[41, 41] 41 #[.slice Av m cv, .slice (some ⟨w2.heap.size, 0, none⟩) 1 1]).run Try.prog (w2.alloc (.cells #[.int .i64 k] 3)) = .ok (.slice (some ⟨g', off', none⟩) (m + 1) c') w5) := hr5
        have HQ5 : Hid (Que w5 w.heap.size 1 (.slice (some ⟨g', off', none⟩) (m + 1) c') (m + 1) (ic (pgl T s (k + 1)))) := by
          show Que _ _ _ _ _ _
          rw [HL'.out, ic_app]
          exact hq5
        have HB5 := hid (but_own HB1.out hk5 (fun i hi => (HQ1.out.lt i hi).1))
        clear hr5 hq5 hk5 ho5 HQ HB HQ1 HB1 HL'
        go_wp2_with (first | (at_builtin; refine wpList_append_known _ rfl _ _ 41 rfl _ _ rfl rfl HR5.out ?_))
        go_roundg (33 - (k + 1))
        case measure => omega
        case rel => exact ⟨k + 1, _, _, _, by omega, by omega, by omega, by go_num, rfl, HQ5.out, HB5.out⟩
      | none =>
        obtain ⟨e1, e2⟩ := gtb_none hb
        rw [e1, e2] at HG
        rw [hb] at HL
        have HL' : Hid (pgl T s (k + 1) = pgl T s k) := by show _ = _; rw [HL.out]; simp
        clear hb e1 e2 HL
        go_wp2_with fail
        refine HG.out.mono ?_
        rintro r w1 ⟨rfl, k1⟩
        have HB1 := hid (HB.out.trans k1)
        have HQ1 : Hid (Que w1 w.heap.size 1 (.slice Av m cv) m (ic (pgl T s (k + 1)))) := by
          show Que _ _ _ _ _ _
          rw [HL'.out]
          exact HQ.out.keep0 k1
        clear k1 HG HQ HB HL'
        go_wp2
        go_roundg (33 - (k + 1))
        case measure => omega
        case rel => exact ⟨k + 1, m, cv, Av, by omega, by omega, by omega, by go_num, rfl, HQ1.out, HB1.out⟩
    · obtain rfl : k = 32 := by omega
      go_wp2
      go_ret
      have hl := HQ.out.1
      rw [ic_len, Nat.mul_one] at hl
      rw [hl]
      exact ⟨Av, cv, rfl, HQ.out, HB.out⟩
set_option maxHeartbeats 2000000 in
theorem ruses_c (b : Nat) (T : Tb) (f : Int) (w : World) (h : RfAt w b T) :
    Calls Try.prog 14 #[.pointer (some ⟨b, 0, none⟩), .int .i64 f] w (Ls w (usl T f 2048).length 2 (uc (usl T f 2048))) := by
  have H := hid h
  clear h
  go_enter Try.func14, Try.ntmps14
  go_wp2
  go_loopg [5, 6] 65 (fun g0 v i wx => ∃ (s m cv : Nat) (Av : Option Addr), s + g0 = 65 ∧ s ≤ 64 ∧ m ≤ s * 32 ∧ i = .int .i64 s ∧ v = .slice Av m cv ∧ Hid (Que wx w.heap.size 2 (.slice Av m cv) m (uc (usl T f (s * 32)))) ∧ Hid (But [] w wx))
  case atStart => exact ⟨0, 0, 0, none, by omega, by omega, by omega, rfl, rfl, by show Que _ _ _ _ _ _; rw [show usl T f (0 * 32) = [] by rw [Nat.zero_mul]; unfold usl; rfl]; exact Que.nil _ _ _, But.refl _ _⟩
  case round =>
    obtain ⟨s, m0, cv0, Av0, hsg, hs, hms, rfl, rfl, HQ0, HB0⟩ := hrel
    by_cases hslt : s < 64
    · have hsI : (s : Int) < 64 := by omega
      go_wp2
      go_loopg [5, 7] 33 (fun g1 v i wx => ∃ (p m cv : Nat) (Av : Option Addr), p + g1 = 33 ∧ p ≤ 32 ∧ m ≤ s * 32 + p ∧ i = .int .i64 p ∧ v = .slice Av m cv ∧ Hid (Que wx w.heap.size 2 (.slice Av m cv) m (uc (usl T f (s * 32 + p)))) ∧ Hid (But [] w wx))
      case atStart => exact ⟨0, m0, cv0, Av0, by omega, by omega, by omega, rfl, rfl, HQ0.out, HB0.out⟩
      case round =>
        clear HQ0 HB0 hms
        obtain ⟨p, m, cv, Av, hpg, hp, hmp, rfl, rfl, HQ, HB⟩ := hrel
        by_cases hplt : p < 32
        · have hpI : (p : Int) < 32 := by omega
          have HL := hid (usl_succ T f (s * 32 + p))
          have HRW := hid ((H.out.keep HB.out (by simp)).row s p hslt hplt)
          cases hb : T (s * 32 + p) with
          | some bb =>
            obtain ⟨fr, u⟩ := bb
            have HF := hid (isF_some (f := f) hb)
            rw [hb] at HRW
            have hc0 := range_cells HRW.out 0 (.bool true) rfl
            have hc1 := range_cells HRW.out 1 (.int .i64 fr) rfl
            rw [Nat.add_zero] at hc0
            clear hb HRW
            by_cases hfr : fr = f
            · subst hfr
              have HL' : Hid (usl T fr (s * 32 + p + 1) = usl T fr (s * 32 + p) ++ [s * 32 + p]) := by show _ = _; rw [HL.out, HF.out]; simp
              clear HL HF
              obtain ⟨g', off', c', w5, hr5, hq5, hk5, ho5⟩ := que_push (P := Try.prog) 43 45 _ Try.underlying43 infoPair rfl (by decide) (by decide) HQ.out [.int .i64 (s : Nat), .int .i64 (p : Nat)] rfl (two_one _ _) HB.out.size (by omega)
              have HR5 : Hid ((Builtin.append_ #[43, 43] 43 #[.slice Av m cv, .slice (some ⟨wr.heap.size, 0, none⟩) 1 1]).run Try.prog (wr.alloc (.cells #[.int .i64 s, .int .i64 p] 45)) = .ok (.slice (some ⟨g', off', none⟩) (m + 1) c') w5) := hr5
              have HQ5 : Hid (Que w5 w.heap.size 2 (.slice (some ⟨g', off', none⟩) (m + 1) c') (m + 1) (uc (usl T fr (s * 32 + (p + 1))))) := by
                show Que _ _ _ _ _ _
                rw [← Nat.add_assoc, HL'.out, uc_app]
                simp only [uc, uc1, List.append_nil]
                rw [show (s * 32 + p) / 32 = s by omega, show (s * 32 + p) % 32 = p by omega]
                exact hq5
              have HB5 := hid (but_own HB.out hk5 (fun i hi => (HQ.out.lt i hi).1))
              clear hr5 hq5 hk5 ho5 HQ HB HL'
              go_wp2_with (first | (at_builtin; refine wpList_append_known _ rfl _ _ 43 rfl _ _ rfl rfl HR5.out ?_))
              go_roundg (33 - (p + 1))
              case measure => omega
              case rel => exact ⟨p + 1, _, _, _, by omega, by omega, by omega, by go_num, rfl, HQ5.out, HB5.out⟩
            · have hfb : (fr == f) = false := by simpa using hfr
              have HQ1 : Hid (Que wr w.heap.size 2 (.slice Av m cv) m (uc (usl T f (s * 32 + (p + 1))))) := by
                show Que _ _ _ _ _ _
                rw [← Nat.add_assoc, HL.out, HF.out, hfb]
                simpa using HQ.out
              clear HL HF HQ
              go_wp2
              go_roundg (33 - (p + 1))
              case measure => omega
              case rel => exact ⟨p + 1, _, _, _, by omega, by omega, by omega, by go_num, rfl, HQ1.out, HB.out⟩
          | none =>
            have HF := hid (isF_none (f := f) hb)
            rw [hb] at HRW
            have hc0 := range_cells HRW.out 0 (.bool false) rfl
            rw [Nat.add_zero] at hc0
            have HQ1 : Hid (Que wr w.heap.size 2 (.slice Av m cv) m (uc (usl T f (s * 32 + (p + 1))))) := by
              show Que _ _ _ _ _ _
              rw [← Nat.add_assoc, HL.out, HF.out]
              simpa using HQ.out
            clear hb HRW HL HF HQ
            go_wp2
            go_roundg (33 - (p + 1))
            case measure => omega
            case rel => exact ⟨p + 1, _, _, _, by omega, by omega, by omega, by go_num, rfl, HQ1.out, HB.out⟩
        · obtain rfl : p = 32 := by omega
          have HQ1 : Hid (Que wr w.heap.size 2 (.slice Av m cv) m (uc (usl T f ((s + 1) * 32)))) := by
            show Que _ _ _ _ _ _
            rw [show (s + 1) * 32 = s * 32 + 32 by omega]
            exact HQ.out
          clear HQ
          go_wp2
          go_roundg (65 - (s + 1))
          case measure => omega
          case rel => exact ⟨s + 1, _, _, _, by omega, by omega, by omega, by go_num, rfl, HQ1.out, HB.out⟩
    · obtain rfl : s = 64 := by omega
      go_wp2
      go_ret
      have hl := HQ0.out.1
      rw [uc_len] at hl
      have e : (usl T f 2048).length = m0 := by
        have : (usl T f (64 * 32)).length * 2 = m0 * 2 := hl
        rw [show 64 * 32 = 2048 from rfl] at this
        omega
      rw [e]
      exact ⟨Av0, cv0, rfl, HQ0.out, HB0.out⟩
end Go.Proofs.Ytiklneamdfgahaa.Bd
