/-
  Whatever the input, the Go function PortOrder answers true, and its arguments read behind the call as they read before. No condition.
-/
import Derived.Test.YtlpibbbjmmoifaaRows
import Derived.Test.YtlpibbbjmmoifaaPtFlat
import Derived.WalkKit
import Derived.Deep.LoopGhost
import Derived.ProofKit
import Derived.OpenShut
import Derived.ShutString
import Derived.ChangeOld
import Derived.Below
import Derived.Carry
namespace Go.Proofs.Ytlpibbbjmmoifaa.portOrder
open Go.ChangeShapes Go.WideShapes Go.ChangeAt Go.RowKit
open Go.ChangeMaps (open_string shut_string)
set_option linter.unusedVariables false

theorem own : ownKnob Try.prog.godebug = none := by kernel_rfl
theorem laidOut : laidOutB Try.prog = true := by kernel_rfl

set_option maxHeartbeats 4000000 in
set_option maxRecDepth 100000 in
theorem walk (w : World) (A0 : Option Addr) (len0 cap0 : Nat) (r0 : RowOf ks_flatU32 w A0 len0 cap0) (a1 : Int) (w1 : (Lit.int .i64 a1).wf = true) :
    Calls Try.prog 4 #[.slice A0 len0 cap0, .int .i64 a1] w fun e w' => e = .returned (.bool true) ∧ Below w.heap.size w w' := by
  obtain ⟨hlc, hcm, -⟩ := id r0
  obtain ⟨ys, hyl, hrd⟩ := words_of r0
  unfold maxLen at hcm
  clear r0
  have HR : Hid (Rd .u32 w 0 w.heap.size A0 ys) := hrd
  have HYL : Hid (ys.length = len0) := hyl
  clear hrd hyl
  have hm63 := and63 a1
  obtain ⟨K, hK⟩ : ∃ K : Nat, a1 % 64 = (K : Int) := ⟨(a1 % 64).toNat, by omega⟩
  have hK64 : K < 64 := by omega
  rw [hK] at hm63
  clear hK w1
  have hz := Pt.zport_zero
  obtain ⟨b, hb⟩ : ∃ b, b = w.heap.size := ⟨_, rfl⟩
  have H0 : Hid (Pt.PtAt (w.alloc (.cells Pt.zport 27)) b 0 0 []) := by show Pt.PtAt _ _ _ _ _; rw [hb]; exact Pt.port_new w
  have HK : Hid (∀ w', But [b] w w' → Below w.heap.size w w') := by
    show ∀ w', _ → _
    intro w' h
    exact h.below (Nat.le_refl _) (by simp; omega)
  have HBW : Hid (b = w.heap.size) := hb
  go_enter Try.func4, Try.ntmps4
  go_wp2
  rw [← hb]
  have K0 : Hid (But [b] w (w.alloc (.cells Pt.zport 27))) := (But.refl _ _).alloc _
  clear hb hz
  generalize w.alloc (.cells Pt.zport 27) = w0 at H0 K0 ⊢
  go_loopg [6] (K + 1) (fun g0 i wx => ∃ k s : Nat, k + g0 = K + 1 ∧ k ≤ K ∧ i = .int .i64 k ∧ Hid (Pt.PtAt wx b 0 s []) ∧ Hid (But [b] w wx))
  case atStart => exact ⟨0, 0, by omega, by omega, rfl, H0, K0⟩
  case round =>
    obtain ⟨k, s, hkg, hkK, rfl, HT, HB⟩ := hrel
    clear H0 K0
    by_cases hlt : k < K
    · have hltI : (k : Int) < (K : Int) := by omega
      go_wp2_with fail
      refine (Pt.send_c b 0 s _ [] _ HT.out (by simp)).mono ?_
      rintro e w2 ⟨rfl, h2, k2⟩
      have HT2 : Hid (Pt.PtAt w2 b 0 s [(k : Int)]) := by
        show Pt.PtAt _ _ _ _ _
        exact h2
      have HB2 : Hid (But [b] w w2) := HB.out.trans k2
      clear h2 k2 HT HB
      go_wp2_with fail
      refine (Pt.receive_c b 0 s _ [] _ HT2.out).mono ?_
      rintro e w3 ⟨rfl, h3, k3⟩
      have HT3 : Hid (Pt.PtAt w3 b 0 ((s + 1) % 64) []) := h3
      have HB3 : Hid (But [b] w w3) := HB2.out.trans k3
      clear h3 k3 HT2 HB2
      go_wp2
      go_roundg (K + 1 - (k + 1))
      case measure => omega
      case rel => exact ⟨k + 1, _, by omega, by omega, by go_num, HT3.out, HB3.out⟩
    · obtain rfl : k = K := by omega
      have hkK2 : ¬ (k : Int) < (k : Int) := by omega
      have hbl : b < wr.heap.size := HT.out.lt
      have hRx : Rd .u32 wr 0 wr.heap.size A0 ys := (HR.out.keep (HK.out _ HB.out)).wider (Nat.le_refl _) (by have := HB.out.size; omega)
      have hne : ys ≠ [] → ∀ g off, A0 = some ⟨g, off, none⟩ → g ≠ b := by
        intro h g off e
        rcases HR.out with h' | ⟨g', off', e', _, h2, _⟩
        · exact absurd h' h
        · rw [e] at e'; injection e' with e'; injection e' with e1
          have := HBW.out; omega
      have HRx : Hid (Rd .u32 wr 0 wr.heap.size A0 ys) := hRx
      have HNE : Hid (ys ≠ [] → ∀ g off, A0 = some ⟨g, off, none⟩ → g ≠ b) := hne
      clear hRx hne
      obtain ⟨n, hn⟩ : ∃ n, n = min len0 64 := ⟨_, rfl⟩
      go_wp2_with fail
      refine (Pt.sendAll_n b 0 s len0 n [] ys A0 cap0 _ HT.out HYL.out (by rw [hn]; simp) HRx.out HNE.out).mono ?_
      rintro e w2 ⟨rfl, h2, k2⟩
      have HT2 : Hid (Pt.PtAt w2 b 0 s (ys.take n)) := h2
      have HB2 : Hid (But [b] w w2) := HB.out.trans k2
      clear h2 k2 HT HB HRx HNE hbl hkK2
      have hnm : n ≤ 64 ∧ n ≤ len0 := by omega
      obtain ⟨hn64, hnl0⟩ := hnm
      have HL : Hid ((ys.take n).length = n) := by show _ = _; rw [List.length_take, HYL.out]; omega
      have hg0 : ¬ (len0 : Int) < (n : Int) := by omega
      have hg0n : ¬ len0 < n := by omega
      have hg1 : (((n : Int) != (len0 : Int)) = false) ∨ (((n : Int) != (len0 : Int)) = true ∧ ((n : Int) != 64) = false) := by
        by_cases he : len0 ≤ 64
        · exact .inl (by simp; omega)
        · exact .inr ⟨by simp; omega, by simp; omega⟩
      clear hn
      rcases hg1 with hg1 | ⟨hg1, hg2⟩
      all_goals
        go_wp2
        go_loopg [8] (n + 1) (fun g0 i wx => ∃ k s : Nat, k + g0 = n + 1 ∧ k ≤ n ∧ i = .int .i64 k ∧ Hid (Pt.PtAt wx b 0 s ((ys.take n).drop k)) ∧ Hid (But [b] w wx))
        case atStart => exact ⟨0, s, by omega, by omega, rfl, HT2, HB2⟩
        case round =>
          obtain ⟨q, s', hqg, hqn, rfl, HT, HB⟩ := hrel
          clear HT2 HB2
          by_cases hlt : q < n
          · have hql : q < (ys.take n).length := by rw [HL.out]; exact hlt
            have hdr : (ys.take n).drop q = (ys.take n)[q] :: (ys.take n).drop (q + 1) := List.drop_eq_getElem_cons hql
            have hget : (ys.take n)[q] = ys.getD q 0 := by
              rw [List.getElem_take, List.getD_eq_getElem?_getD, List.getElem?_eq_getElem]; rfl
            rw [hget] at hdr
            rw [hdr] at HT
            have hqy : q < ys.length := by rw [HYL.out]; omega
            obtain ⟨bA, off, hA, _, hbA, hcell⟩ := HR.out.at_ hqy
            have hbne : bA ≠ b := by have := HBW.out; omega
            have hcq := hcell q hqy
            generalize ys.getD q 0 = v at *
            subst hA
            have HC : Hid (w.cell? ⟨bA, off + q, none⟩ = some (.int .u32 v)) := hcq
            clear hcell hcq hdr hget hql hqy
            have hqlen : (q : Int) < (len0 : Int) := by omega
            go_wp2_with fail
            refine (Pt.receive_c b 0 s' v _ _ HT.out).mono ?_
            rintro e w3 ⟨rfl, h3, k3⟩
            have HT3 : Hid (Pt.PtAt w3 b 0 ((s' + 1) % 64) ((ys.take n).drop (q + 1))) := h3
            have HB3 : Hid (But [b] w w3) := HB.out.trans k3
            have hc3 : w3.cell? ⟨bA, off + q, none⟩ = some (.int .u32 v) := cell_keep HC.out HB3.out (by simpa using hbne)
            clear h3 k3 HT HB HC
            go_wp2
            go_roundg (n + 1 - (q + 1))
            case measure => omega
            case rel => exact ⟨q + 1, _, by omega, by omega, by go_num, HT3.out, HB3.out⟩
          · obtain rfl : q = n := by omega
            have hqq : ¬ (q : Int) < (q : Int) := by omega
            have hdr : (ys.take q).drop q = [] := List.drop_eq_nil_of_le (by rw [HL.out]; exact Nat.le_refl _)
            rw [hdr] at HT
            clear hdr
            go_wp2_with fail
            refine (Pt.receive_no b 0 s' _ HT.out).mono ?_
            rintro e w3 ⟨rfl, rfl⟩
            go_wp2_with fail
            refine (Pt.awake_c _).mono ?_
            rintro e w4 ⟨rfl, k4⟩
            have HB4 : Hid (But [b] w w4) := HB.out.trans (k4.any _)
            clear k4
            go_wp2
            go_ret
            exact ⟨rfl, HK.out _ HB4.out⟩

set_option maxRecDepth 100000 in
theorem lifted (os : Os) (started : os.Started) (H : Type) (enc : TypeId × Value → H) :
    ReturnsInHanded {} Try.checked os 4 .any (Rows.portOrderSpec.pre6 enc Try.prog Try.f4 Rows.portOrderRow.domain false) (Rows.portOrderSpec.post enc Try.prog Try.f4 false true false false) := by
  refine returnsInHanded_of_change (C := Try.checked) own started (by kernel_rfl) Try.func4
    (ChangeSpec.witness6 (enc := enc) (C := Try.checked) false ⟨#[], #[.slice none 0 0, .int .i64 0], []⟩ 8 (by kernel_rfl) (by kernel_rfl) (by kernel_rfl) (by kernel_rfl)) ?_
  intro W base args ds gs before hval0 hW hcnd _
  have hval : ∀ (j : Nat) t v, Try.f4.params[j]? = some t → args[j]? = some v → Value.okWide Try.prog W .any base t v := hval0
  have hW' := hW
  obtain ⟨p, q, hA0, hV, rfl, hfz, hnd⟩ := hW
  have hA : DataW.TrodAll enc Try.prog W 0 (fun _ => true) true Try.f4.params.toList args.toList ds p := hA0
  rw [Try.params4] at hA hval
  obtain ⟨v0, vs0, d0, ds0, p0, q0, hargs, rfl, rfl, h0, t0⟩ := trodAll_cons hA
  obtain ⟨v1, vs1, d1, ds1, p1, q1, rfl, rfl, rfl, h1, t1⟩ := trodAll_cons t0
  obtain ⟨rfl, rfl, rfl⟩ := trodAll_nil t1
  obtain rfl : args = #[v0, v1] := by cases args; simp_all
  obtain ⟨rfl, rfl⟩ := trodVars_none hV
  have k0 := h0
  have lt0 : ∀ x ∈ p0, x.block < W.heap.size := by obtain ⟨m, hm⟩ := k0; exact DataW.trod_lt m _ _ _ hm
  have k1 := h1
  have lt1 : ∀ x ∈ p1, x.block < W.heap.size := by obtain ⟨m, hm⟩ := k1; exact DataW.trod_lt m _ _ _ hm
  obtain ⟨A0, len0, cap0, rfl⟩ := okWide_slice Try.underlying28 (hval 0 28 v0 rfl rfl)
  have r0 := rowOf_open Try.underlying28 flatU32 (by decide) h0
  obtain ⟨a1, rfl, rfl, rfl, w1⟩ := open_int Try.underlying3 (hval 1 3 v1 rfl rfl) h1
  clear hA0 hval0
  refine (walk W A0 len0 cap0 r0 a1 w1).mono fun e W' ⟨he, hg⟩ => ?_
  subst he
  exact ⟨_, rfl, _, _, _, [], _, [], hW', (trodAll_cons_mk (shut_bool Try.underlying4 _) trodAll_mk0), (trodAll_cons_mk (Below.trod laidOut (by kernel_rfl) (of_decide_eq_true (by kernel_rfl)) k0 hg lt0) (trodAll_cons_mk (Below.trod laidOut (by kernel_rfl) (of_decide_eq_true (by kernel_rfl)) k1 hg lt1) trodAll_mk0)), rfl, hg.frame _, (fun h => by cases h)⟩

theorem over : Rows.portOrderRow.holds Try.pinned (OpenSpec.ofChange Rows.portOrderSpec) :=
  OpenClaim.holds_of_wide 4 Try.f4 rfl rfl rfl rfl rfl rfl rfl ⟨rfl, rfl, rfl, rfl, rfl⟩ rfl rfl rfl rfl rfl (by kernel_rfl) Try.func4 (by kernel_rfl)
    (of_decide_eq_true (by kernel_rfl)) (by unfold Func.isWrapper; first | (rw [if_pos (by decide +kernel)]; kernel_rfl) | (rw [if_neg (by decide +kernel)]; exact ⟨rfl, rfl⟩))
    (fun os started H enc _ => lifted os started H enc)
end Go.Proofs.Ytlpibbbjmmoifaa.portOrder
namespace Go.Proofs.Ytlpibbbjmmoifaa
/-- The statement, by its short name. -/
theorem portOrder_holds : Rows.PortOrderSaid := portOrder.over
#print axioms portOrder_holds
end Go.Proofs.Ytlpibbbjmmoifaa
