/-
  Layer 17 (abort): the contract of First, over the translated program.
-/
import Derived.Test.YtfopmdiepaonnaaAoDo
namespace Go.Proofs.Ytfopmdiepaonnaa.Ao
open Go.ChangeShapes Go.WideShapes Go.ChangeAt Go.RowKit
open Wh
set_option linter.unusedVariables false
set_option maxRecDepth 20000

set_option maxHeartbeats 2000000 in
theorem first_c (l : List Wn) (ho : Ok l) (e k : Int) (w : World) : Calls Try.prog 16 #[vv l, .int .i64 e, .int .i64 k] w fun r w' => (∃ n, Fst l e k n ∧ r = .returned (Pr n)) ∧ But [] w w' := by
  have hzw : ∀ w, (zeroValue wT).run Try.prog w = .ok (.agg #[.int .i64 0, .int .i64 0, .int .i64 0, .int .i64 0]) w := fun w => by kernel_rfl
  obtain ⟨b, wa, hb, hwa, t1, t4⟩ := made_lt w l
  have HR0 := hid t1.all
  have HB0 := hid t4
  have HA := hid (all_c l ho.1 wa)
  have HO := hid ho
  have hl := ho.1
  clear t1 t4 ho
  unfold vv at HA
  show Calls _ _ #[.agg (lc l).toArray, .int .i64 e, .int .i64 k] w _
  go_enter Try.func16, Try.ntmps16
  go_upto_region 1 with fail
  rw [← hwa, ← hb]
  clear hwa hb
  go_wp2_with (first
    | (refine wpList_load_mid rfl lT _ rfl b 0 rfl (lc l) _ HR0.out Try.underlying27 rfl (iList _) ?_))
  refine HA.out.mono ?_
  rintro r w1 ⟨v, rfl, hq, k1⟩
  obtain ⟨A, c, rfl, -, hli⟩ := que_li hq
  have HL := hid hli
  have K1 := hid k1
  clear hq hli k1 HA
  go_wp2_with fail
  refine (ofKind_c e k w1).mono ?_
  rintro r w2 ⟨cb, rfl, hp, k2⟩
  have HP := hid hp
  have K2 := hid (K1.out.trans k2)
  have HL2 := hid (HL.out.keep k2)
  clear hp k2 HL K1
  go_wp2_with fail
  refine (split_c A _ c _ cb (ofK e k) l w2 HL2.out rfl (by omega) HP.out).mono ?_
  rintro r w3 ⟨A1, A2, c1, c2, rfl, hq1, hq2, k3⟩
  obtain ⟨A3, c3, e3, -, hli⟩ := que_li hq1
  injection e3 with e31 e32 e33
  subst e31
  have HL3 := hid hli
  have K3 := hid (HB0.out.trans (K2.out.trans k3))
  obtain ⟨D, hD⟩ : ∃ D, D = l.filter (ofK e k) := ⟨_, rfl⟩
  obtain ⟨m, hm⟩ : ∃ m, D.length = m := ⟨_, rfl⟩
  rw [← hD] at HL3 ⊢
  rw [hm]
  have hmm : m ≤ 64 := by rw [← hm, hD]; exact Nat.le_trans (List.length_filter_le _ _) hl
  have HD := hid hD
  have HM := hid hm
  obtain ⟨m2, hm2⟩ : ∃ m2, m2 = (l.filter fun a => !ofK e k a).length := ⟨_, rfl⟩
  rw [← hm2]
  clear hq1 hq2 k3 hli HL2 HP K2 e33 e32 hD hm hm2
  by_cases h0 : m = 0
  · subst h0
    go_wp2
    go_ret2
    exact ⟨⟨-1, .inl ⟨rfl, by rw [← HD.out]; exact List.eq_nil_of_length_eq_zero HM.out⟩, rfl⟩, K3.out⟩
  · have HMIN := hid (min_c A1 m c1 D w3 HL3.out HM.out (by omega) (by omega) (fun a ha => by
      have hd := HD.out
      rw [hd] at ha
      have := mb_iff.1 (HO.out.2 a (List.mem_filter.1 ha).1)
      omega))
    have hm1 : ¬ ((m : Int) = 0) := by omega
    clear HL3
    go_wp2_with fail
    refine HMIN.out.mono ?_
    rintro r w4 ⟨x, y, z, t, rfl, hin, hle, k4⟩
    have K4 := hid (K3.out.trans k4)
    have HF : Hid (Fst l e k z) := by
      show Fst _ _ _ _
      have hd := HD.out
      rw [hd] at hin hle
      have := mb_iff.1 (HO.out.2 _ (List.mem_filter.1 hin).1)
      exact .inr ⟨⟨_, hin, rfl⟩, hle, this.2.2.2.2.1⟩
    have HZ : Hid (0 ≤ z) := by
      show 0 ≤ z
      have hd := HD.out
      rw [hd] at hin
      exact (mb_iff.1 (HO.out.2 _ (List.mem_filter.1 hin).1)).2.2.2.2.1
    clear hin hle k4 HMIN K3
    go_wp2
    go_ret2
    exact ⟨⟨z, HF.out, by rw [Pr_yes HZ.out]; rfl⟩, K4.out.alloc _⟩
end Go.Proofs.Ytfopmdiepaonnaa.Ao
