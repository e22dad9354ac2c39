/-
  Layer 16 (slots): the contract of the statement that so many turns of others go by as is told, over the translated program.
-/
import Derived.Test.YteenclhmdnnniaaVtAwake
namespace Go.Proofs.Yteenclhmdnnniaa.Vt
open Go.ChangeShapes Go.WideShapes Go.ChangeAt Go.RowKit
open Wh
set_option linter.unusedVariables false
set_option maxRecDepth 20000

theorem cnt_no {e : Int} {l : List Int} (h : ∀ q, q < l.length → l.getD q 0 ≠ e) : cnt e l = 0 := by
  unfold cnt
  rw [wo_self h]
  omega
theorem mem_at {l : List Int} {j : Nat} (h : j < l.length) : l.getD j 0 ∈ l := by
  rw [List.getD_eq_getElem?_getD, List.getElem?_eq_getElem h]
  exact List.getElem_mem h
theorem nx_rts (l : List Int) (hl : okB l = true) (k : Nat) (hk : k < l.length) : ∃ r, rts l k = l.getD k 0 :: r ∧ r ++ [l.getD k 0] = rts l (k + 1) ∧ okB (l.getD k 0 :: r) = true := by
  obtain ⟨r, h⟩ := rts_head l k hk
  refine ⟨r, h, ?_, ?_⟩
  · show _ = rt (rts l k)
    rw [h]
    rfl
  · rw [← h]
    exact rts_ok hl k
set_option maxHeartbeats 4000000 in
theorem waits_c (A : Option Addr) (n c : Nat) (e : Int) (w : World) (h : RowOf ks_flatInt w A n c) :
    Calls Try.prog 5 #[.slice A n c, .int .i64 e] w fun r w' => r = .returned (.bool true) ∧ But [] w w' := by
  have hz := zVec
  obtain ⟨l, hln, hli⟩ := row_li h
  have hof := of_c A n c l w hli hln
  have HW := hid (fun w => wait_c (mk l) (okB_len (okB_mk l)) e w)
  have HSH := hid (fun w => share_c (mk l) (okB_mk l) e w)
  unfold vv at hof HW HSH
  have HOF := hid hof
  have HAW := hid awake_c
  clear hof h hli hln
  go_enter Try.func5, Try.ntmps5
  go_wp2_with fail
  refine HOF.out.mono ?_
  rintro r w1 ⟨rfl, k1⟩
  obtain ⟨b, w2, hb, hw2, h2, k2⟩ := made_vt w1 (mk l)
  have H2 := hid h2
  have HR2 := hid h2.all
  have K2 := hid (k1.trans k2)
  clear h2 k2 HOF
  go_upto_region 2 with (first
    | (refine wpList_store_new rfl vT _ _ rfl (vc []).toArray (vc (mk l)).toArray rfl rfl (iVec' _) (by rw [vc_size, vc_size]) (vc_all _) ?_))
  rw [← hw2, ← hb]
  have hwb : w.heap.size ≤ b := by rw [hb]; exact k1.size
  clear hw2 hb k1
  go_wp2_with (first
    | (refine wpList_load_mid rfl vT _ rfl b 0 rfl (vc (mk l)) _ HR2.out Try.underlying25 rfl (iVec _) ?_))
  refine (HW.out _).mono ?_
  rintro r w3 ⟨rfl, k3⟩
  have H3 := hid (H2.out.keep0 k3)
  have HR3 := hid (H2.out.keep0 k3).all
  have K3 := hid (K2.out.trans k3)
  clear k3 H2 HR2 HW
  by_cases hno : okB l = false ∨ wt e (mk l) = -1
  · have hc : cnt e (mk l) = 0 := by
      rcases hno with h0 | h0
      · rw [mk_no h0]
        unfold cnt
        rfl
      · rcases wt_cases e (mk l) with ⟨-, h1⟩ | ⟨j, -, h1, -, -⟩
        · exact cnt_no h1
        · omega
    have hwt : wt e (mk l) = -1 := by
      rcases hno with h0 | h0
      · rw [mk_no h0]
        exact wt_no fun q hq => absurd hq (Nat.not_lt_zero _)
      · exact h0
    rw [hwt, Pr_no]
    rw [hc] at HSH
    clear hc hwt hno
    cases hok : okB l with
    | true =>
      clear hok
      go_wp2_with (first
        | (refine wpList_load_mid_g vT _ rfl b 0 rfl (vc (mk l)) _ HR3.out Try.underlying25 rfl (iVec _) rfl ?_))
      refine (HSH.out _).mono ?_
      rintro r w4 ⟨rfl, k4⟩
      have K4 := hid (K3.out.trans k4)
      clear k4
      go_wp2_with fail
      refine (HAW.out _).mono ?_
      rintro r w5 ⟨rfl, k5⟩
      have K5 := hid (K4.out.trans k5)
      clear k5
      go_wp2
      go_ret
      exact ⟨rfl, K5.out⟩
    | false =>
      clear hok
      go_wp2_with (first
        | (refine wpList_load_mid_g vT _ rfl b 0 rfl (vc (mk l)) _ HR3.out Try.underlying25 rfl (iVec _) rfl ?_))
      refine (HSH.out _).mono ?_
      rintro r w4 ⟨rfl, k4⟩
      have K4 := hid (K3.out.trans k4)
      clear k4
      go_wp2_with fail
      refine (HAW.out _).mono ?_
      rintro r w5 ⟨rfl, k5⟩
      have K5 := hid (K4.out.trans k5)
      clear k5
      go_wp2
      go_ret
      exact ⟨rfl, K5.out⟩
  · have hok : okB l = true := by
      cases h0 : okB l with
      | true => rfl
      | false => exact absurd (.inl h0) hno
    rw [mk_ok hok] at H3 HR3 HSH hno ⊢
    rcases wt_cases e l with ⟨h1, -⟩ | ⟨j, hj, h1, hat, hbe⟩
    · exact absurd (.inr h1) hno
    have HSJ : Hid (∀ w, Calls Try.prog 18 #[.agg (vc (rts l j)).toArray, .int .i64 e] w fun r w' => r = .returned (.int .i64 (cnt e (rts l j))) ∧ But [] w w') := fun w => share_c (rts l j) (rts_ok hok j) e w
    have hcp : 0 < cnt e (rts l j) := cnt_pos ((rts_mem j).2 (by rw [← hat]; exact mem_at hj))
    have hcm : cnt e (rts l j) ≤ 32 := by
      have := cnt_le e (rts l j)
      rw [rts_len] at this
      have := okB_len hok
      omega
    have hj32 : j < 32 := by have := okB_len hok; omega
    rw [h1, Pr_yes, hok]
    have HOK := hid hok
    have HJ := hid hj
    have HAT := hid hat
    have HBE := hid hbe
    generalize cnt e (rts l j) = m at *
    clear h1 hno hok hj hat hbe HSH HR3
    go_wp2
    go_loopg [9] (j + 1) (fun g0 i wx => ∃ k : Nat, k + g0 = j + 1 ∧ k ≤ j ∧ i = .int .i64 k ∧ Hid (VtAt wx b (rts l k)) ∧ Hid (But [] w wx))
    case atStart => exact ⟨0, by omega, by omega, rfl, H3.out, K3.out⟩
    case round =>
      obtain ⟨k, hkg, hk, rfl, HV, HB⟩ := hrel
      obtain ⟨x0, hx0⟩ : ∃ x0, l.getD k 0 = x0 := ⟨_, rfl⟩
      obtain ⟨r, e1, e2, e3⟩ := nx_rts l HOK.out k (by have := HJ.out; omega)
      rw [hx0] at e1 e2 e3
      rw [e1] at HV
      have HNX : Hid (∀ w, Calls Try.prog 10 #[.agg (vc (x0 :: r)).toArray] w fun q w' => q = .returned (.tuple #[.agg (vc (r ++ [x0])).toArray, .int .i64 x0, .bool true]) ∧ But [] w w') := fun w => next_c (x0 :: r) e3 w
      have HE2 := hid e2
      have HE1 := hid e1
      have HRV := hid HV.out.all
      have hvb := HV.out.lt
      by_cases hlt : k < j
      · have hx : x0 ≠ e := by rw [← hx0]; exact HBE.out k hlt
        have hxe : (x0 == e) = false := by simp [hx]
        clear e1 e2 e3 hx0 hx
        go_wp2_with (first
          | (refine wpList_load_mid rfl vT _ rfl b 0 rfl (vc (x0 :: r)) _ HRV.out Try.underlying25 rfl (iVec _) ?_))
        refine (HNX.out _).mono ?_
        rintro q w5 ⟨rfl, k5⟩
        obtain ⟨b6, w6, hb6, hw6, h6, k6⟩ := made_vt w5 (r ++ [x0])
        have HR6 := hid h6.all
        have K6 := hid (HB.out.trans (k5.trans k6))
        have HT6 : Hid (w6.there b 0 (vc (r ++ [x0])).toArray.size) := by show World.there _ _ _ _; rw [vc_size]; exact (HV.out.keep0 (k5.trans k6)).there
        clear k5 k6 h6 HNX
        go_upto_region 9 with (first
          | (refine wpList_store_new rfl vT _ _ rfl (vc []).toArray (vc (r ++ [x0])).toArray rfl rfl (iVec' _) (by rw [vc_size, vc_size]) (vc_all _) ?_))
        rw [← hw6, ← hb6]
        clear hw6 hb6
        go_wp2_with (first
          | (refine wpList_load_mid rfl vT _ rfl b6 0 rfl (vc (r ++ [x0])) _ HR6.out Try.underlying25 rfl (iVec _) ?_)
          | (refine wpList_store_mid rfl vT _ _ rfl b 0 (vc (r ++ [x0])).toArray rfl rfl ?ht (iVec' _) (vc_all _) ?_; case ht => exact HT6.out))
        go_roundg (j + 1 - (k + 1))
        case measure => omega
        case rel => exact ⟨k + 1, by omega, by omega, by go_num, by rw [← HE2.out]; exact vt_sets (by have := HT6.out; rwa [vc_size] at this) _, but_own K6.out ((But.refl [b] _).setCells (by simp) _ _) (fun i hi => by simp at hi; omega)⟩
      · obtain rfl : k = j := by omega
        have hx : x0 = e := by rw [← hx0]; exact HAT.out
        subst hx
        clear e1 e2 e3 hx0
        go_wp2_with (first
          | (refine wpList_load_mid rfl vT _ rfl b 0 rfl (vc (x0 :: r)) _ HRV.out Try.underlying25 rfl (iVec _) ?_))
        refine (HNX.out _).mono ?_
        rintro q w5 ⟨rfl, k5⟩
        obtain ⟨b6, w6, hb6, hw6, -, k6⟩ := made_vt w5 (r ++ [x0])
        have K6 := hid (HB.out.trans (k5.trans k6))
        have HR6 := hid (HV.out.keep0 (k5.trans k6)).all
        clear k5 k6 HNX
        go_upto_region 13 with (first
          | (refine wpList_store_new rfl vT _ _ rfl (vc []).toArray (vc (r ++ [x0])).toArray rfl rfl (iVec' _) (by rw [vc_size, vc_size]) (vc_all _) ?_))
        rw [← hw6, ← hb6]
        clear hw6 hb6
        rw [HE1.out] at HSJ
        go_wp2_with (first
          | (refine wpList_load_mid_g vT _ rfl b 0 rfl (vc (x0 :: r)) _ HR6.out Try.underlying25 rfl (iVec _) rfl ?_))
        refine (HSJ.out _).mono ?_
        rintro q w7 ⟨rfl, k7⟩
        have K7 := hid (K6.out.trans k7)
        clear k7
        go_wp2_with fail
        refine (HAW.out _).mono ?_
        rintro q w8 ⟨rfl, k8⟩
        have K8 := hid (K7.out.trans k8)
        clear k8
        go_wp2
        go_ret
        exact ⟨rfl, K8.out⟩
end Go.Proofs.Yteenclhmdnnniaa.Vt
