/-
  Layer 16 (slots): the contract of the statement that it is the turn that the document says, at each moment, over the translated program. (Written by tools/gen_vtp.py out of VtLawP.head.)
-/
import Derived.Test.YteenclhmdnnniaaVtLawF
import Derived.Test.YteenclhmdnnniaaLast
namespace Go.Proofs.Yteenclhmdnnniaa.Vt
open Go.ChangeShapes Go.WideShapes Go.ChangeAt Go.RowKit
open Wh
set_option linter.unusedVariables false
set_option maxRecDepth 20000

/-- Numbers that lie at A, not in block b. -/
def Xa (w : World) (b : Nat) (A : Option Addr) (l : List Int) : Prop :=
  l = [] ∨ ∃ g off, A = some ⟨g, off, none⟩ ∧ g ≠ b ∧ g < w.heap.size ∧ ∀ j, j < l.length → w.cell? ⟨g, off + j, none⟩ = some (.int .i64 (l.getD j 0))
theorem Xa.keep {w w' : World} {b : Nat} {A : Option Addr} {l : List Int} (h : Xa w b A l) {ks : List Nat} (k : But ks w w') (hk : ∀ i ∈ ks, i = b) : Xa w' b A l := by
  rcases h with h | ⟨g, off, e, h1, h2, hc⟩
  · exact .inl h
  · exact .inr ⟨g, off, e, h1, Nat.lt_of_lt_of_le h2 k.size, fun j hj => (k.cell (p := ⟨g, off + j, none⟩) h2 (fun hm => h1 (hk g hm))).trans (hc j hj)⟩
theorem Xa.li {w : World} {b : Nat} {A : Option Addr} {l : List Int} (h : Xa w b A l) : Li w A l := by
  rcases h with h | ⟨g, off, e, h1, h2, hc⟩
  · exact .inl h
  · exact .inr ⟨g, off, e, Nat.zero_le _, h2, hc⟩
theorem Xa.of {w : World} {b : Nat} {A : Option Addr} {l : List Int} (h : Li w A l) (hb : w.heap.size ≤ b) : Xa w b A l := by
  rcases h with h | ⟨g, off, e, h1, h2, hc⟩
  · exact .inl h
  · exact .inr ⟨g, off, e, by omega, h2, hc⟩
theorem que_xa {w : World} {lo b n : Nat} {v : Value} {l : List Int} (h : Que w lo 1 v n (zi l)) (hb : b < lo) : ∃ A c, v = .slice A n c ∧ l.length = n ∧ n ≤ c ∧ Xa w b A l := by
  have hl : l.length = n := by have := h.1; rwa [zi_len, Nat.mul_one] at this
  rcases h.2 with ⟨rfl, rfl⟩ | ⟨g, off, cap, rfl, hb', hg, hnc, hcm, hth, hr⟩
  · exact ⟨_, _, rfl, hl, Nat.le_refl _, .inl (List.eq_nil_of_length_eq_zero hl)⟩
  · exact ⟨_, _, rfl, hl, hnc, .inr ⟨g, off, rfl, by omega, hg, fun j hj => hr j _ (zi_get l j hj)⟩⟩
theorem pr_cases (e : Int) (L : List Int) (hl : L.length ≤ 32) : ∃ (n1 : Int) (b1 : Bool), Pr (wt e L) = .tuple #[.int .i64 n1, .bool b1] ∧ ((wt e L = -1 ∧ n1 = 0 ∧ b1 = false) ∨ ∃ j : Nat, wt e L = j ∧ n1 = j ∧ b1 = true ∧ j < 32) := by
  rcases wt_cases e L with ⟨h1, -⟩ | ⟨j, hj, h1, -, -⟩
  · exact ⟨0, false, by rw [h1, Pr_no], .inl ⟨h1, rfl, rfl⟩⟩
  · exact ⟨j, true, by rw [h1, Pr_yes], .inr ⟨j, h1, rfl, rfl, by omega⟩⟩
set_option maxHeartbeats 8000000 in
theorem plays_c (A B : Option Addr) (n c n2 c2 : Nat) (w : World) (h : RowOf ks_flatInt w A n c) (h2 : RowOf ks_flatInt w B n2 c2) :
    Calls Try.prog 3 #[.slice A n c, .slice B n2 c2] w fun r w' => r = .returned (.bool true) ∧ But [] w w' := by
  have hz := zVec
  obtain ⟨l, hln, hli⟩ := row_li h
  obtain ⟨d, hdn, hdi⟩ := row_li h2
  have hnc := h.1
  have hn2 := h2.1
  have hc2 := h2.2.1
  unfold maxLen at hc2
  have HLI := hid hli
  have HDI := hid hdi
  have HLN := hid hln
  have HDN := hid hdn
  have hof := of_c A n c l w hli hln
  unfold vv at hof
  have HOF := hid hof
  have HRT := hid (fun w (h : Li w A l) => right_c A n c l w h hln)
  have HAW := hid awake_c
  clear hof h h2 hli hdi hln hdn
  go_enter Try.func3, Try.ntmps3
  go_wp2_with fail
  refine HOF.out.mono ?_
  rintro r w1 ⟨rfl, k1⟩
  obtain ⟨b, w2, hb, hw2, h2, k2⟩ := made_vt w1 (mk l)
  have H2 := hid h2
  have HR2 := hid h2.all
  have K2 := hid (k1.trans k2)
  clear h2 k2 HOF
  go_upto_region 2 with (first
    | (refine wpList_store_new rfl vT _ _ rfl (vc []).toArray (vc (mk l)).toArray rfl rfl (iVec' _) (by rw [vc_size, vc_size]) (vc_all _) ?_))
  rw [← hw2, ← hb]
  have hwb : w.heap.size ≤ b := by rw [hb]; exact k1.size
  clear hw2 hb k1
  go_wp2_with fail
  refine (HRT.out _ (HLI.out.keep K2.out)).mono ?_
  rintro r w3 ⟨rfl, k3⟩
  have H3 := hid (H2.out.keep0 k3)
  have K3 := hid (K2.out.trans k3)
  clear k3 H2 HR2 HRT
  cases hok : okB l with
  | false =>
    rw [mk_no hok] at H3
    have HR3 := hid H3.out.all
    have HLC := hid (fun w => len_c [] w)
    unfold vv at HLC
    rw [show (([] : List Int).length : Nat) = 0 from rfl] at HLC
    clear hok H3
    go_wp2_with (first
      | (refine wpList_load_mid_g vT _ rfl b 0 rfl (vc []) _ HR3.out Try.underlying25 rfl (iVec _) rfl ?_))
    refine (HLC.out _).mono ?_
    rintro r w4 ⟨rfl, k4⟩
    have K4 := hid (K3.out.trans k4)
    clear k4
    go_wp2_with fail
    refine (HAW.out _).mono ?_
    rintro r w5 ⟨rfl, k5⟩
    have K5 := hid (K4.out.trans k5)
    clear k5
    go_wp2
    go_ret
    exact ⟨rfl, K5.out⟩
  | true =>
    rw [mk_ok hok] at H3
    have HOK := hid hok
    clear hok
    go_wp2
    go_loopg [7, 8] 61 (fun g0 s7 s8 wx => ∃ i : Nat, i + g0 = 61 ∧ i ≤ 60 ∧ i ≤ n2 ∧ s8 = .int .i64 i ∧ ∃ (L : List Int) (A7 : Option Addr) (m c7 : Nat), s7 = .slice A7 m c7 ∧ Hid (L.length = m) ∧ Hid (m ≤ c7) ∧ Hid (VtAt wx b L) ∧ Hid (okB L = true) ∧ Hid (Xa wx b A7 L) ∧ Hid (But [] w wx))
    case atStart => exact ⟨0, by omega, by omega, by omega, rfl, l, A, n, c, rfl, HLN.out, hnc, H3.out, HOK.out, (Xa.of HLI.out hwb).keep K3.out (by simp), K3.out⟩
    case round =>
      obtain ⟨i, hig, hi60, hin, rfl, L, A7, m, c7, rfl, HM, HC7, HV, HO, HX, HB⟩ := hrel
      have hm32 : m ≤ 32 := by have := okB_len HO.out; have := HM.out; omega
      by_cases hlt : i < n2
      · by_cases h60 : i < 60
        · obtain ⟨gd, off, hBd, hgd, hcell⟩ := HDI.out.at_ (k := i) (by have := HDN.out; omega)
          subst hBd
          have HD : Hid (∀ w', But [] w w' → w'.cell? ⟨gd, off + i, none⟩ = some (.int .i64 (d.getD i 0))) := fun w' k => cell_keep (hcell i (by have := HDN.out; omega)) k (by simp)
          clear hcell
          generalize d.getD i 0 = y at HD
          have hc0 := HD.out _ HB.out
          have hand := and15 y
          generalize y % 16 = e at hand
          go_upto_if 48 with fail
          go_cut [7, 9, 10, 11] from 34 to 145 (fun s7 s9 s10 s11 wx => ∃ (L2 : List Int) (A2 : Option Addr) (m2 c2 : Nat), s7 = .slice A2 m2 c2 ∧ Hid (L2.length = m2) ∧ Hid (m2 ≤ c2) ∧ Hid (VtAt wx b L2) ∧ Hid (okB L2 = true) ∧ Hid (Xa wx b A2 L2) ∧ Hid (But [] w wx))
          case first =>
            have hvb := HV.out.lt
            have HRV := hid HV.out.all
            by_cases hy : 0 ≤ y
            · by_cases hL : L = []
              · skip
                obtain rfl : m = 0 := by rw [← HM.out, hL]; rfl
                have HNX : Hid (∀ w, Calls Try.prog 10 #[.agg (vc L).toArray] w fun q w' => q = .returned (.tuple #[.agg (vc L).toArray, .int .i64 0, .bool false]) ∧ But [] w w') := by
                  subst hL
                  exact fun w => next_c [] rfl w
                have HO2 := HO
                have HRT : Hid (rt L = L) := by subst hL; rfl
                clear hL
                go_wp2_with (first
                  | (refine wpList_load_mid rfl vT _ rfl b 0 rfl (vc L) _ HRV.out Try.underlying25 rfl (iVec _) ?_))
                refine (HNX.out _).mono ?_
                rintro z w5 ⟨rfl, k5⟩
                obtain ⟨b6, w6, hb6, hw6, h6, k6⟩ := made_vt w5 L
                have HR6 := hid h6.all
                have k56 := k5.trans k6
                have K6 := hid (HB.out.trans k56)
                have HT6 : Hid (w6.there b 0 (vc L).toArray.size) := by show World.there _ _ _ _; rw [vc_size]; exact (HV.out.keep0 k56).there
                have HX6 := hid (HX.out.keep k56 (by simp))
                have hvb6 : b < w6.heap.size := Nat.lt_of_lt_of_le hvb k56.size
                clear k5 k6 k56 h6 HNX HRV
                go_upto_region 10 with (first
                  | (refine wpList_store_new rfl vT _ _ rfl (vc []).toArray (vc L).toArray rfl rfl (iVec' _) (by simp only [vc_size]) (vc_all _) ?_))
                rw [← hw6, ← hb6]
                clear hw6 hb6
                obtain ⟨w7, hw7⟩ : ∃ w7, w7 = w6.setCells b 0 (vc L) := ⟨_, rfl⟩
                have k7 : But [b] w6 w7 := by rw [hw7]; exact (But.refl [b] _).setCells (by simp) _ _
                have HV7 : Hid (VtAt w7 b L) := by show VtAt _ _ _; rw [hw7]; exact vt_sets (by have := HT6.out; rwa [vc_size] at this) _
                have HX7 := hid (HX6.out.keep k7 (by simp))
                have K7 := hid (but_own K6.out k7 (fun i hi => by simp at hi; omega))
                have hvb7 : b < w7.heap.size := Nat.lt_of_lt_of_le hvb6 k7.size
                clear k7
                go_upto_region 13 with (first
                  | (refine wpList_load_mid rfl vT _ rfl b6 0 rfl (vc L) _ HR6.out Try.underlying25 rfl (iVec _) ?_)
                  | (refine wpList_store_mid rfl vT _ _ rfl b 0 (vc L).toArray rfl rfl ?ht (iVec' _) (vc_all _) ?_; case ht => exact HT6.out))
                rw [← hw7]
                clear hw7
                go_wp2_with fail
                refine (rnext_c A7 0 c7 L _ HX7.out.li HM.out HC7.out (by omega)).mono ?_
                rintro z w8 ⟨v8, rfl, hq8, k8⟩
                rw [HRT.out] at hq8
                obtain ⟨A8, c8, rfl, hl8, hc8, hx8⟩ := que_xa hq8 hvb7
                have HV8 := hid (HV7.out.keep0 k8)
                have K8 := hid (K7.out.trans k8)
                have H8 := hid (And.intro hl8 (And.intro hc8 hx8))
                clear hq8 k8 hl8 hc8 hx8
                go_wp2_with fail
                go_meet
                exact ⟨L, A8, 0, c8, rfl, H8.out.1, H8.out.2.1, HV8.out, HO2.out, H8.out.2.2, K8.out⟩
              · obtain ⟨x, r, rfl⟩ : ∃ x r, L = x :: r := by
                  cases L with
                  | nil => exact absurd rfl hL
                  | cons x r => exact ⟨x, r, rfl⟩
                clear hL
                have hmp : 0 < m := by rw [← HM.out]; simp
                have hmI : (0 : Int) < m := by omega
                have HNX : Hid (∀ w, Calls Try.prog 10 #[.agg (vc (x :: r)).toArray] w fun q w' => q = .returned (.tuple #[.agg (vc (r ++ [x])).toArray, .int .i64 x, .bool true]) ∧ But [] w w') := fun w => next_c (x :: r) HO.out w
                have HO2 : Hid (okB (r ++ [x]) = true) := rt_ok HO.out
                go_wp2_with (first
                  | (refine wpList_load_mid rfl vT _ rfl b 0 rfl (vc (x :: r)) _ HRV.out Try.underlying25 rfl (iVec _) ?_))
                refine (HNX.out _).mono ?_
                rintro z w5 ⟨rfl, k5⟩
                obtain ⟨b6, w6, hb6, hw6, h6, k6⟩ := made_vt w5 (r ++ [x])
                have HR6 := hid h6.all
                have k56 := k5.trans k6
                have K6 := hid (HB.out.trans k56)
                have HT6 : Hid (w6.there b 0 (vc (r ++ [x])).toArray.size) := by show World.there _ _ _ _; rw [vc_size]; exact (HV.out.keep0 k56).there
                have HX6 := hid (HX.out.keep k56 (by simp))
                have hvb6 : b < w6.heap.size := Nat.lt_of_lt_of_le hvb k56.size
                clear k5 k6 k56 h6 HNX HRV
                obtain ⟨g7, o7, hA7, -, -, hc7⟩ : ∃ g off, A7 = some ⟨g, off, none⟩ ∧ g ≠ b ∧ g < w6.heap.size ∧ ∀ j, j < (x :: r).length → w6.cell? ⟨g, off + j, none⟩ = some (.int .i64 ((x :: r).getD j 0)) := HX6.out.resolve_left (by simp)
                subst hA7
                have hcx : w6.cell? ⟨g7, o7, none⟩ = some (.int .i64 x) := by have := hc7 0 (by simp); rwa [Nat.add_zero] at this
                clear hc7
                go_upto_region 10 with (first
                  | (refine wpList_store_new rfl vT _ _ rfl (vc []).toArray (vc (r ++ [x])).toArray rfl rfl (iVec' _) (by simp only [vc_size]) (vc_all _) ?_))
                rw [← hw6, ← hb6]
                clear hw6 hb6
                obtain ⟨w7, hw7⟩ : ∃ w7, w7 = w6.setCells b 0 (vc (r ++ [x])) := ⟨_, rfl⟩
                have k7 : But [b] w6 w7 := by rw [hw7]; exact (But.refl [b] _).setCells (by simp) _ _
                have HV7 : Hid (VtAt w7 b (r ++ [x])) := by show VtAt _ _ _; rw [hw7]; exact vt_sets (by have := HT6.out; rwa [vc_size] at this) _
                have HX7 := hid (HX6.out.keep k7 (by simp))
                have K7 := hid (but_own K6.out k7 (fun i hi => by simp at hi; omega))
                have hvb7 : b < w7.heap.size := Nat.lt_of_lt_of_le hvb6 k7.size
                clear k7
                go_upto_region 13 with (first
                  | (refine wpList_load_mid rfl vT _ rfl b6 0 rfl (vc (r ++ [x])) _ HR6.out Try.underlying25 rfl (iVec _) ?_)
                  | (refine wpList_store_mid rfl vT _ _ rfl b 0 (vc (r ++ [x])).toArray rfl rfl ?ht (iVec' _) (vc_all _) ?_; case ht => exact HT6.out))
                rw [← hw7]
                clear hw7
                go_wp2_with fail
                refine (rnext_c (some ⟨g7, o7, none⟩) m c7 (x :: r) _ HX7.out.li HM.out HC7.out (by omega)).mono ?_
                rintro z w8 ⟨v8, rfl, hq8, k8⟩
                obtain ⟨A8, c8, rfl, hl8, hc8, hx8⟩ := que_xa hq8 hvb7
                have HV8 := hid (HV7.out.keep0 k8)
                have K8 := hid (K7.out.trans k8)
                have H8 := hid (And.intro hl8 (And.intro hc8 hx8))
                clear hq8 k8 hl8 hc8 hx8
                go_wp2_with fail
                go_meet
                exact ⟨(r ++ [x]), A8, m, c8, rfl, H8.out.1, H8.out.2.1, HV8.out, HO2.out, H8.out.2.2, K8.out⟩
            · have hyl : y < 0 := by omega
              have HWO := hid (fun w => without_c L HO.out e w)
              unfold vv at HWO
              have HT : Hid (∀ w', But [] wr w' → w'.there b 0 (vc (wo e L)).toArray.size) := fun w' k => by show World.there _ _ _ _; rw [vc_size]; exact (HV.out.keep0 k).there
              go_upto_region 14 with fail
              have hS0 : But [] wr wr.drew := (But.refl _ _).drew
              refine till_begin (fun w' => But [] wr w') 7 (by kernel_rfl) ?_
              refine till_take 0 (some 81) (.agg (vc L).toArray) rfl rfl (by kernel_rfl) (by kernel_rfl) (by kernel_rfl) (by kernel_rfl) (by decide) (fun _ _ _ h => h) (yieldsIf_load_mid (by rfl) _ _ rfl b 0 rfl (vc L) _ (fun w' h => range_keep HRV.out h (by simp)) Try.underlying25 rfl (iVec _)) hS0 ?_
              simp only [Act.put, List.setIfInBounds_toArray, List.set_cons_zero, List.set_cons_succ]
              refine till_take 1 (some 82) (.slice (some ⟨gd, off, none⟩) n2 c2) rfl rfl (by kernel_rfl) (by kernel_rfl) (by kernel_rfl) (by kernel_rfl) (by decide) (fun _ _ _ h => h) (Or.inl ⟨by rfl, fun w' hw' => by go_simp⟩) hS0 ?_
              simp only [Act.put, List.setIfInBounds_toArray, List.set_cons_zero, List.set_cons_succ]
              refine till_take 2 (some 83) (.int .i64 i) rfl rfl (by kernel_rfl) (by kernel_rfl) (by kernel_rfl) (by kernel_rfl) (by decide) (fun _ _ _ h => h) (Or.inl ⟨by rfl, fun w' hw' => by go_simp⟩) hS0 ?_
              simp only [Act.put, List.setIfInBounds_toArray, List.set_cons_zero, List.set_cons_succ]
              refine till_take 3 (some 84) (.pointer (some ⟨gd, off + i, none⟩)) rfl rfl (by kernel_rfl) (by kernel_rfl) (by kernel_rfl) (by kernel_rfl) (by decide) (fun _ _ _ h => h) (Or.inl ⟨by rfl, fun w' hw' => by go_simp⟩) hS0 ?_
              simp only [Act.put, List.setIfInBounds_toArray, List.set_cons_zero, List.set_cons_succ]
              refine till_take 4 (some 85) (.int .i64 y) rfl rfl (by kernel_rfl) (by kernel_rfl) (by kernel_rfl) (by kernel_rfl) (by decide) (fun _ _ _ h => h) (Or.inl ⟨by rfl, fun w' hw' => by have hq0 := HD.out w' (HB.out.trans hw'); go_simp⟩) hS0 ?_
              simp only [Act.put, List.setIfInBounds_toArray, List.set_cons_zero, List.set_cons_succ]
              refine till_take 5 (some 86) (.int .i64 e) rfl rfl (by kernel_rfl) (by kernel_rfl) (by kernel_rfl) (by kernel_rfl) (by decide) (fun _ _ _ h => h) (Or.inl ⟨by rfl, fun w' hw' => by go_simp⟩) hS0 ?_
              simp only [Act.put, List.setIfInBounds_toArray, List.set_cons_zero, List.set_cons_succ]
              refine till_one' 6 rfl (by kernel_rfl) (by rfl) (fun K hK => ?_)
              go_simp
              refine (HWO.out _).mono ?_
              rintro z w8 ⟨rfl, k8⟩
              go_wp2_with fail
              have hS8 := hS0.trans k8
              refine hK.out _ _ ⟨fun _ => hS8, ?_⟩
              clear hK K
              try simp only [Act.put, List.setIfInBounds_toArray, List.set_cons_zero, List.set_cons_succ]
              refine till_one' 7 rfl (by kernel_rfl) (by rfl) (fun K hK => ?_)
              refine wp_store_mid0 _ _ _ rfl b 0 (vc (wo e L)).toArray rfl rfl (HT.out _ hS8) (iVec' _) (vc_all _) rfl ?_
              refine hK.out _ _ ⟨fun h => absurd rfl h, ?_⟩
              clear hK K
              refine till_done (by kernel_rfl) ?_ _
              obtain ⟨w9, hw9⟩ : ∃ w9, w9 = w8.setCells b 0 (vc (wo e L)) := ⟨_, rfl⟩
              have hS9 : But [b] w8 w9 := by rw [hw9]; exact (But.refl [b] _).setCells (by simp) _ _
              have HV9 : Hid (VtAt w9 b (wo e L)) := by show VtAt _ _ _; rw [hw9]; exact vt_sets (by have := HT.out _ hS8; rwa [vc_size] at this) _
              have HX9 := hid ((HX.out.keep hS8 (by simp)).keep hS9 (by simp))
              have K9 := hid (but_own (HB.out.trans hS8) hS9 (fun i hi => by simp at hi; omega))
              have hvb9 : b < w9.heap.size := Nat.lt_of_lt_of_le (Nat.lt_of_lt_of_le hvb hS8.size) hS9.size
              have hcy := HD.out _ K9.out
              change _ = _ at hcy
              first | rw [← hw9] | (simp only [List.toList_toArray]; rw [← hw9])
              clear HWO HRV hS9 hw9 HT
              go_wp2_with fail
              refine (rwithout_c A7 m c7 e L _ HX9.out.li HM.out (by omega)).mono ?_
              rintro z w10 ⟨v10, rfl, hq10, k10⟩
              obtain ⟨A10, c10, rfl, hl10, hc10, hx10⟩ := que_xa hq10 hvb9
              have HV10 := hid (HV9.out.keep0 k10)
              have K10 := hid (K9.out.trans k10)
              have H10 := hid (And.intro hl10 (And.intro hc10 hx10))
              clear hq10 k10 hl10 hc10 hx10
              go_wp2_with fail
              go_meet
              exact ⟨wo e L, A10, _, c10, rfl, hid rfl, H10.out.2.1, HV10.out, wo_ok HO.out, H10.out.2.2, K10.out⟩
          case rest =>
            obtain ⟨L2, A2, m2, c3, rfl, HM2, HC2, HV2, HO2, HX2, HB2⟩ := hcut
            have hl32 := okB_len HO2.out
            have hm2 : m2 ≤ 32 := by have := HM2.out; omega
            have HWT := hid (fun w => wait_c L2 hl32 e w)
            have HLC := hid (fun w => len_c L2 w)
            have HAL := hid (fun w => all_c L2 hl32 w)
            obtain ⟨n1, b1, hp, hcases⟩ := pr_cases e L2 hl32
            have HCS := hid hcases
            rw [hp] at HWT
            rw [HM2.out] at HLC HAL
            unfold vv at HWT HLC HAL
            have HRV2 := hid HV2.out.all
            have HRW : Hid (∀ w', But [] wc w' → Calls Try.prog 15 #[.slice A2 m2 c3, .int .i64 e] w' fun r w'' => r = .returned (.int .i64 (wt e L2)) ∧ But [] w' w'') := fun w' k => rwait_c A2 m2 c3 e L2 w' (HX2.out.li.keep k) HM2.out (by omega)
            generalize wt e L2 = wv at *
            clear hp hcases
            go_upto_region 16 with fail
            refine wp_region_noPanic ?_
            refine wp_region_held_drew (S := fun w' => But [] wc w') (by kernel_rfl) (But.refl _ _).drew (fun hS0 => ?_)
            generalize wc.drew = wd at *
            refine held_take 0 (some 96) (.agg (vc L2).toArray) rfl rfl (by kernel_rfl) (by kernel_rfl) (by kernel_rfl) (fun _ _ _ h => h) (yieldsIf_load_mid (by rfl) _ _ rfl b 0 rfl (vc L2) _ (fun w' h => range_keep HRV2.out h (by simp)) Try.underlying25 rfl (iVec _)) hS0 ?_
            simp only [Act.put, List.setIfInBounds_toArray, List.set_cons_zero, List.set_cons_succ]
            refine held_take 1 (some 97) (.slice (some ⟨gd, off, none⟩) n2 c2) rfl rfl (by kernel_rfl) (by kernel_rfl) (by kernel_rfl) (fun _ _ _ h => h) (Or.inl ⟨by rfl, fun w' hw' => by go_simp⟩) hS0 ?_
            simp only [Act.put, List.setIfInBounds_toArray, List.set_cons_zero, List.set_cons_succ]
            refine held_take 2 (some 98) (.int .i64 i) rfl rfl (by kernel_rfl) (by kernel_rfl) (by kernel_rfl) (fun _ _ _ h => h) (Or.inl ⟨by rfl, fun w' hw' => by go_simp⟩) hS0 ?_
            simp only [Act.put, List.setIfInBounds_toArray, List.set_cons_zero, List.set_cons_succ]
            refine held_take 3 (some 99) (.pointer (some ⟨gd, off + i, none⟩)) rfl rfl (by kernel_rfl) (by kernel_rfl) (by kernel_rfl) (fun _ _ _ h => h) (Or.inl ⟨by rfl, fun w' hw' => by go_simp⟩) hS0 ?_
            simp only [Act.put, List.setIfInBounds_toArray, List.set_cons_zero, List.set_cons_succ]
            refine held_take 4 (some 100) (.int .i64 y) rfl rfl (by kernel_rfl) (by kernel_rfl) (by kernel_rfl) (fun _ _ _ h => h) (Or.inl ⟨by rfl, fun w' hw' => by have hq0 := HD.out w' (HB2.out.trans hw'); go_simp⟩) hS0 ?_
            simp only [Act.put, List.setIfInBounds_toArray, List.set_cons_zero, List.set_cons_succ]
            refine held_take 5 (some 101) (.int .i64 e) rfl rfl (by kernel_rfl) (by kernel_rfl) (by kernel_rfl) (fun _ _ _ h => h) (Or.inl ⟨by rfl, fun w' hw' => by go_simp⟩) hS0 ?_
            simp only [Act.put, List.setIfInBounds_toArray, List.set_cons_zero, List.set_cons_succ]
            refine held_one 6 rfl (by kernel_rfl) (by rfl) (fun K hK => ?_)
            go_simp
            refine (HWT.out _).mono ?_
            rintro z w102 ⟨rfl, k102⟩
            go_wp2_with fail
            have hS1' : But [] wc w102 := hS0.trans k102
            skip
            refine hK.out _ _ hS1' (fun hS1 => ?_)
            clear hK K
            try simp only [Act.put, List.setIfInBounds_toArray, List.set_cons_zero, List.set_cons_succ]
            refine held_take 7 (some 95) (.tuple #[.int .i64 n1, .bool b1]) rfl rfl (by kernel_rfl) (by kernel_rfl) (by kernel_rfl) (fun _ _ _ h => h) (Or.inl ⟨by rfl, fun w' hw' => by go_simp⟩) hS1 ?_
            simp only [Act.put, List.setIfInBounds_toArray, List.set_cons_zero, List.set_cons_succ]
            refine held_take 8 (some 103) (.int .i64 n1) rfl rfl (by kernel_rfl) (by kernel_rfl) (by kernel_rfl) (fun _ _ _ h => h) (Or.inl ⟨by rfl, fun w' hw' => by go_simp⟩) hS1 ?_
            simp only [Act.put, List.setIfInBounds_toArray, List.set_cons_zero, List.set_cons_succ]
            refine held_take 9 (some 104) (.bool b1) rfl rfl (by kernel_rfl) (by kernel_rfl) (by kernel_rfl) (fun _ _ _ h => h) (Or.inl ⟨by rfl, fun w' hw' => by go_simp⟩) hS1 ?_
            simp only [Act.put, List.setIfInBounds_toArray, List.set_cons_zero, List.set_cons_succ]
            refine held_take 10 (some 12) (.int .i64 n1) rfl rfl (by kernel_rfl) (by kernel_rfl) (by kernel_rfl) (fun _ _ _ h => h) (Or.inl ⟨by rfl, fun w' hw' => by go_simp⟩) hS1 ?_
            simp only [Act.put, List.setIfInBounds_toArray, List.set_cons_zero, List.set_cons_succ]
            refine held_take 11 (some 13) (.bool b1) rfl rfl (by kernel_rfl) (by kernel_rfl) (by kernel_rfl) (fun _ _ _ h => h) (Or.inl ⟨by rfl, fun w' hw' => by go_simp⟩) hS1 ?_
            simp only [Act.put, List.setIfInBounds_toArray, List.set_cons_zero, List.set_cons_succ]
            refine wpAnyH_done (by kernel_rfl) ?_ _
            refine NoPanic.normal ?_
            have hS9 := hS1
            clear hS1
            generalize w102 = w11 at *
            have HS9 := hid hS9
            have hc9 := HD.out _ (HB2.out.trans hS9)
            clear hS9 HWT
            go_wp2_with fail
            refine (HRW.out _ HS9.out).mono ?_
            rintro z w12 ⟨rfl, k12⟩
            have K12 := hid (HS9.out.trans k12)
            have HR12 : Hid (w12.rangeAt b 0 (vc L2)) := range_keep HRV2.out K12.out (by simp)
            clear k12 HRW
            go_wp2_with (first
              | (refine wpList_load_mid rfl vT _ rfl b 0 rfl (vc L2) _ HR12.out Try.underlying25 rfl (iVec _) ?_))
            refine (HAL.out _).mono ?_
            rintro z w13 ⟨v13, rfl, hq13, k13⟩
            obtain ⟨A13, c13, rfl, -, hli13⟩ := que_li hq13
            have K13 := hid (K12.out.trans k13)
            have HL13 := hid hli13
            have HI13 := hid (HX2.out.li.keep K13.out)
            clear hq13 k13 hli13 HAL
            go_wp2_with fail
            refine (ints_c A13 A2 m2 c13 c3 L2 _ HM2.out (by omega) HL13.out HI13.out).mono ?_
            rintro z w14 ⟨rfl, k14⟩
            have K14 := hid (K13.out.trans k14)
            have HR14 : Hid (w14.rangeAt b 0 (vc L2)) := range_keep HRV2.out K14.out (by simp)
            clear k14 HR12
            go_wp2_with (first
              | (refine wpList_load_mid_g vT _ rfl b 0 rfl (vc L2) _ HR14.out Try.underlying25 rfl (iVec _) rfl ?_))
            refine (HLC.out _).mono ?_
            rintro z w15 ⟨rfl, k15⟩
            have K15 := hid (K14.out.trans k15)
            have HV15 := hid (HV2.out.keep0 K15.out)
            have HX15 := hid (HX2.out.keep K15.out (by simp))
            have HB15 := hid (HB2.out.trans K15.out)
            clear k15
            rcases HCS.out with ⟨e1, e2, e3⟩ | ⟨j, e1, e2, e3, hj32⟩
            · subst e1; subst e2; subst e3
              clear HCS
              go_wp2
              go_roundg (61 - (i + 1))
              case measure => omega
              case rel => exact ⟨i + 1, by omega, by omega, by omega, by go_num, L2, A2, m2, c3, rfl, HM2.out, HC2.out, HV15.out, HO2.out, HX15.out, HB15.out⟩
            · subst e1; subst e2; subst e3
              have hj0 : decide ((0 : Int) ≤ (j : Int)) = true := decide_eq_true (by omega)
              clear HCS
              go_wp2
              go_roundg (61 - (i + 1))
              case measure => omega
              case rel => exact ⟨i + 1, by omega, by omega, by omega, by go_num, L2, A2, m2, c3, rfl, HM2.out, HC2.out, HV15.out, HO2.out, HX15.out, HB15.out⟩
        · obtain rfl : i = 60 := by omega
          have h60' : ((60 : Nat) : Int) = 60 := rfl
          go_wp2_with fail
          refine (HAW.out _).mono ?_
          rintro z w9 ⟨rfl, k9⟩
          have K9 := hid (HB.out.trans k9)
          clear k9
          go_wp2
          go_ret
          exact ⟨rfl, K9.out⟩
      · obtain rfl : i = n2 := by omega
        go_wp2_with fail
        refine (HAW.out _).mono ?_
        rintro z w9 ⟨rfl, k9⟩
        have K9 := hid (HB.out.trans k9)
        clear k9
        go_wp2
        go_ret
        exact ⟨rfl, K9.out⟩
end Go.Proofs.Yteenclhmdnnniaa.Vt
