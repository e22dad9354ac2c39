/-
  Layer 11 (names): contracts of the document's Add and Drop, over the translated program.
-/
import Derived.Test.YtfjkbfcfceckgaaNmTn
namespace Go.Proofs.Ytfjkbfcfceckgaa.Nm
open Go.ChangeShapes Go.WideShapes Go.ChangeAt Go.RowKit
open Wh Sn
set_option linter.unusedVariables false
set_option maxRecDepth 20000

/-- What a call that tells a list and a number ends in. -/
def Added (w : World) (lo n : Nat) (T : Tf) (k : Value) (e : Ending) (w' : World) : Prop := ∃ A c, e = .returned (.tuple #[.slice A n c, k]) ∧ Dl w' lo A n T ∧ But [] w w'
set_option maxHeartbeats 2000000 in
theorem radd_lo (A : Option Addr) (n c lo : Nat) (T : Tf) (v : Int) (w : World) (h : Dl w lo A n T) (h0 : v < 0) :
    Calls Try.prog 10 #[.slice A n c, .int .i64 v] w (Added w lo n T (.int .i64 (-1))) := by
  have H := hid h
  clear h
  go_enter Try.func10, Try.ntmps10
  go_wp2
  go_ret2
  exact ⟨A, c, rfl, H.out, But.refl _ _⟩
set_option maxHeartbeats 2000000 in
theorem radd_hi (A : Option Addr) (n c lo : Nat) (T : Tf) (v : Int) (w : World) (h : Dl w lo A n T) (h0 : 0 ≤ v) (h5 : 1023 < v) :
    Calls Try.prog 10 #[.slice A n c, .int .i64 v] w (Added w lo n T (.int .i64 (-1))) := by
  have H := hid h
  clear h
  go_enter Try.func10, Try.ntmps10
  go_wp2
  go_ret2
  exact ⟨A, c, rfl, H.out, But.refl _ _⟩
set_option maxHeartbeats 2000000 in
theorem radd_there (A : Option Addr) (n c lo : Nat) (T : Tf) (v : Int) (w : World) (h : Dl w lo A n T) (hn : n ≤ 512) (h0 : 0 ≤ v) (h5 : v ≤ 1023) (hf : 0 ≤ rf T n v) :
    Calls Try.prog 10 #[.slice A n c, .int .i64 v] w (Added w lo n T (.int .i64 (-1))) := by
  have H := hid h
  have HF := hid hf
  clear h hf
  go_enter Try.func10, Try.ntmps10
  go_wp2_with fail
  refine (rfind_c A n c lo T v _ H.out hn).mono ?_
  rintro e w1 ⟨rfl, k1⟩
  have hf := HF.out
  have K1 := hid k1
  generalize rf T n v = x at *
  clear k1
  go_wp2
  go_ret2
  exact ⟨A, c, rfl, H.out.keep0 K1.out, K1.out⟩
set_option maxHeartbeats 4000000 in
theorem radd_new (A : Option Addr) (n c lo : Nat) (T : Tf) (hT : Tn T n) (v : Int) (w : World) (h : Dl w lo A n T) (hlo : lo ≤ w.heap.size) (h0 : 0 ≤ v) (h5 : v ≤ 1023) (hf : fnT T v < 0) :
    Calls Try.prog 10 #[.slice A n c, .int .i64 v] w (Added w lo (adn T n v) (adT T v) (.int .i64 (adk T v))) := by
  have H := hid h
  have HF : Hid (rf T n v < 0) := by show _ < _; rw [hT.rf_eq]; exact hf
  have hn := hT.le
  have HT := hid hT
  have HK := hid (hT.adk_yes h0 h5 hf)
  have HLO := hid hlo
  clear h hf hT hlo
  go_enter Try.func10, Try.ntmps10
  go_wp2_with fail
  refine (rfind_c A n c lo T v _ H.out hn).mono ?_
  rintro e w1 ⟨rfl, k1⟩
  have hf := HF.out
  have K1 := hid k1
  generalize rf T n v = x at *
  clear k1
  obtain ⟨v2, w2, hr2, hq2, hk2⟩ := que_copy (c := c) (H.out.keep0 K1.out) hn
  obtain ⟨A2, c2, rfl, hnc⟩ := hq2.form
  have HR2 := hid hr2
  have HQ2 := hid (show Que w2 w.heap.size 1 (.slice A2 n c2) n (cv T n) from ⟨hq2.1, hq2.2.imp id (fun ⟨g, off, cap, e, hb, r⟩ => ⟨g, off, cap, e, Nat.le_trans K1.out.size hb, r⟩)⟩)
  have HB2 := hid (K1.out.trans hk2)
  clear hr2 hq2 hk2 hnc
  go_wp2_with (first | (at_builtin; refine wpList_append_known _ rfl _ _ 29 rfl _ _ rfl rfl HR2.out ?_))
  clear hf HF
  go_loopg [7] (n + 1) (fun g0 i wx => ∃ j : Nat, j + g0 = n + 1 ∧ j ≤ n ∧ i = .int .i64 j ∧ Hid (∀ q, q < j → T q ≠ -1) ∧ Hid (But [] w2 wx))
  case atStart => exact ⟨0, by omega, by omega, rfl, fun q hq => absurd hq (Nat.not_lt_zero _), But.refl _ _⟩
  case round =>
    obtain ⟨j, hjg, hj, rfl, HN, HB⟩ := hrel
    by_cases hlt : j < n
    · have hjI : (j : Int) < n := by omega
      have hq := HQ2.out.keep0 HB.out
      obtain ⟨g, off, cap, hv, hb, hg, hnc, hrng⟩ := hq.row (by omega)
      injection hv with hv1 hv2 hv3
      subst hv1; subst hv3
      have hc := hrng j _ (cv_get T n j hlt)
      by_cases hv : T j = -1
      · rw [hv] at hc
        have hfz := que_there hq (k := j) (by rw [cv_len]; exact hlt)
        have hq3 := que_set hq j (.int .i64 v) (by rw [cv_len]; exact hlt)
        rw [cv_set] at hq3
        have HQ3 := hid hq3
        have e : Hid (adk T v = j) := by
          show adk T v = j
          rw [HK.out, lst_eq (Nat.le_of_lt hlt) HN.out (fun _ => hv), if_pos (by omega)]
        have hk3 : But [g] wr (wr.setCell ⟨g, off + j, none⟩ (.int .i64 v)) := (But.refl [g] _).setCell (by simp) _
        have HB3 := hid (but_own ((HB2.out.trans HB.out)) hk3 (fun i hi => by simp at hi; omega))
        clear hv hq hq3 hrng hk3 hb hg hnc hv2
        go_wp2
        go_ret2
        obtain ⟨A5, c5, hv5, hd5⟩ := Dl.of_que HQ3.out
        injection hv5 with h1 h2 h3
        subst h1; subst h3
        have en : adn T n v = n := by unfold adn; rw [e.out, if_pos (by omega)]
        rw [en, adT_yes e.out, e.out]
        exact ⟨_, _, rfl, hd5.wider HLO.out, HB3.out⟩
      · have hge := HT.out.ok.ge j
        have hv' : ¬ T j < 0 := by omega
        have HN1 : Hid (∀ q, q < j + 1 → T q ≠ -1) := fun q hq => by
          rcases Nat.lt_or_ge q j with h | h
          · exact HN.out q h
          · obtain rfl : q = j := by omega
            exact hv
        generalize T j = y at hc hv'
        clear hv hq hrng hb hg hnc hv2 HN hge
        go_wp2
        go_roundg (n + 1 - (j + 1))
        case measure => omega
        case rel => exact ⟨j + 1, by omega, by omega, by go_num, HN1.out, HB.out⟩
    · obtain rfl : j = n := by omega
      have el : Hid (lst T (-1) j = j) := lst_eq (Nat.le_refl _) HN.out (fun h => absurd h (Nat.lt_irrefl _))
      by_cases hfull : j = 512
      · subst hfull
        have e : Hid (adk T v = -1) := by
          show adk T v = -1
          rw [HK.out, el.out, if_neg (by omega)]
        have h64' : decide ((512 : Int) < 512) = false := by decide
        clear HN el
        go_wp2
        go_ret2
        have en : adn T 512 v = 512 := by unfold adn; rw [e.out, if_pos (by omega)]
        rw [en, adT_no (by rw [e.out]; omega), e.out]
        exact ⟨_, _, rfl, H.out.keep0 (HB2.out.trans HB.out), HB2.out.trans HB.out⟩
      · have e : Hid (adk T v = j) := by
          show adk T v = j
          rw [HK.out, el.out, if_pos (by omega)]
        have hj5 : (j : Int) < 512 := by omega
        have hq := HQ2.out.keep0 HB.out
        obtain ⟨g', off', c5, w5, hr5, hq5, hk5, ho5⟩ := que_push (P := Try.prog) 29 3 _ Try.underlying29 Nm.Try.infoInt rfl (by decide) (by decide) hq [.int .i64 v] rfl (one_int _ _) (HB2.out.trans HB.out).size (by omega)
        have HR5 : Hid ((Builtin.append_ #[29, 29] 29 #[.slice A2 j c2, .slice (some ⟨wr.heap.size, 0, none⟩) 1 1]).run Try.prog (wr.alloc (.cells #[.int .i64 v] 3)) = .ok (.slice (some ⟨g', off', none⟩) (j + 1) c5) w5) := hr5
        have HQ5 : Hid (Que w5 w.heap.size 1 (.slice (some ⟨g', off', none⟩) (j + 1) c5) (j + 1) (cv (upd T j v) (j + 1))) := by
          show Que _ _ _ _ _ _
          rw [cv_succ, show upd T j v j = v by unfold upd; rw [if_pos rfl], cv_congr (U := T) (n := j) (fun q hq => by unfold upd; rw [if_neg (by omega)])]
          exact hq5
        have HB5 := hid (but_own (HB2.out.trans HB.out) hk5 (fun i hi => (hq.lt i hi).1))
        clear HN el hq hr5 hq5 hk5 ho5 hfull
        go_wp2_with (first | (at_builtin; refine wpList_append_known _ rfl _ _ 29 rfl _ _ rfl rfl HR5.out ?_))
        go_ret2
        obtain ⟨A6, c6, hv6, hd6⟩ := Dl.of_que HQ5.out
        injection hv6 with h1 h2 h3
        subst h1; subst h3
        have en : adn T j v = j + 1 := by unfold adn; rw [e.out, if_neg (by omega)]
        rw [en, adT_yes e.out, e.out]
        exact ⟨_, _, rfl, hd6.wider HLO.out, HB5.out⟩
theorem radd_c (A : Option Addr) (n c lo : Nat) (T : Tf) (hT : Tn T n) (v : Int) (w : World) (h : Dl w lo A n T) (hlo : lo ≤ w.heap.size) :
    Calls Try.prog 10 #[.slice A n c, .int .i64 v] w (Added w lo (adn T n v) (adT T v) (.int .i64 (adk T v))) := by
  by_cases hc : 0 ≤ v ∧ v ≤ 1023 ∧ fnT T v < 0
  · exact radd_new A n c lo T hT v w h hlo hc.1 hc.2.1 hc.2.2
  · have e1 := adk_no hc
    have en : adn T n v = n := by unfold adn; rw [e1, if_pos (by omega)]
    rw [en, adT_no (by rw [e1]; omega), e1]
    by_cases h0 : v < 0
    · exact radd_lo A n c lo T v w h h0
    · by_cases h5 : 1023 < v
      · exact radd_hi A n c lo T v w h (by omega) h5
      · exact radd_there A n c lo T v w h hT.le (by omega) (by omega) (by rw [hT.rf_eq]; omega)
set_option maxHeartbeats 2000000 in
theorem rdrop_c (A : Option Addr) (n c lo : Nat) (T : Tf) (hT : Tn T n) (v : Int) (w : World) (h : Dl w lo A n T) (hlo : lo ≤ w.heap.size) :
    Calls Try.prog 12 #[.slice A n c, .int .i64 v] w (Added w lo n (drT T v) (.bool (decide (0 ≤ getT T v)))) := by
  have H := hid h
  have hn := hT.le
  have HLO := hid hlo
  have HG := hid (hT.rg_eq v)
  by_cases hg : 0 ≤ getT T v
  · have hg1 : 0 ≤ v ∧ v < n := by
      rw [← hT.rg_eq] at hg
      by_cases hx : 0 ≤ v ∧ v < n
      · exact hx
      · unfold rg at hg; rw [if_neg hx] at hg; omega
    obtain ⟨j, rfl⟩ : ∃ j : Nat, v = j := ⟨v.toNat, by omega⟩
    have hjn : j < n := by omega
    have e : drT T j = upd T j (-1) := by unfold drT; rw [if_pos hg]; rfl
    rw [e, decide_eq_true hg]
    have hjI : (j : Int) < n := by omega
    obtain ⟨v2, w2, hr2, hq2, hk2⟩ := que_copy (c := c) h hn
    obtain ⟨g, off, cap, rfl, hb, hgl, hnc, hrng⟩ := hq2.row (by omega)
    have HR2 := hid hr2
    have hfz := que_there hq2 (k := j) (by rw [cv_len]; exact hjn)
    have hq3 := que_set hq2 j (.int .i64 (-1)) (by rw [cv_len]; exact hjn)
    rw [cv_set] at hq3
    have HQ3 := hid hq3
    have hc2 := hrng j _ (cv_get T n j hjn)
    have hk3 : But [g] w2 (w2.setCell ⟨g, off + j, none⟩ (.int .i64 (-1))) := (But.refl [g] _).setCell (by simp) _
    have HB3 := hid (but_own hk2 hk3 (fun i hi => by simp at hi; omega))
    have hge : ¬ getT T (j : Int) < 0 := by omega
    generalize hX : getT T (j : Int) = x at *
    generalize T j = y at *
    clear h hlo hr2 hq2 hk2 hq3 hk3 hrng hb hgl hnc hT hg1 e hX
    go_enter Try.func12, Try.ntmps12
    go_wp2_with fail
    refine (rget_c A n c lo T j _ H.out).mono ?_
    rintro e w1 ⟨rfl, rfl⟩
    rw [HG.out]
    go_wp2_with (first | (at_builtin; refine wpList_append_known _ rfl _ _ 29 rfl _ _ rfl rfl HR2.out ?_))
    go_ret2
    obtain ⟨A5, c5, hv5, hd5⟩ := Dl.of_que HQ3.out
    injection hv5 with h1 h2 h3
    subst h1; subst h3
    exact ⟨_, _, rfl, hd5.wider HLO.out, HB3.out⟩
  · have e : drT T v = T := by unfold drT; rw [if_neg hg]
    rw [e, decide_eq_false hg]
    have hge : getT T v < 0 := by omega
    generalize hX : getT T v = x at *
    clear h hlo hT e hX hg
    go_enter Try.func12, Try.ntmps12
    go_wp2_with fail
    refine (rget_c A n c lo T v _ H.out).mono ?_
    rintro e w1 ⟨rfl, rfl⟩
    rw [HG.out]
    go_wp2
    go_ret2
    exact ⟨_, _, rfl, H.out, But.refl _ _⟩
end Go.Proofs.Ytfjkbfcfceckgaa.Nm
