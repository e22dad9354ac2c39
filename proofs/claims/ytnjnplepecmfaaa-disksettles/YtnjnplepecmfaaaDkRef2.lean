/-
  Layer 8 (disk): contracts of the document's own answers (New, Read, Crash), over the translated program.
-/
import Derived.Test.YtnjnplepecmfaaaDkRef
import Derived.Test.YtnjnplepecmfaaaDkThree
namespace Go.Proofs.Ytnjnplepecmfaaa.Dk
open Go.ChangeShapes Go.WideShapes Go.ChangeAt Go.RowKit
set_option linter.unusedVariables false
set_option maxRecDepth 20000

theorem rwL_snoc (j : Nat) : rwL (j + 1) L0 = rwL j L0 ++ dv d0 := by
  apply List.ext_getElem?
  intro i
  by_cases h1 : i < j * 64
  · rw [rwL_get _ _ _ (by omega), List.getElem?_append_left (by rw [rwL_len]; exact h1), rwL_get _ _ _ h1]
  · rw [List.getElem?_append_right (by rw [rwL_len]; omega), rwL_len]
    by_cases h2 : i < (j + 1) * 64
    · rw [rwL_get _ _ _ h2, dv_get _ _ (by omega)]
      rfl
    · rw [List.getElem?_eq_none (by rw [rwL_len]; omega), List.getElem?_eq_none (by rw [dv_len]; omega)]
theorem rwL_zero : rwL 0 L0 = [] := List.eq_nil_of_length_eq_zero (by rw [rwL_len])
set_option maxHeartbeats 1000000 in
theorem rnew_c (n : Nat) (w : World) (h0 : 0 < n) (h1 : n ≤ 512) :
    Calls Try.prog 9 #[.int .i64 n] w fun e w' => ∃ b bl cl, e = .returned (.pointer (some ⟨b, 0, none⟩)) ∧ DkAt tR w' w.heap.size b bl cl n (.slice none 0 0) L0 [] ∧ But [] w w' := by
  obtain ⟨i0, hi, hz0, hz1, hz2⟩ := info_parts infArr
  have HI : Hid (Try.prog.info? 33 = some i0) := hi
  have HZ0 : Hid (i0.zero = some (.agg (dv d0).toArray)) := hz0
  have HZ1 : Hid (i0.size = 64) := hz1
  have HZ2 : Hid (i0.bytes = 64) := hz2
  obtain ⟨g, hg⟩ : ∃ g, g = w.heap.size := ⟨_, rfl⟩
  have HG : Hid (g = w.heap.size) := hg
  have hV : VB (w.alloc (.cells #[.slice none 0 0, .slice none 0 0] 63)) w.heap.size 2 (fun j => if j = 0 then .slice none 0 0 else .slice none 0 0) := VB.new _ _ _ 2 rfl _ (fun j hj => by
    have : j = 0 ∨ j = 1 := by omega
    rcases this with rfl | rfl <;> rfl)
  have hs : (w.alloc (.cells #[.slice none 0 0, .slice none 0 0] 63)).heap.size = w.heap.size + 1 := by simp
  have hB0 : Below w.heap.size w (w.alloc (.cells #[.slice none 0 0, .slice none 0 0] 63)) := (Below.refl _ _).alloc (Nat.le_refl _) _
  have hz := zArr
  clear hi hz0 hz1 hz2
  go_enter Try.func9, Try.ntmps9
  go_wp2
  rw [← hg] at hV hs hB0 ⊢
  generalize w.alloc (.cells #[.slice none 0 0, .slice none 0 0] 63) = w1 at hV hs hB0 ⊢
  clear hg
  go_loopg [4] n (fun g0 i wx => ∃ (j : Nat) (u : Value), j + g0 = n ∧ i = .int .i64 j ∧ Hid (VB wx g 2 (fun q => if q = 0 then u else .slice none 0 0)) ∧ Hid (wx.ownsRow (g + 1) 33 64 u j (rwL j L0)) ∧ Hid (Below g w wx))
  case atStart => exact ⟨0, _, by omega, rfl, hV, by show World.ownsRow _ _ _ _ _ _ _; rw [rwL_zero]; exact World.ownsRow_nil w1 (g + 1) _ 64, hB0⟩
  case round =>
    obtain ⟨j, u, hjg, rfl, HV, HO, HB⟩ := hrel
    have hgl : g < wr.heap.size := HV.out.lt (by omega)
    by_cases hlt : j < n
    · obtain ⟨hc, hf⟩ := HV.out 0 (by omega)
      have hcu : wr.cell? ⟨g, 0, none⟩ = some u := hc
      have HO1 : Hid ((wr.alloc (.cells (dv d0).toArray 33)).ownsRow (g + 1) 33 64 u j (rwL j L0)) := own_keep HO.out ((But.refl [] wr).alloc _) (by simp)
      have HNW : Hid (∀ q v, (dv d0)[q]? = some v → (wr.alloc (.cells (dv d0).toArray 33)).cell? ((⟨wr.heap.size, 0, none⟩ : Addr).add q) = some v) := fun q v hv => by rw [Addr.add_mid]; exact new_range _ _ _ q v hv
      clear hc
      go_wp2_with (first
        | (refine wpList_lit1 rfl 60 33 _ rfl (dv d0) rfl (lArr _) ?_)
        | (at_builtin; refine wpList_append_lies _ rfl _ _ 60 rfl (g + 1) 33 i0 (.agg (dv d0).toArray) 64 64 Try.underlying60 HI.out HZ0.out HZ1.out HZ2.out ?c0 (by decide) _ _ _ rfl HO1.out ⟨wr.heap.size, 0, none⟩ 1 1 (dv d0) rfl (dv_len d0) HNW.out (dv_one _) (by decide) ?c3 ?c4 ?c5 _ rfl ?_))
      case c0 => simp [Value.cells, dv_len]
      case c3 => unfold maxLen; omega
      case c4 => omega
      case c5 => simp; omega
      intro g2 cap2 w2 hown hgrow hat hlt2
      have HO2 : Hid (w2.ownsRow (g + 1) 33 64 (.slice (some ⟨g2, 0, none⟩) (j + 1) cap2) (j + 1) (rwL (j + 1) L0)) := by
        show World.ownsRow _ _ _ _ _ _ _
        rw [rwL_snoc]
        exact hown
      have hgr : But u.ownBlock.toList wr w2 := ((But.refl _ wr).alloc _).trans (But.of_grown hgrow)
      have hnu : g ∉ u.ownBlock.toList := fun hm => by
        have := (own_lt HO.out (g := g) (by simpa using hm)).1
        omega
      have HV2 : Hid (VB w2 g 2 (fun q => if q = 0 then u else .slice none 0 0)) := HV.out.keep hgr hnu
      have HB2 : Hid (Below g w w2) := HB.out.trans (hgr.below (by omega) (fun k hm => by have := (own_lt HO.out (g := k) (by simpa using hm)).1; omega))
      obtain ⟨hc2, hf2⟩ := HV2.out 0 (by omega)
      have hcu2 : w2.cell? ⟨g, 0, none⟩ = some u := hc2
      clear hown hgrow hat hlt2 hgr hnu hc2
      go_wp2
      go_roundg (n - (j + 1))
      case measure => omega
      case rel =>
        refine ⟨j + 1, .slice (some ⟨g2, 0, none⟩) (j + 1) cap2, by omega, by go_num, ?_, ?_, ?_⟩
        · refine VB.congr (HV2.out.set (k := 0) (.slice (some ⟨g2, 0, none⟩) (j + 1) cap2)) (fun i hi => ?_)
          have : i = 0 ∨ i = 1 := by omega
          rcases this with rfl | rfl <;> rfl
        · exact own_keep HO2.out ((But.refl [g] w2).setCell (by simp) _) (fun k e => by have := (own_lt HO2.out e).1; simp; omega)
        · exact HB2.out.setCell (p := ⟨g, 0, none⟩) (Nat.le_refl _) _
    · obtain rfl : j = n := by omega
      obtain ⟨bl, cap, rfl, hbl, hbll, hvb⟩ := own_vb HO.out h0
      have HVB : Hid (VB wr bl (64 * j) (rwF L0)) := hvb
      clear hvb
      go_wp2
      go_ret
      refine ⟨g, bl, cap, rfl, ⟨by have := HG.out; omega, by have := HG.out; omega, by omega, ?_, HVB.out, own_nil _ _ _, fun q e => (by cases e), fun p hp => (by cases hp), h0, h1⟩, But.of_below (by have := HB.out; rw [HG.out] at this; exact this)⟩
      exact HV.out
section
variable {lo b bl cl n : Nat} {v : Value} {L : Nat → Dat} {W : List Wr} {w : World}
set_option maxHeartbeats 1000000 in
theorem rread_c (k : Nat) (h : DkAt tR w lo b bl cl n v L W) (hk : k < n) (hW : W.length ≤ 1000) :
    Calls Try.prog 26 #[.pointer (some ⟨b, 0, none⟩), .int .i64 k] w fun e w' => e = .returned (.agg (dv (setAll L W k)).toArray) ∧ But [] w w' := by
  obtain ⟨A, c, hv, -, -, h3, h4⟩ := h.ws
  obtain ⟨m, hm⟩ : ∃ m, m = W.length := ⟨_, rfl⟩
  have HM : Hid (m = W.length) := hm
  rw [← hm] at hv
  subst hv
  rw [← hm] at hW
  have H : Hid (DkAt tR w lo b bl cl n (.slice A m c) L W) := h
  have HK : Hid (Ws w lo A W) := h3
  have HKN : Hid (k < n) := hk
  have hmost := h.most
  obtain ⟨g, hg⟩ : ∃ g, g = w.heap.size := ⟨_, rfl⟩
  have HG : Hid (g = w.heap.size) := hg
  have HBG : Hid (b < g) := by show b < g; rw [hg]; exact h.lt fp_b
  have hz := zArr
  have hT : ((w.alloc (.cells (dv d0).toArray 33)).alloc (.cells (dv d0).toArray 33)).there w.heap.size 0 64 := by
    have h0 := there_new w (dv d0).toArray 33 64 (dvs d0)
    exact fun j hj => ⟨by rw [((But.refl [] _).alloc _).cell (p := ⟨w.heap.size, 0 + j, none⟩) (by show _ < _; simp) (by simp)]; exact (h0 j hj).1, by rw [((But.refl [] _).alloc _).frozen (p := ⟨w.heap.size, 0 + j, none⟩) (by show _ < _; simp) (by simp)]; exact (h0 j hj).2⟩
  have hT1 : ((w.alloc (.cells (dv d0).toArray 33)).alloc (.cells (dv d0).toArray 33)).there (w.heap.size + 1) 0 64 := by
    have h0 := there_new (w.alloc (.cells (dv d0).toArray 33)) (dv d0).toArray 33 64 (dvs d0)
    rwa [show (w.alloc (.cells (dv d0).toArray 33)).heap.size = w.heap.size + 1 by simp] at h0
  have hB0 : But [] w ((w.alloc (.cells (dv d0).toArray 33)).alloc (.cells (dv d0).toArray 33)) := ((But.refl [] w).alloc _).alloc _
  clear h h3 h4 hm hk
  go_enter Try.func26, Try.ntmps26
  go_upto_region 2 with (refine wpList_store_newAt rfl 33 _ _ rfl (w.heap.size + 1) (by simp) (dv d0).toArray (dv d0).toArray rfl rfl (iArr' _) rfl (dv_all _) ?_)
  rw [← hg] at hT hT1 ⊢
  generalize (w.alloc (.cells (dv d0).toArray 33)).alloc (.cells (dv d0).toArray 33) = w1 at hT hT1 hB0 ⊢
  have HT : Hid (w1.there g 0 64) := hT
  have HT1 : Hid (w1.there (g + 1) 0 64) := hT1
  have HB0 : Hid (But [] w w1) := hB0
  clear hg hT hT1 hB0
  go_wp2_with fail
  refine (rin_c k (H.out.keep0 HB0.out)).mono ?_
  rintro e w2 ⟨rfl, rfl⟩
  rw [inB_yes HKN.out]
  have hc0 := (H.out.keep0 HB0.out).c0
  have HRL : Hid (w1.rangeAt bl (k * 64) (dv (L k))) := (H.out.keep0 HB0.out).row HKN.out
  have HTS : Hid (w1.there (g + 1) 0 (dv (L k)).toArray.size) := by show World.there _ _ _ _; rw [dvs]; exact HT1.out
  have hk1 : (k : Int) < (n : Int) := by have := HKN.out; omega
  go_wp2_with (first
    | (refine wpList_load_mid rfl 33 _ rfl bl (k * 64) rfl (dv (L k)) _ HRL.out Try.underlying33 rfl (iArr _) ?_)
    | (refine wpList_store_mid rfl 33 _ _ rfl (g + 1) 0 (dv (L k)).toArray rfl rfl ?ht (iArr' _) (dv_all _) ?_; case ht => exact HTS.out))
  clear hc0
  go_loopg [6] m (fun g0 i wx => ∃ j : Nat, j + g0 = m ∧ i = .int .i64 j ∧ Hid (wx.rangeAt (g + 1) 0 (dv (setAll L (W.take j) k))) ∧ Hid (wx.there g 0 64 ∧ wx.there (g + 1) 0 64) ∧ Hid (Below g w wx))
  case atStart =>
    refine ⟨0, by omega, rfl, World.rangeAt_setCells_same _ _ _ _ (by rw [dv_len]; exact HT1.out), ⟨World.there_setCells HT.out _ _ _, World.there_setCells HT1.out _ _ _⟩, ?_⟩
    exact (HB0.out.below (B := g) (by have := HG.out; omega) (by simp)).trans (((But.refl [g + 1] w1).setCells (by simp) _ _).below (by have := HB0.out.size; have := HG.out; omega) (by simp))
  case round =>
    obtain ⟨j, hjg, rfl, HR, HTT, HB⟩ := hrel
    have hc1 := (HB.out.cell (p := ⟨b, 1, none⟩) HBG.out).trans H.out.c1
    by_cases hlt : j < m
    · have hjK : j < W.length := by have := HM.out; omega
      obtain ⟨gw, hAg, -, hgl, hrows⟩ := HK.out.at_ hjK
      have hr0 : wr.rangeAt gw (j * 65) (wv (W.getD j w0)) := fun q u hu => (HB.out.cell (p := ⟨gw, j * 65 + q, none⟩) (by show gw < g; have := HG.out; omega)).trans (hrows j hjK q u hu)
      rcases hp : W.getD j w0 with ⟨pk, px⟩
      rw [hp] at hr0
      obtain ⟨hcp, hrp⟩ := wv_parts hr0
      have HT2 : Hid (W.take (j + 1) = W.take j ++ [(pk, px)]) := by show _ = _; rw [take_snoc W j hjK, hp]
      have HRP : Hid (wr.rangeAt gw (j * 65 + 1) (dv px)) := hrp
      subst hAg
      have hjm' : (j : Int) < (m : Int) := by omega
      clear hrows hr0 hrp hp hgl
      by_cases hpk : pk = k
      · have hpk' : (pk : Int) = (k : Int) := by omega
        have HTS2 : Hid (wr.there (g + 1) 0 (dv px).toArray.size) := by show World.there _ _ _ _; rw [dvs]; exact HTT.out.2
        have HS : Hid (setAll L (W.take (j + 1)) k = px) := by show _ = _; rw [HT2.out, setAll_snoc]; simp [upd, hpk]
        go_wp2_with (first
          | (refine wpList_load_mid rfl 33 _ rfl gw (j * 65 + 1) rfl (dv px) _ HRP.out Try.underlying33 rfl (iArr _) ?_)
          | (refine wpList_store_mid rfl 33 _ _ rfl (g + 1) 0 (dv px).toArray rfl rfl ?ht (iArr' _) (dv_all _) ?_; case ht => exact HTS2.out))
        go_roundg (m - (j + 1))
        case measure => omega
        case rel =>
          refine ⟨j + 1, by omega, by go_num, ?_, ⟨World.there_setCells HTT.out.1 _ _ _, World.there_setCells HTT.out.2 _ _ _⟩, ?_⟩
          · show World.rangeAt _ _ _ _
            rw [HS.out]
            exact World.rangeAt_setCells_same _ _ _ _ (by rw [dv_len]; exact HTT.out.2)
          · exact HB.out.trans (((But.refl [g + 1] wr).setCells (by simp) _ _).below (by have := HB.out.size; have := HG.out; omega) (by simp))
      · have hpk' : ¬ (pk : Int) = (k : Int) := by omega
        have HS : Hid (setAll L (W.take (j + 1)) k = setAll L (W.take j) k) := by
          show _ = _
          rw [HT2.out, setAll_snoc]
          simp only [upd]
          rw [if_neg (fun e => hpk e.symm)]
        go_wp2
        go_roundg (m - (j + 1))
        case measure => omega
        case rel => exact ⟨j + 1, by omega, by go_num, by show World.rangeAt _ _ _ _; rw [HS.out]; exact HR.out, HTT, HB⟩
    · obtain rfl : j = m := by omega
      have HR2 : Hid (wr.rangeAt (g + 1) 0 (dv (setAll L W k))) := by
        have := HR.out
        rwa [List.take_of_length_le (by have := HM.out; omega)] at this
      have HTS2 : Hid (wr.there g 0 (dv (setAll L W k)).toArray.size) := by show World.there _ _ _ _; rw [dvs]; exact HTT.out.1
      clear HR
      go_wp2_with (first
        | (refine wpList_load_mid rfl 33 _ rfl (g + 1) 0 rfl (dv (setAll L W k)) _ HR2.out Try.underlying33 rfl (iArr _) ?_)
        | (refine wpList_store_mid rfl 33 _ _ rfl g 0 (dv (setAll L W k)).toArray rfl rfl ?ht (iArr' _) (dv_all _) ?_; case ht => exact HTS2.out))
      refine bodyPost_ret (results_range1 rfl _ _ g 0 (dv (setAll L W k)) _ rfl (World.rangeAt_setCells_same _ _ _ _ (by rw [dv_len]; exact HTT.out.1)) Try.underlying33 rfl (iArr _)) rfl ?_
      refine ⟨rfl, ?_⟩
      have hb := HB.out
      rw [HG.out] at hb ⊢
      exact (But.of_below hb).setCells (.inr (Nat.le_refl _)) _ _
set_option maxHeartbeats 2000000 in
theorem rcrash_all  (h : DkAt tR w lo b bl cl n v L W) (hW : W.length ≤ 1000) :
    Calls Try.prog 25 #[.pointer (some ⟨b, 0, none⟩), .slice none 0 0, .bool true] w fun e w' =>
      e = .returned (.int .i64 (kp (fun _ => true) W).length) ∧ DkAt tR w' lo b bl cl n (.slice none 0 0) (setAll L (kp (fun _ => true) W)) [] ∧ But [b, bl] w w' := by
  obtain ⟨A, c, hv, -, -, h3, h4⟩ := h.ws
  obtain ⟨m, hm⟩ : ∃ m, m = W.length := ⟨_, rfl⟩
  obtain ⟨f, hf⟩ : ∃ f : Nat → Bool, f = fun _ => true := ⟨_, rfl⟩
  have HM : Hid (m = W.length) := hm
  rw [← hm] at hv
  subst hv
  rw [← hm] at hW
  rw [← hf]
  have HF : Hid (∀ j, f j = true) := fun j => by rw [hf]
  clear hf
  have H : Hid (DkAt tR w lo b bl cl n (.slice A m c) L W) := h
  have HK : Hid (Ws w lo A W) := h3
  have HVN : Hid (∀ g, A = some ⟨g, 0, none⟩ → g ≠ b ∧ g ≠ bl) := fun g e => h.vne g (h4 g e)
  have hmost := h.most
  clear h h3 h4 hm
  go_enter Try.func25, Try.ntmps25
  go_wp2
  go_loopg [7, 8] m (fun g0 cn i wx => ∃ j : Nat, j + g0 = m ∧ i = .int .i64 j ∧ cn = .int .i64 ((kp f (W.take j)).length : Nat) ∧ Hid (DkAt tR wx lo b bl cl n (.slice A m c) (setAll L (kp f (W.take j))) W) ∧ Hid (But [bl] w wx))
  case atStart => exact ⟨0, by omega, rfl, rfl, H, But.refl _ _⟩
  case round =>
    obtain ⟨j, hjg, rfl, rfl, HD, HB⟩ := hrel
    have hc1 := HD.out.c1
    by_cases hlt : j < m
    · have hjK : j < W.length := by have := HM.out; omega
      obtain ⟨gw, hAg, -, hgl, hrows⟩ := HK.out.at_ hjK
      have hgb := HVN.out gw hAg
      have hr0 := range_keep (hrows j hjK) HB.out (by simpa using hgb.2)
      rcases hp : W.getD j w0 with ⟨pk, px⟩
      rw [hp] at hr0
      have hpk : pk < n := by have := H.out.inn _ (getD_mem hjK); rw [hp] at this; exact this
      obtain ⟨hcp, hrp⟩ := wv_parts hr0
      have HT : Hid (kp f (W.take (j + 1)) = kp f (W.take j) ++ if f j then [(pk, px)] else []) := by show _ = _; rw [kp_take f W j hjK, hp]
      have HRP : Hid (wr.rangeAt gw (j * 65 + 1) (dv px)) := hrp
      have HKL : Hid ((kp f (W.take j)).length ≤ 1000) := Nat.le_trans (kp_le _ _) (by rw [List.length_take]; omega)
      have hkl := HKL.out
      subst hAg
      have hjm' : (j : Int) < (m : Int) := by omega
      have hpk' : (pk : Int) < (n : Int) := by omega
      have hc0 := HD.out.c0
      obtain ⟨cnt, hcnt⟩ : ∃ cnt, cnt = (kp f (W.take j)).length := ⟨_, rfl⟩
      rw [← hcnt] at hkl ⊢
      have HCN : Hid (cnt = (kp f (W.take j)).length) := hcnt
      clear hrows hr0 hrp hp hgl hcnt
      have hfj : f j = true := HF.out j
      have HT1 : Hid (kp f (W.take (j + 1)) = kp f (W.take j) ++ [(pk, px)]) := by show _ = _; rw [HT.out, if_pos hfj]
      clear hfj HT
      go_upto_region 6 with fail
      refine wp_region_still_tail 21 (by kernel_rfl) (by kernel_rfl) ?_
      simp only [List.take_succ_cons, List.take_zero, List.drop_succ_cons, List.drop_zero]
      repeat (first | (refine wpStill_load_mid rfl 33 _ rfl gw (j * 65 + 1) rfl (dv px) _ HRP.out Try.underlying33 rfl (iArr _) ?_) | still_step)
      refine wpStill_nil ?_
      change wpList _ _ _ _ _ wr.drew
      have HD2 : Hid (DkAt tR wr.drew lo b bl cl n (.slice (some ⟨gw, 0, none⟩) m c) (setAll L (kp f (W.take j))) W) := HD.out.keep0 (But.refl [] wr).drew
      have HTH : Hid (wr.drew.there bl (pk * 64) (dv px).toArray.size) := by show World.there _ _ _ _; rw [dvs]; exact HD2.out.there hpk
      go_wp2_with (refine wpList_store_mid rfl 33 _ _ rfl bl (pk * 64) (dv px).toArray rfl rfl ?ht (iArr' _) (dv_all _) ?_; case ht => exact HTH.out)
      go_roundg (m - (j + 1))
      case measure => omega
      case rel =>
        refine ⟨j + 1, by omega, by go_num, ?_, ?_, HB.out.drew.setCells (.inl (by simp)) _ _⟩
        · rw [HT1.out, List.length_append, ← HCN.out]
          go_num
        · show DkAt _ _ _ _ _ _ _ _ _ _
          rw [HT1.out, setAll_snoc]
          exact HD2.out.put hpk px
    · obtain rfl : j = m := by omega
      have hf1 := HD.out.f1
      have HE : Hid (kp f (W.take j) = kp f W) := by show _ = _; rw [List.take_of_length_le (by have := HM.out; omega)]
      go_wp2
      go_ret
      refine ⟨by rw [← HE.out]; rfl, ?_, (HB.out.wider (by simp)).setCell (.inl (by simp)) _⟩
      rw [← HE.out]
      exact HD.out.turn (own_nil _ _ _) (fun g e => by cases e) (fun p hp => by cases hp)
set_option maxHeartbeats 2000000 in
theorem rcrash_c (A0 : Option Addr) (c0 : Nat) (ks : List Bool) (h : DkAt tR w lo b bl cl n v L W) (hW : W.length ≤ 1000) (hks : Bl w A0 ks) (hkl : ks.length ≤ maxLen) (hnb : ∀ g off, A0 = some ⟨g, off, none⟩ → ks ≠ [] → g ≠ bl) :
    Calls Try.prog 25 #[.pointer (some ⟨b, 0, none⟩), .slice A0 ks.length c0, .bool false] w fun e w' =>
      e = .returned (.int .i64 (kp (fun j => ks.getD j false) W).length) ∧ DkAt tR w' lo b bl cl n (.slice none 0 0) (setAll L (kp (fun j => ks.getD j false) W)) [] ∧ But [b, bl] w w' := by
  obtain ⟨A, c, hv, -, -, h3, h4⟩ := h.ws
  obtain ⟨m, hm⟩ : ∃ m, m = W.length := ⟨_, rfl⟩
  obtain ⟨f, hf⟩ : ∃ f : Nat → Bool, f = fun j => ks.getD j false := ⟨_, rfl⟩
  have HM : Hid (m = W.length) := hm
  rw [← hm] at hv
  subst hv
  rw [← hm] at hW
  rw [← hf]
  obtain ⟨mk, hmk⟩ : ∃ mk, mk = ks.length := ⟨_, rfl⟩
  rw [← hmk] at hkl ⊢
  unfold maxLen at hkl
  have HF : Hid (∀ j, f j = ks.getD j false) := fun j => by rw [hf]
  have HMK : Hid (mk = ks.length) := hmk
  have HBS : Hid (Bl w A0 ks) := hks
  have HBL : Hid (∀ g off, A0 = some ⟨g, off, none⟩ → ks ≠ [] → g ≠ bl) := hnb
  clear hf hmk hks hnb
  have H : Hid (DkAt tR w lo b bl cl n (.slice A m c) L W) := h
  have HK : Hid (Ws w lo A W) := h3
  have HVN : Hid (∀ g, A = some ⟨g, 0, none⟩ → g ≠ b ∧ g ≠ bl) := fun g e => h.vne g (h4 g e)
  have hmost := h.most
  clear h h3 h4 hm
  go_enter Try.func25, Try.ntmps25
  go_wp2
  go_loopg [7, 8] m (fun g0 cn i wx => ∃ j : Nat, j + g0 = m ∧ i = .int .i64 j ∧ cn = .int .i64 ((kp f (W.take j)).length : Nat) ∧ Hid (DkAt tR wx lo b bl cl n (.slice A m c) (setAll L (kp f (W.take j))) W) ∧ Hid (But [bl] w wx))
  case atStart => exact ⟨0, by omega, rfl, rfl, H, But.refl _ _⟩
  case round =>
    obtain ⟨j, hjg, rfl, rfl, HD, HB⟩ := hrel
    have hc1 := HD.out.c1
    by_cases hlt : j < m
    · have hjK : j < W.length := by have := HM.out; omega
      obtain ⟨gw, hAg, -, hgl, hrows⟩ := HK.out.at_ hjK
      have hgb := HVN.out gw hAg
      have hr0 := range_keep (hrows j hjK) HB.out (by simpa using hgb.2)
      rcases hp : W.getD j w0 with ⟨pk, px⟩
      rw [hp] at hr0
      have hpk : pk < n := by have := H.out.inn _ (getD_mem hjK); rw [hp] at this; exact this
      obtain ⟨hcp, hrp⟩ := wv_parts hr0
      have HT : Hid (kp f (W.take (j + 1)) = kp f (W.take j) ++ if f j then [(pk, px)] else []) := by show _ = _; rw [kp_take f W j hjK, hp]
      have HRP : Hid (wr.rangeAt gw (j * 65 + 1) (dv px)) := hrp
      have HKL : Hid ((kp f (W.take j)).length ≤ 1000) := Nat.le_trans (kp_le _ _) (by rw [List.length_take]; omega)
      have hkl := HKL.out
      subst hAg
      have hjm' : (j : Int) < (m : Int) := by omega
      have hpk' : (pk : Int) < (n : Int) := by omega
      have hc0 := HD.out.c0
      obtain ⟨cnt, hcnt⟩ : ∃ cnt, cnt = (kp f (W.take j)).length := ⟨_, rfl⟩
      rw [← hcnt] at hkl ⊢
      have HCN : Hid (cnt = (kp f (W.take j)).length) := hcnt
      clear hrows hr0 hrp hp hgl hcnt
      have hll := hlt
      by_cases hjk : j < mk
      · obtain ⟨gk, ok, hA0, hgk, hcells⟩ : ∃ g off, A0 = some ⟨g, off, none⟩ ∧ g < w.heap.size ∧ ∀ j, j < ks.length → w.cell? ⟨g, off + j, none⟩ = some (.bool (ks.getD j false)) := by
          rcases HBS.out with h | h
          · have := HMK.out; rw [h] at this; simp at this; omega
          · exact h
        have hgn := HBL.out gk ok hA0 (fun e => by have := HMK.out; rw [e] at this; simp at this; omega)
        subst hA0
        have hck := cell_keep (hcells j (by have := HMK.out; omega)) HB.out (by simpa using hgn)
        rw [← HF.out j] at hck
        clear hcells
        have hjk' : (j : Int) < (mk : Int) := by omega
        cases hfj : f j with
        | true =>
          rw [hfj] at hck
          have HT1 : Hid (kp f (W.take (j + 1)) = kp f (W.take j) ++ [(pk, px)]) := by show _ = _; rw [HT.out, if_pos hfj]
          clear hfj HT
          go_upto_region 6 with fail
          refine wp_region_still_tail 21 (by kernel_rfl) (by kernel_rfl) ?_
          simp only [List.take_succ_cons, List.take_zero, List.drop_succ_cons, List.drop_zero]
          repeat (first | (refine wpStill_load_mid rfl 33 _ rfl gw (j * 65 + 1) rfl (dv px) _ HRP.out Try.underlying33 rfl (iArr _) ?_) | still_step)
          refine wpStill_nil ?_
          change wpList _ _ _ _ _ wr.drew
          have HD2 : Hid (DkAt tR wr.drew lo b bl cl n (.slice (some ⟨gw, 0, none⟩) m c) (setAll L (kp f (W.take j))) W) := HD.out.keep0 (But.refl [] wr).drew
          have HTH : Hid (wr.drew.there bl (pk * 64) (dv px).toArray.size) := by show World.there _ _ _ _; rw [dvs]; exact HD2.out.there hpk
          go_wp2_with (refine wpList_store_mid rfl 33 _ _ rfl bl (pk * 64) (dv px).toArray rfl rfl ?ht (iArr' _) (dv_all _) ?_; case ht => exact HTH.out)
          go_roundg (m - (j + 1))
          case measure => omega
          case rel =>
            refine ⟨j + 1, by omega, by go_num, ?_, ?_, HB.out.drew.setCells (.inl (by simp)) _ _⟩
            · rw [HT1.out, List.length_append, ← HCN.out]
              go_num
            · show DkAt _ _ _ _ _ _ _ _ _ _
              rw [HT1.out, setAll_snoc]
              exact HD2.out.put hpk px
        | false =>
          rw [hfj] at hck
          have HT1 : Hid (kp f (W.take (j + 1)) = kp f (W.take j)) := by show _ = _; rw [HT.out, hfj]; simp
          clear hfj HT
          go_wp2
          go_roundg (m - (j + 1))
          case measure => omega
          case rel => exact ⟨j + 1, by omega, by go_num, by rw [HT1.out, ← HCN.out], by show DkAt _ _ _ _ _ _ _ _ _ _; rw [HT1.out]; exact HD.out, HB⟩
      · have hfj : f j = false := by rw [HF.out j, List.getD_eq_getElem?_getD, List.getElem?_eq_none (by have := HMK.out; omega)]; rfl
        have HT1 : Hid (kp f (W.take (j + 1)) = kp f (W.take j)) := by show _ = _; rw [HT.out, hfj]; simp
        clear hfj HT
        have hjk' : decide ((j : Int) < (mk : Int)) = false := decide_eq_false (by omega)
        go_wp2
        go_roundg (m - (j + 1))
        case measure => omega
        case rel => exact ⟨j + 1, by omega, by go_num, by rw [HT1.out, ← HCN.out], by show DkAt _ _ _ _ _ _ _ _ _ _; rw [HT1.out]; exact HD.out, HB⟩
    · obtain rfl : j = m := by omega
      have hf1 := HD.out.f1
      have HE : Hid (kp f (W.take j) = kp f W) := by show _ = _; rw [List.take_of_length_le (by have := HM.out; omega)]
      go_wp2
      go_ret
      refine ⟨by rw [← HE.out]; rfl, ?_, (HB.out.wider (by simp)).setCell (.inl (by simp)) _⟩
      rw [← HE.out]
      exact HD.out.turn (own_nil _ _ _) (fun g e => by cases e) (fun p hp => by cases hp)
end
end Go.Proofs.Ytnjnplepecmfaaa.Dk
