/-
  Layer 17 (abort): contracts of Back, Gone, Turn and First, over the translated program.
-/
import Derived.Test.YtfopmdiepaonnaaAoMin
namespace Go.Proofs.Ytfopmdiepaonnaa.Ao
open Go.ChangeShapes Go.WideShapes Go.ChangeAt Go.RowKit
open Wh
set_option linter.unusedVariables false
set_option maxRecDepth 20000

theorem que_apart {w : World} {base size n b : Nat} {v : Value} {xs : List Value} (h : Que w base size v n xs) (hb : b < base) : ∀ x ∈ v.ownBlock.toList, x ∉ [b] := fun x hx hx2 => by
  have := h.lt x hx
  simp at hx2
  omega
/-- A list by value that is boxed, and room for another one. -/
theorem box_two (w : World) (l : List Wn) : ∃ b wa, b = w.heap.size ∧ wa = (w.alloc (.cells (lc l).toArray lT)).alloc (.cells (lc []).toArray lT) ∧ LtAt wa b l ∧ wa.there (b + 1) 0 257 ∧ wa.heap.size = b + 2 ∧ But [] w wa := by
  have s1 : (w.alloc (.cells (lc l).toArray lT)).heap.size = w.heap.size + 1 := by simp
  have h2 := lt_new (w.alloc (.cells (lc l).toArray lT)) []
  rw [s1] at h2
  exact ⟨_, _, rfl, rfl, (lt_new w l).keep0 ((But.refl [] _).alloc _), h2.there, by simp, ((But.refl [] w).alloc _).alloc _⟩
set_option maxHeartbeats 2000000 in
theorem back_c (l : List Wn) (hl : l.length ≤ 64) (e k n : Int) (w : World) : Calls Try.prog 9 #[vv l, .int .i64 e, .int .i64 k, .int .i64 n] w fun r w' => r = .returned (.tuple #[vv (l.filter fun a => !key e k n a), .bool (decide (0 < (l.filter (key e k n)).length))]) ∧ But [] w w' := by
  have hz := zList
  obtain ⟨b, wa, hb, hwa, t1, t2, t3, t4⟩ := box_two w l
  have HR0 := hid t1.all
  have HT0 := hid t2
  have HS0 := hid t3
  have HB0 := hid t4
  have HBW := hid hb
  have HA := hid (all_c l hl wa)
  clear t1 t2 t3 t4
  unfold vv at HA ⊢
  go_enter Try.func9, Try.ntmps9
  go_upto_region 1 with fail
  rw [← hwa, ← hb]
  clear hwa hb
  go_wp2_with (first
    | (refine wpList_load_mid rfl lT _ rfl b 0 rfl (lc l) _ HR0.out Try.underlying27 rfl (iList _) ?_))
  refine HA.out.mono ?_
  rintro r w1 ⟨v, rfl, hq, k1⟩
  obtain ⟨A, c, rfl, -, hli⟩ := que_li hq
  have HL := hid hli
  have K1 := hid k1
  clear hq hli k1 HA
  go_wp2_with fail
  refine (ofName_c e k n w1).mono ?_
  rintro r w2 ⟨cb, rfl, hp, k2⟩
  have HP := hid hp
  have K2 := hid (K1.out.trans k2)
  have HL2 := hid (HL.out.keep k2)
  clear hp k2 HL K1
  go_wp2_with fail
  refine (split_c A _ c _ cb (key e k n) l w2 HL2.out rfl (by omega) HP.out).mono ?_
  rintro r w3 ⟨A1, A2, c1, c2, rfl, hq1, hq2, k3⟩
  obtain ⟨A3, c3, e3, -, hli⟩ := que_li hq2
  injection e3 with e31 e32 e33
  subst e31
  have hle : (l.filter fun a => !key e k n a).length ≤ 64 := Nat.le_trans (List.length_filter_le _ _) hl
  have hlo := listOf_c A2 _ c2 _ w3 hli rfl hle
  unfold vv at hlo
  have HLO := hid hlo
  have K3 := hid (K2.out.trans k3)
  clear hq1 hq2 k3 hli HL2 HP hlo hle K2 e33 e32
  obtain ⟨L, hL⟩ : ∃ L, L = l.filter fun a => !key e k n a := ⟨_, rfl⟩
  obtain ⟨m1, hm1⟩ : ∃ m1, m1 = (l.filter (key e k n)).length := ⟨_, rfl⟩
  rw [← hL] at HLO ⊢
  have HEL := hid hL
  rw [← hm1]
  have HEM := hid hm1
  clear hL hm1
  go_wp2_with fail
  refine HLO.out.mono ?_
  rintro r w4 ⟨rfl, k4⟩
  have K4 := hid (K3.out.trans k4)
  have HT : Hid (w4.there (b + 1) 0 (lc L).toArray.size) := by
    show World.there _ _ _ _
    rw [lc_size]
    exact there_keep HT0.out K4.out (by have := HS0.out; omega) (by simp)
  clear k4 HLO K3
  go_wp2_with (first
    | (refine wpList_store_mid rfl lT _ _ rfl (b + 1) 0 (lc L).toArray rfl rfl ?ht (iList' _) (lc_all _) ?_; case ht => exact HT.out))
  refine bodyPost_ret (results_range rfl _ _ (b + 1) 0 (lc L) _ rfl (World.rangeAt_setCells_same _ _ _ _ (by have := HT.out; rwa [lc_size, ← lc_len L] at this)) Try.underlying27 rfl (iList _)) rfl ?_
  exact ⟨by rw [← HEL.out, ← HEM.out]; rfl, but_own (HB0.out.trans K4.out) ((But.refl [b + 1] _).setCells (by simp) _ _) (fun i hi => by simp at hi; have := HBW.out; omega)⟩
set_option maxHeartbeats 2000000 in
theorem gone_c (l : List Wn) (hl : l.length ≤ 64) (e : Int) (w : World) : Calls Try.prog 11 #[vv l, .int .i64 e] w fun r w' => r = .returned (vv (l.filter fun a => !ofE e a)) ∧ But [] w w' := by
  have hz := zList
  obtain ⟨b, wa, hb, hwa, t1, t2, t3, t4⟩ := box_two w l
  have HR0 := hid t1.all
  have HT0 := hid t2
  have HS0 := hid t3
  have HB0 := hid t4
  have HBW := hid hb
  have HA := hid (all_c l hl wa)
  clear t1 t2 t3 t4
  unfold vv at HA ⊢
  go_enter Try.func11, Try.ntmps11
  go_upto_region 1 with fail
  rw [← hwa, ← hb]
  clear hwa hb
  go_wp2_with (first
    | (refine wpList_load_mid rfl lT _ rfl b 0 rfl (lc l) _ HR0.out Try.underlying27 rfl (iList _) ?_))
  refine HA.out.mono ?_
  rintro r w1 ⟨v, rfl, hq, k1⟩
  obtain ⟨A, c, rfl, -, hli⟩ := que_li hq
  have HL := hid hli
  have K1 := hid k1
  clear hq hli k1 HA
  go_wp2_with fail
  refine (ofEnv_c e w1).mono ?_
  rintro r w2 ⟨cb, rfl, hp, k2⟩
  have HP := hid hp
  have K2 := hid (K1.out.trans k2)
  have HL2 := hid (HL.out.keep k2)
  clear hp k2 HL K1
  go_wp2_with fail
  refine (split_c A _ c _ cb (ofE e) l w2 HL2.out rfl (by omega) HP.out).mono ?_
  rintro r w3 ⟨A1, A2, c1, c2, rfl, hq1, hq2, k3⟩
  obtain ⟨A3, c3, e3, -, hli⟩ := que_li hq2
  injection e3 with e31 e32 e33
  subst e31
  have hle : (l.filter fun a => !ofE e a).length ≤ 64 := Nat.le_trans (List.length_filter_le _ _) hl
  have hlo := listOf_c A2 _ c2 _ w3 hli rfl hle
  unfold vv at hlo
  have HLO := hid hlo
  have K3 := hid (K2.out.trans k3)
  clear hq1 hq2 k3 hli HL2 HP hlo hle K2 e33 e32
  obtain ⟨L, hL⟩ : ∃ L, L = l.filter fun a => !ofE e a := ⟨_, rfl⟩
  obtain ⟨m1, hm1⟩ : ∃ m1, m1 = (l.filter (ofE e)).length := ⟨_, rfl⟩
  rw [← hL] at HLO ⊢
  have HEL := hid hL
  rw [← hm1]
  clear hL hm1
  go_wp2_with fail
  refine HLO.out.mono ?_
  rintro r w4 ⟨rfl, k4⟩
  have K4 := hid (K3.out.trans k4)
  have HT : Hid (w4.there (b + 1) 0 (lc L).toArray.size) := by
    show World.there _ _ _ _
    rw [lc_size]
    exact there_keep HT0.out K4.out (by have := HS0.out; omega) (by simp)
  clear k4 HLO K3
  go_wp2_with (first
    | (refine wpList_store_mid rfl lT _ _ rfl (b + 1) 0 (lc L).toArray rfl rfl ?ht (iList' _) (lc_all _) ?_; case ht => exact HT.out))
  refine bodyPost_ret (results_range1 rfl _ _ (b + 1) 0 (lc L) _ rfl (World.rangeAt_setCells_same _ _ _ _ (by have := HT.out; rwa [lc_size, ← lc_len L] at this)) Try.underlying27 rfl (iList _)) rfl ?_
  exact ⟨by rw [← HEL.out], but_own (HB0.out.trans K4.out) ((But.refl [b + 1] _).setCells (by simp) _ _) (fun i hi => by simp at hi; have := HBW.out; omega)⟩
/-- A row of the call's own, of whose wants the first k have one turn less. -/
def Ds (w : World) (base : Nat) (A : Option Addr) (l : List Wn) (k : Nat) : Prop := l = [] ∨ ∃ g off, A = some ⟨g, off, none⟩ ∧ base ≤ g ∧ g < w.heap.size ∧
  ∀ j, j < l.length → ∀ r, r < 4 → w.cell? ⟨g, off + j * 4 + r, none⟩ = some (.int .i64 ((if j < k then dc (l.getD j nw) else l.getD j nw).at_ r)) ∧ w.frozen? ⟨g, off + j * 4 + r, none⟩ = false
theorem Ds.start {w : World} {base n c : Nat} {A : Option Addr} {l : List Wn} (h : Que w base 4 (.slice A n c) n (wl l)) : Ds w base A l 0 := by
  have hl : l.length = n := by have := h.1; rw [wl_len] at this; omega
  rcases h.2 with ⟨e, rfl⟩ | ⟨g, off, cap, e, hb, hg, hnc, hcm, hth, hr⟩
  · exact .inl (List.eq_nil_of_length_eq_zero hl)
  · injection e with e1 e2 e3
    refine .inr ⟨g, off, e1, hb, hg, fun j hj r hr4 => ⟨?_, ?_⟩⟩
    · rw [if_neg (by omega)]
      have := hr (j * 4 + r) _ (wl_get l j r hj hr4)
      rwa [← Nat.add_assoc] at this
    · have := (hth (j * 4 + r) (by omega)).2
      rwa [← Nat.add_assoc] at this
theorem Ds.keep {w w' : World} {base : Nat} {A : Option Addr} {l : List Wn} {k : Nat} (h : Ds w base A l k) (hk : But [] w w') : Ds w' base A l k := by
  rcases h with h | ⟨g, off, e, h1, h2, h3⟩
  · exact .inl h
  · exact .inr ⟨g, off, e, h1, Nat.lt_of_lt_of_le h2 hk.size, fun j hj r hr => ⟨(hk.cell (p := ⟨g, _, none⟩) h2 (by simp)).trans (h3 j hj r hr).1, (hk.frozen (p := ⟨g, _, none⟩) h2 (by simp)).trans (h3 j hj r hr).2⟩⟩
theorem Ds.done {w : World} {base : Nat} {A : Option Addr} {l : List Wn} (h : Ds w base A l l.length) : Li w A (dn l) := by
  rcases h with h | ⟨g, off, e, h1, h2, h3⟩
  · exact .inl (by rw [h]; rfl)
  · refine .inr ⟨g, off, e, h2, fun i v hv => ?_⟩
    have hi : i < l.length * 4 := by have := (List.getElem?_eq_some_iff.1 hv).1; rwa [wl_len, dn_len] at this
    have hg := wl_get (dn l) (i / 4) (i % 4) (by rw [dn_len]; omega) (by omega)
    rw [show i / 4 * 4 + i % 4 = i by omega, hv, dn_get l _ (by omega)] at hg
    have := (h3 (i / 4) (by omega) (i % 4) (by omega)).1
    rw [if_pos (by omega), Nat.add_assoc, show i / 4 * 4 + i % 4 = i by omega] at this
    rw [this, hg]
theorem Ds.step {w : World} {base : Nat} {l : List Wn} {k g off : Nat} (h : Ds w base (some ⟨g, off, none⟩) l k) (hk : k < l.length) : Ds (w.setCell ⟨g, off + k * 4 + 3, none⟩ (.int .i64 ((l.getD k nw).t - 1))) base (some ⟨g, off, none⟩) l (k + 1) := by
  rcases h with h | ⟨g', off', e, h1, h2, h3⟩
  · rw [h] at hk; simp at hk
  · injection e with e
    injection e with e1 e2
    subst e1; subst e2
    refine .inr ⟨g, off, rfl, h1, by simpa [World.setCell] using h2, fun j hj r hr => ?_⟩
    obtain ⟨h4, h5⟩ := h3 j hj r hr
    refine ⟨?_, by rw [World.frozen?_setCell]; exact h5⟩
    by_cases e : j = k ∧ r = 3
    · obtain ⟨rfl, rfl⟩ := e
      rw [World.cell?_setCell_same _ _ _ h4, if_pos (by omega)]
      rfl
    · rw [World.cell?_setCell_other _ _ _ _ (by intro e'; injection e' with e1 e2; omega), h4]
      by_cases hjk : j = k
      · subst hjk
        rw [if_neg (by omega), if_pos (by omega)]
        match r, hr with
        | 0, _ => rfl
        | 1, _ => rfl
        | 2, _ => rfl
        | 3, _ => exact absurd ⟨rfl, rfl⟩ e
      · by_cases hlt : j < k
        · rw [if_pos hlt, if_pos (by omega)]
        · rw [if_neg hlt, if_neg (by omega)]
theorem Ds.at_ {w : World} {base : Nat} {A : Option Addr} {l : List Wn} {k : Nat} (h : Ds w base A l k) (hk : k < l.length) : ∃ g off, A = some ⟨g, off, none⟩ ∧ base ≤ g ∧ w.cell? ⟨g, off + k * 4 + 3, none⟩ = some (.int .i64 (l.getD k nw).t) ∧ w.frozen? ⟨g, off + k * 4 + 3, none⟩ = false := by
  rcases h with h | ⟨g, off, e, h1, h2, h3⟩
  · rw [h] at hk; simp at hk
  · have := h3 k hk 3 (by omega)
    rw [if_neg (by omega)] at this
    exact ⟨g, off, e, h1, this.1, this.2⟩
theorem wrap_turn {t : Int} (h0 : 1 ≤ t) (h1 : t ≤ 100) : IntKind.i64.wrap (t - 1) = t - 1 := by
  simp [IntKind.wrap, IntKind.signed, IntKind.bits]
  omega
/-- What a call answers that tells a list behind a turn, and what is taken. -/
def Tn (sz : Nat) (l : List Wn) (w : World) (e : Ending) (w' : World) : Prop :=
  ∃ (A : Option Addr) (c : Nat), e = .returned (.tuple #[vv (tnL l), .slice A (tnD l).length c]) ∧ Que w' sz 4 (.slice A (tnD l).length c) (tnD l).length (wl (tnD l)) ∧ But [] w w'
set_option maxHeartbeats 2000000 in
theorem turn_c (l : List Wn) (ho : Ok l) (w : World) : Calls Try.prog 12 #[vv l] w (Tn w.heap.size l w) := by
  have hz := zList
  obtain ⟨b, wa, hb, hwa, t1, t2, t3, t4⟩ := box_two w l
  have HR0 := hid t1.all
  have HT0 := hid t2
  have HS0 := hid t3
  have HB0 := hid t4
  have HBW := hid hb
  have HA := hid (all_c l ho.1 wa)
  have HO := hid ho
  obtain ⟨n, hn⟩ : ∃ n, l.length = n := ⟨_, rfl⟩
  have hn64 : n ≤ 64 := by have := ho.1; omega
  rw [hn] at HA
  have HN := hid hn
  clear t1 t2 t3 t4 ho hn
  unfold vv at HA
  show Calls _ _ #[.agg (lc l).toArray] w _
  go_enter Try.func12, Try.ntmps12
  go_upto_region 1 with fail
  rw [← hwa, ← hb]
  clear hwa hb
  go_wp2_with (first
    | (refine wpList_load_mid rfl lT _ rfl b 0 rfl (lc l) _ HR0.out Try.underlying27 rfl (iList _) ?_))
  refine HA.out.mono ?_
  rintro r w1 ⟨v, rfl, hq, k1⟩
  obtain ⟨A, c, rfl, hcn⟩ := hq.form
  have HD := hid (Ds.start hq)
  have K1 := hid k1
  clear hq k1 HA
  go_wp2
  go_loopg [12] (n + 1) (fun g0 i wx => ∃ k : Nat, k + g0 = n + 1 ∧ k ≤ n ∧ i = .int .i64 k ∧ Hid (Ds wx wa.heap.size A l k) ∧ Hid (But [] wa wx))
  case atStart => exact ⟨0, by omega, by omega, rfl, HD.out, K1.out⟩
  case round =>
    clear HD K1
    obtain ⟨k, hkg, hk, rfl, HD, HB⟩ := hrel
    by_cases hlt : k < n
    · have hlx : k < l.length := by have := HN.out; omega
      obtain ⟨g, off, rfl, hg, h1, h2⟩ := HD.out.at_ hlx
      have HD2 := hid (HD.out.step hlx)
      have ht := ok_t HO.out (getD_mem hlx)
      generalize (l.getD k nw).t = t at h1 ht HD2
      have hw := wrap_turn ht.1 ht.2
      have HB2 : Hid (But [] wa (wr.setCell ⟨g, off + k * 4 + 3, none⟩ (.int .i64 (t - 1)))) := HB.out.setCell (.inr hg) _
      clear hlx ht HD
      go_wp2
      go_roundg (n + 1 - (k + 1))
      case measure => omega
      case rel => exact ⟨k + 1, by omega, by omega, by go_num, HD2.out, HB2.out⟩
    · obtain rfl : k = n := by omega
      have hd := HD.out
      rw [← HN.out] at hd
      have HL := hid hd.done
      clear hd HD
      go_wp2_with fail
      refine (split_c A _ c _ #[] z0 (dn l) wr HL.out (by rw [dn_len]; exact HN.out) (by omega) (pTurn wr)).mono ?_
      rintro r w3 ⟨A1, A2, c1, c2, rfl, hq1, hq2, k3⟩
      obtain ⟨A3, c3, e3, -, hli⟩ := que_li hq2
      injection e3 with e31 e32 e33
      subst e31
      have hle : ((dn l).filter fun a => !z0 a).length ≤ 64 := Nat.le_trans (List.length_filter_le _ _) (by rw [dn_len, HN.out]; exact hn64)
      have hlo := listOf_c A2 _ c2 _ w3 hli rfl hle
      unfold vv at hlo
      have HLO := hid hlo
      have K3 := hid (HB.out.trans k3)
      have HAB := hid (que_apart hq1 (b := b + 1) (by have := HS0.out; have := HB.out.size; omega))
      have HQ := hid (que_lower hq1 (Nat.le_trans HB0.out.size HB.out.size))
      have HTL : Hid ((dn l).filter (fun a => !z0 a) = tnL l) := rfl
      have HTD : Hid ((dn l).filter z0 = tnD l) := rfl
      clear hq1 hq2 k3 hli hlo hle e33 e32
      generalize ((dn l).filter fun a => !z0 a) = L at *
      generalize (dn l).filter z0 = D at *
      obtain ⟨m, hm⟩ : ∃ m, m = D.length := ⟨_, rfl⟩
      rw [← hm] at HQ HAB ⊢
      have HM := hid hm
      clear hm
      go_wp2_with fail
      refine HLO.out.mono ?_
      rintro r w4 ⟨rfl, k4⟩
      have K4 := hid (K3.out.trans k4)
      have HQ4 := hid (HQ.out.keep0 k4)
      have HT : Hid (w4.there (b + 1) 0 (lc L).toArray.size) := by
        show World.there _ _ _ _
        rw [lc_size]
        exact there_keep HT0.out K4.out (by have := HS0.out; omega) (by simp)
      clear k4 HLO K3 HQ
      go_wp2_with (first
        | (refine wpList_store_mid rfl lT _ _ rfl (b + 1) 0 (lc L).toArray rfl rfl ?ht (iList' _) (lc_all _) ?_; case ht => exact HT.out))
      refine bodyPost_ret (results_range rfl _ _ (b + 1) 0 (lc L) _ rfl (World.rangeAt_setCells_same _ _ _ _ (by have := HT.out; rwa [lc_size, ← lc_len L] at this)) Try.underlying27 rfl (iList _)) rfl ?_
      refine ⟨A1, c1, by rw [← HTL.out, ← HTD.out, ← HM.out]; rfl, ?_, but_own (HB0.out.trans K4.out) ((But.refl [b + 1] _).setCells (by simp) _ _) (fun i hi => by simp at hi; have := HBW.out; omega)⟩
      rw [← HTD.out, ← HM.out]
      exact HQ4.out.keep ((But.refl [b + 1] _).setCells (by simp) _ _) HAB.out
end Go.Proofs.Ytfopmdiepaonnaa.Ao
