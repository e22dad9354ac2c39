/-
  Layer 13 (ledger): contracts of the document's Take (and its free), Move, Close, for whatever numbers.
-/
import Derived.Test.YtcdbdgmjdmkfeaaLgRef2
namespace Go.Proofs.Ytcdbdgmjdmkfeaa.Lg
open Go.ChangeShapes Go.WideShapes Go.ChangeAt Go.RowKit
set_option linter.unusedVariables false
set_option maxRecDepth 20000

theorem rtake_c (b : Nat) (q u : Tb) (T : Nat → Int) (e k n : Int) (w : World) (h : RfAt w b q u) (ho : Ok q u T) :
    Calls Try.prog 17 #[.pointer (some ⟨b, 0, none⟩), .int .i64 e, .int .i64 k, .int .i64 n, .bool false] w fun r w' => r = .returned (.int .i64 (tkC q u e k n)) ∧ Rl b q (tkU q u e k n) w w' := by
  by_cases hc : hsP e k ∧ amP n
  · have hs := hc.1
    have hs' := hs
    obtain ⟨⟨h0, h1⟩, h2, h3⟩ := hs'
    have hq : gt q e k = q e.toNat k.toNat := if_pos hs
    have hu : gt u e k = u e.toNat k.toNat := if_pos hs
    have e1 : tkC q u e k n = if n > gt q e k - gt u e k then 21 else 0 := by unfold tkC; rw [if_neg (fun hh => hh hc)]
    have e2 : tkU q u e k n = if n > gt q e k - gt u e k then u else up u e.toNat k.toNat (gt u e k + n) := by
      unfold tkU
      by_cases hn : n ≤ gt q e k - gt u e k
      · rw [if_pos ⟨hc, hn⟩, if_neg (by omega)]
      · rw [if_neg (fun hh => hn hh.2), if_pos (by omega)]
    rw [e1, e2]
    have := rtake_yes b q u T e.toNat k.toNat n w h ho (by omega) (by omega) hc.2 _ _ hq.symm hu.symm (if n > gt q e k - gt u e k then 21 else 0) (if n > gt q e k - gt u e k then u else up u e.toNat k.toNat (gt u e k + n)) (fun hn => ⟨if_pos hn, if_pos hn⟩) (fun hn => ⟨if_neg (by omega), if_neg (by omega)⟩)
    rwa [show ((e.toNat : Nat) : Int) = e by omega, show ((k.toNat : Nat) : Int) = k by omega] at this
  · have e1 : tkC q u e k n = 1 := if_pos hc
    have e2 : tkU q u e k n = u := if_neg (fun hh => hc hh.1)
    rw [e1, e2]
    refine (rtake_no b e k n false w hc).mono ?_
    rintro r w' ⟨rfl, rfl⟩
    exact ⟨rfl, h, But.refl _ _⟩
theorem rfree_c (b : Nat) (q u : Tb) (T : Nat → Int) (e k n : Int) (w : World) (h : RfAt w b q u) (ho : Ok q u T) :
    Calls Try.prog 17 #[.pointer (some ⟨b, 0, none⟩), .int .i64 e, .int .i64 k, .int .i64 n, .bool true] w fun r w' => r = .returned (.int .i64 (frC u e k n)) ∧ Rl b q (frU u e k n) w w' := by
  by_cases hc : hsP e k ∧ amP n
  · have hs := hc.1
    have hs' := hs
    obtain ⟨⟨h0, h1⟩, h2, h3⟩ := hs'
    have hu : gt u e k = u e.toNat k.toNat := if_pos hs
    have e1 : frC u e k n = if n > gt u e k then 1 else 0 := by
      unfold frC
      by_cases hn : n > gt u e k
      · rw [if_pos (.inr hn), if_pos hn]
      · rw [if_neg (fun hh => hh.elim (fun h' => h' hc) hn), if_neg hn]
    have e2 : frU u e k n = if n > gt u e k then u else up u e.toNat k.toNat (gt u e k - n) := by
      unfold frU
      by_cases hn : n ≤ gt u e k
      · rw [if_pos ⟨hc, hn⟩, if_neg (by omega)]
      · rw [if_neg (fun hh => hn hh.2), if_pos (by omega)]
    rw [e1, e2]
    have := rfree_yes b q u T e.toNat k.toNat n w h ho (by omega) (by omega) hc.2 _ hu.symm (if n > gt u e k then 1 else 0) (if n > gt u e k then u else up u e.toNat k.toNat (gt u e k - n)) (fun hn => ⟨if_pos hn, if_pos hn⟩) (fun hn => ⟨if_neg (by omega), if_neg (by omega)⟩)
    rwa [show ((e.toNat : Nat) : Int) = e by omega, show ((k.toNat : Nat) : Int) = k by omega] at this
  · have e1 : frC u e k n = 1 := if_pos (.inl hc)
    have e2 : frU u e k n = u := if_neg (fun hh => hc hh.1)
    rw [e1, e2]
    refine (rtake_no b e k n true w hc).mono ?_
    rintro r w' ⟨rfl, rfl⟩
    exact ⟨rfl, h, But.refl _ _⟩
theorem rmove_c (b : Nat) (q u : Tb) (T : Nat → Int) (e t k n : Int) (w : World) (h : RfAt w b q u) (ho : Ok q u T) :
    Calls Try.prog 18 #[.pointer (some ⟨b, 0, none⟩), .int .i64 e, .int .i64 t, .int .i64 k, .int .i64 n] w fun r w' => r = .returned (.int .i64 (mvC q u e t k n)) ∧ Rl b (mvQ q u e t k n) u w w' := by
  by_cases hc : hsP e k ∧ hsP t k ∧ amP n
  · obtain ⟨hs, ht, ha⟩ := hc
    have hs' := hs
    have ht' := ht
    obtain ⟨⟨h0, h1⟩, h2, h3⟩ := hs'
    obtain ⟨⟨h4, h5⟩, -, -⟩ := ht'
    have hq : gt q e k = q e.toNat k.toNat := if_pos hs
    have hu : gt u e k = u e.toNat k.toNat := if_pos hs
    have hr : gt (up q e.toNat k.toNat (gt q e k - n)) t k = up q e.toNat k.toNat (gt q e k - n) t.toNat k.toNat := if_pos ht
    have e1 : mvC q u e t k n = if n > gt q e k - gt u e k then 21 else 0 := by unfold mvC; rw [if_neg (fun hh => hh ⟨hs, ht, ha⟩)]
    have e2 : mvQ q u e t k n = if n > gt q e k - gt u e k then q else up (up q e.toNat k.toNat (gt q e k - n)) t.toNat k.toNat (gt (up q e.toNat k.toNat (gt q e k - n)) t k + n) := by
      unfold mvQ
      by_cases hn : n ≤ gt q e k - gt u e k
      · rw [if_pos ⟨⟨hs, ht, ha⟩, hn⟩, if_neg (by omega)]
      · rw [if_neg (fun hh => hn hh.2), if_pos (by omega)]
    rw [e1, e2]
    have := rmove_yes b q u T e.toNat t.toNat k.toNat n w h ho (by omega) (by omega) (by omega) ha _ _ _ hq.symm hu.symm hr.symm
      (if n > gt q e k - gt u e k then 21 else 0) (if n > gt q e k - gt u e k then q else up (up q e.toNat k.toNat (gt q e k - n)) t.toNat k.toNat (gt (up q e.toNat k.toNat (gt q e k - n)) t k + n))
      (fun hn => ⟨if_pos hn, if_pos hn⟩) (fun hn => ⟨if_neg (by omega), if_neg (by omega)⟩)
    rwa [show ((e.toNat : Nat) : Int) = e by omega, show ((t.toNat : Nat) : Int) = t by omega, show ((k.toNat : Nat) : Int) = k by omega] at this
  · have e1 : mvC q u e t k n = 1 := if_pos hc
    have e2 : mvQ q u e t k n = q := if_neg (fun hh => hc hh.1)
    rw [e1, e2]
    refine (rmove_no b e t k n w hc).mono ?_
    rintro r w' ⟨rfl, rfl⟩
    exact ⟨rfl, h, But.refl _ _⟩

/-- Laying a row of zeros is as having nothing. -/
theorem RfAt.zero {w : World} {b : Nat} {q u : Tb} (h : RfAt w b q u) (e : Nat) (he : e < 16) :
    RfAt (w.setCells b (e * 8) [.int .i64 0, .int .i64 0, .int .i64 0, .int .i64 0, .int .i64 0, .int .i64 0, .int .i64 0, .int .i64 0]) b (zr q e) (zr u e) :=
  VB.congr (VB.sets (o := e * 8) h [.int .i64 0, .int .i64 0, .int .i64 0, .int .i64 0, .int .i64 0, .int .i64 0, .int .i64 0, .int .i64 0] (by show e * 8 + 8 ≤ 128; omega)) (fun j hj => by
    show (if e * 8 ≤ j ∧ j < e * 8 + 8 then _ else _) = _
    by_cases hc : e * 8 ≤ j ∧ j < e * 8 + 8
    · rw [if_pos hc]
      unfold rv zr
      have hz : j / 8 = e := by omega
      rw [if_pos hz, if_pos hz, ite_self]
      obtain ⟨i, rfl⟩ : ∃ i, j = e * 8 + i := ⟨j - e * 8, by omega⟩
      have hi : i = 0 ∨ i = 1 ∨ i = 2 ∨ i = 3 ∨ i = 4 ∨ i = 5 ∨ i = 6 ∨ i = 7 := by omega
      rw [show e * 8 + i - e * 8 = i by omega]
      rcases hi with rfl | rfl | rfl | rfl | rfl | rfl | rfl | rfl <;> rfl
    · rw [if_neg hc]
      unfold rv zr
      have hz : ¬ j / 8 = e := by omega
      rw [if_neg hz, if_neg hz])
theorem infoRRow : (Try.prog.info? 34).map (·.size) = some 8 := by kernel_rfl
theorem rclose_no (b : Nat) (e t : Int) (w : World) (h : ¬ clP e t) :
    Calls Try.prog 19 #[.pointer (some ⟨b, 0, none⟩), .int .i64 e, .int .i64 t] w fun r w' => r = .returned (.int .i64 1) ∧ w = w' := by
  have hm : ∀ x : Int, (0 ≤ x ∧ x < 16) → mayB x 0 0 = true := fun x hx => decide_eq_true ⟨⟨hx, by omega, by omega⟩, by omega, by omega⟩
  have hn : ∀ x : Int, ¬ (0 ≤ x ∧ x < 16) → mayB x 0 0 = false := fun x hx => decide_eq_false (fun hh => hx hh.1.1)
  by_cases hs : 0 ≤ e ∧ e < 16
  · have HV : Hid (mayB e 0 0 = true) := hm e hs
    by_cases ht : 0 ≤ t ∧ t < 16
    · have he : e = t := Decidable.byContradiction fun hh => h ⟨hs, ht, hh⟩
      subst he
      clear h hs ht hm hn
      go_enter Try.func19, Try.ntmps19
      go_wp2_with (first
        | (go_at_call 22; refine (may_c e 0 0 _).mono ?_; rw [HV.out]; rintro r w1 ⟨rfl, rfl⟩))
      go_ret
      exact ⟨rfl, rfl⟩
    · have HT : Hid (mayB t 0 0 = false) := hn t ht
      clear h hs ht hm hn
      go_enter Try.func19, Try.ntmps19
      go_wp2_with (first
        | (go_at_call_of 22 e; refine (may_c e 0 0 _).mono ?_; rw [HV.out]; rintro r w1 ⟨rfl, rfl⟩)
        | (go_at_call_of 22 t; refine (may_c t 0 0 _).mono ?_; rw [HT.out]; rintro r w1 ⟨rfl, rfl⟩))
      go_ret
      exact ⟨rfl, rfl⟩
  · have HV : Hid (mayB e 0 0 = false) := hn e hs
    clear h hs hm hn
    go_enter Try.func19, Try.ntmps19
    go_wp2_with (first
      | (go_at_call 22; refine (may_c e 0 0 _).mono ?_; rw [HV.out]; rintro r w1 ⟨rfl, rfl⟩))
    go_ret
    exact ⟨rfl, rfl⟩
theorem rclose_yes (b : Nat) (q u : Tb) (T : Nat → Int) (e t : Nat) (w : World) (h : RfAt w b q u) (ho : Ok q u T) (he : e < 16) (ht : t < 16) (hne : e ≠ t) :
    Calls Try.prog 19 #[.pointer (some ⟨b, 0, none⟩), .int .i64 e, .int .i64 t] w fun r w' => r = .returned (.int .i64 0) ∧ Rl b (zr (mvn q e t 4) e) (zr u e) w w' := by
  have HV : Hid (mayB e 0 0 = true) := decide_eq_true ⟨⟨⟨by omega, by omega⟩, by omega, by omega⟩, by omega, by omega⟩
  have HT : Hid (mayB t 0 0 = true) := decide_eq_true ⟨⟨⟨by omega, by omega⟩, by omega, by omega⟩, by omega, by omega⟩
  have H : Hid (RfAt w b q u) := h
  have HO : Hid (Ok q u T) := ho
  have HN : Hid (e ≠ t) := hne
  have hne' : ¬ ((e : Int) = (t : Int)) := by omega
  have hneb : decide ((e : Int) = (t : Int)) = false := decide_eq_false hne'
  have hneb2 : ((e : Int) == (t : Int)) = false := by simp; omega
  clear h ho hne
  go_enter Try.func19, Try.ntmps19
  go_wp2_with (first
    | (go_at_call_of 22 e; refine (may_c e 0 0 _).mono ?_; rw [HV.out]; rintro r w1 ⟨rfl, rfl⟩)
    | (go_at_call_of 22 t; refine (may_c t 0 0 _).mono ?_; rw [HT.out]; rintro r w1 ⟨rfl, rfl⟩))
  clear hne' hneb hneb2
  go_loopg [7] 5 (fun g0 i wx => ∃ j : Nat, j + g0 = 5 ∧ j ≤ 4 ∧ i = .int .i64 j ∧ Hid (RfAt wx b (mvn q e t j) u) ∧ Hid (But [b] w wx))
  case atStart => exact ⟨0, by omega, by omega, rfl, by show RfAt _ _ _ _; rw [mvn_zero]; exact H.out, But.refl _ _⟩
  case round =>
    obtain ⟨j, hjg, hj4, rfl, HJ, KJ⟩ := hrel
    by_cases hj : j < 4
    · have hj' : (j : Int) < 4 := by omega
      have HQE : Hid (mvn q e t j e j = q e j) := if_neg (fun hh => HN.out hh.1)
      have HQT : Hid (mvn q e t j t j = q t j) := if_neg (fun hh => by omega)
      obtain ⟨hc, hz⟩ := HJ.out.q t j ht hj
      rw [HQT.out] at hc
      obtain ⟨hc2, -⟩ := HJ.out.q e j he hj
      rw [HQE.out] at hc2
      have hw : IntKind.i64.wrap (q t j + q e j) = q t j + q e j := by
        have h1 := HO.out.le t j ht hj
        have h2 := HO.out.le e j he hj
        exact wrap_small _ (by omega) (by omega)
      have H3 : Hid (RfAt (wr.setCell ⟨b, t * 8 + j, none⟩ (.int .i64 (q t j + q e j))).drew b (mvn q e t (j + 1)) u) := by
        show RfAt _ _ _ _
        rw [← mvn_succ q e t j HN.out]
        exact (HJ.out.setQ t j hj _).keep (But.refl [] _).drew (by simp)
      have K3 : Hid (But [b] w (wr.setCell ⟨b, t * 8 + j, none⟩ (.int .i64 (q t j + q e j))).drew) := (KJ.out.setCell (.inl (by simp)) _).drew
      have ht' : (t : Int) < 16 := by omega
      have he' : (e : Int) < 16 := by omega
      generalize q t j = x at hc hw H3 K3
      generalize q e j = y at hc2 hw H3 K3
      go_wp2
      refine wp_region_still_tail 27 (by kernel_rfl) (by kernel_rfl) ?_
      simp only [List.take_succ_cons, List.take_zero, List.drop_succ_cons, List.drop_zero]
      change wpStill _ _ wr.drew _ _ _
      repeat still_step
      refine wpStill_nil ?_
      change wpList _ _ _ _ _ wr.drew
      go_wp2
      go_roundg (5 - (j + 1))
      case measure => omega
      case rel => exact ⟨j + 1, by omega, by omega, by go_num, H3, K3⟩
    · obtain rfl : j = 4 := by omega
      have H3 : Hid (RfAt (wr.setCells b (e * 8) [.int .i64 0, .int .i64 0, .int .i64 0, .int .i64 0, .int .i64 0, .int .i64 0, .int .i64 0, .int .i64 0]) b (zr (mvn q e t 4) e) (zr u e)) := HJ.out.zero e he
      have K3 : Hid (But [b] w (wr.setCells b (e * 8) [.int .i64 0, .int .i64 0, .int .i64 0, .int .i64 0, .int .i64 0, .int .i64 0, .int .i64 0, .int .i64 0])) := KJ.out.setCells (.inl (by simp)) _ _
      go_wp2_with (first
        | (refine wpList_store_mid rfl 34 _ _ rfl b (e * 8) #[.int .i64 0, .int .i64 0, .int .i64 0, .int .i64 0, .int .i64 0, .int .i64 0, .int .i64 0, .int .i64 0] rfl rfl (VB.there HJ.out (by show e * 8 + 8 ≤ 128; omega)) infoRRow (all_oneCell_toArray zero_one) ?_))
      go_ret
      exact ⟨rfl, H3.out, K3.out⟩
theorem rclose_c (b : Nat) (q u : Tb) (T : Nat → Int) (e t : Int) (w : World) (h : RfAt w b q u) (ho : Ok q u T) :
    Calls Try.prog 19 #[.pointer (some ⟨b, 0, none⟩), .int .i64 e, .int .i64 t] w fun r w' => r = .returned (.int .i64 (clC e t)) ∧ Rl b (clQ q e t) (clU u e t) w w' := by
  by_cases hc : clP e t
  · have hc' := hc
    obtain ⟨⟨h0, h1⟩, ⟨h2, h3⟩, h4⟩ := hc'
    rw [show clC e t = 0 from if_pos hc, show clQ q e t = zr (mvn q e.toNat t.toNat 4) e.toNat from if_pos hc, show clU u e t = zr u e.toNat from if_pos hc]
    have := rclose_yes b q u T e.toNat t.toNat w h ho (by omega) (by omega) (by omega)
    rwa [show ((e.toNat : Nat) : Int) = e by omega, show ((t.toNat : Nat) : Int) = t by omega] at this
  · rw [show clC e t = 1 from if_neg hc, show clQ q e t = q from if_neg hc, show clU u e t = u from if_neg hc]
    refine (rclose_no b e t w hc).mono ?_
    rintro r w' ⟨rfl, rfl⟩
    exact ⟨rfl, h, But.refl _ _⟩
end Go.Proofs.Ytcdbdgmjdmkfeaa.Lg
