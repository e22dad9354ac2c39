/-
  Layer 13 (ledger): the contract of Move, over the translated program.
-/
import Derived.Test.YtcdbdgmjdmkfeaaLgDo
namespace Go.Proofs.Ytcdbdgmjdmkfeaa.Lg
open Go.ChangeShapes Go.WideShapes Go.ChangeAt Go.RowKit
set_option linter.unusedVariables false
set_option maxRecDepth 20000

theorem move_no (b : Nat) (e t k n : Int) (w : World) (h : ¬ (hsP e k ∧ hsP t k ∧ amP n)) :
    Calls Try.prog 15 #[.pointer (some ⟨b, 0, none⟩), .int .i64 e, .int .i64 t, .int .i64 k, .int .i64 n] w fun r w' => r = .returned (.int .i64 1) ∧ w = w' := by
  by_cases hs : hsP e k
  · have HV : Hid (hsB e k = true) := decide_eq_true hs
    by_cases ht : hsP t k
    · have HT : Hid (hsB t k = true) := decide_eq_true ht
      have HA : Hid (amB n = false) := decide_eq_false (fun ha => h ⟨hs, ht, ha⟩)
      clear h hs ht
      go_enter_defers Try.func15, Try.ntmps15
      go_wp2_with (first
        | (go_at_call_of 23 e; refine (has_c b e k _).mono ?_; rw [HV.out]; rintro r w1 ⟨rfl, rfl⟩)
        | (go_at_call_of 23 t; refine (has_c b t k _).mono ?_; rw [HT.out]; rintro r w1 ⟨rfl, rfl⟩)
        | (go_at_call 24; refine (isAmount_c n _).mono ?_; rw [HA.out]; rintro r w2 ⟨rfl, rfl⟩))
      exact ⟨_, results_tmp rfl _ _ _, rfl, rfl⟩
    · have HT : Hid (hsB t k = false) := decide_eq_false ht
      clear h hs ht
      go_enter_defers Try.func15, Try.ntmps15
      go_wp2_with (first
        | (go_at_call_of 23 e; refine (has_c b e k _).mono ?_; rw [HV.out]; rintro r w1 ⟨rfl, rfl⟩)
        | (go_at_call_of 23 t; refine (has_c b t k _).mono ?_; rw [HT.out]; rintro r w1 ⟨rfl, rfl⟩))
      exact ⟨_, results_tmp rfl _ _ _, rfl, rfl⟩
  · have HV : Hid (hsB e k = false) := decide_eq_false hs
    clear h hs
    go_enter_defers Try.func15, Try.ntmps15
    go_wp2_with (first
      | (go_at_call 23; refine (has_c b e k _).mono ?_; rw [HV.out]; rintro r w1 ⟨rfl, rfl⟩))
    exact ⟨_, results_tmp rfl _ _ _, rfl, rfl⟩
theorem move_nil (e t k n : Int) (w : World) :
    Calls Try.prog 15 #[.pointer none, .int .i64 e, .int .i64 t, .int .i64 k, .int .i64 n] w fun r w' => r = .returned (.int .i64 1) ∧ w = w' := by
  go_enter_defers Try.func15, Try.ntmps15
  go_wp2_with (first
    | (go_at_call 23; refine (has_nil e k _).mono ?_; rintro r w1 ⟨rfl, rfl⟩))
  exact ⟨_, results_tmp rfl _ _ _, rfl, rfl⟩
theorem move_yes (b : Nat) (q u : Tb) (T : Nat → Int) (e t k : Nat) (n : Int) (w : World) (h : LdAt w b 0 q u) (ho : Ok q u T) (he : e < 16) (ht : t < 16) (hk : k < 4) (ha : amP n) (x y z : Int) (hx : q e k = x) (hy : u e k = y)
    (hz : up q e k (x - n) t k = z) (C : Int) (Q : Tb) (hp : x - y < n → C = 21 ∧ Q = q) (hm : n ≤ x - y → C = 0 ∧ Q = up (up q e k (x - n)) t k (z + n)) :
    Calls Try.prog 15 #[.pointer (some ⟨b, 0, none⟩), .int .i64 e, .int .i64 t, .int .i64 k, .int .i64 n] w fun r w' =>
      r = .returned (.int .i64 C) ∧ Lf b Q u w w' := by
  have HP : Hid (x - y < n → C = 21 ∧ Q = q) := hp
  have HM : Hid (n ≤ x - y → C = 0 ∧ Q = up (up q e k (x - n)) t k (z + n)) := hm
  obtain ⟨g1, g2, g3⟩ := ho.le e k he hk
  obtain ⟨g4, g5, g6⟩ := ho.le t k ht hk
  rw [hx] at g2 g3
  rw [hy] at g1 g2
  obtain ⟨a1, a2⟩ := ha
  have hzl : -512 ≤ z ∧ z ≤ 512 := by
    rw [← hz]
    unfold up
    split <;> omega
  have HW : Hid (IntKind.i64.wrap (x - y) = x - y) := wrap_small _ (by omega) (by omega)
  have HW2 : Hid (IntKind.i64.wrap (x - n) = x - n) := wrap_small _ (by omega) (by omega)
  have HW3 : Hid (IntKind.i64.wrap (z + n) = z + n) := wrap_small _ (by omega) (by omega)
  have HV : Hid (hsB e k = true) := decide_eq_true ⟨⟨by omega, by omega⟩, by omega, by omega⟩
  have HT : Hid (hsB t k = true) := decide_eq_true ⟨⟨by omega, by omega⟩, by omega, by omega⟩
  have HA : Hid (amB n = true) := decide_eq_true ⟨a1, a2⟩
  have H : Hid (LdAt w b 0 q u) := h
  have H1 : Hid (LdAt (w.setCell ⟨b, 0, none⟩ (.int .i32 1)) b 1 q u) := h.setLock 1
  have K1 : Hid (But [b] w (w.setCell ⟨b, 0, none⟩ (.int .i32 1))) := (But.refl [b] w).setCell (.inl (by simp)) _
  have HX : Hid (q e k = x) := hx
  have HY : Hid (u e k = y) := hy
  have HZ : Hid (up q e k (x - n) t k = z) := hz
  clear hp hm h ho a1 a2 g1 g2 g3 g4 g5 g6 hx hy hz hzl
  go_enter_defers Try.func15, Try.ntmps15
  go_upto_region 3 with (first
    | (go_at_call_of 23 e; refine (has_c b e k _).mono ?_; rw [HV.out]; rintro r w1 ⟨rfl, rfl⟩)
    | (go_at_call_of 23 t; refine (has_c b t k _).mono ?_; rw [HT.out]; rintro r w1 ⟨rfl, rfl⟩)
    | (go_at_call 24; refine (isAmount_c n _).mono ?_; rw [HA.out]; rintro r w2 ⟨rfl, rfl⟩))
  go_wp2_with fail
  refine (mutex_lock ⟨b, 0, none⟩ _ H.out.lock.1 H.out.lock.2).mono ?_
  rintro r w3 ⟨rfl, rfl⟩
  generalize w.setCell ⟨b, 0, none⟩ (.int .i32 1) = w1 at H1 K1 ⊢
  have hrow := H1.out.row e k he hk
  rw [HX.out, HY.out] at hrow
  have HR : Hid (w1.rangeAt b (2 + e * 8 + k * 2) [.int .i64 x, .int .i64 y]) := hrow
  clear hrow
  go_wp2_with (first
    | (refine wpList_load_mid rfl 54 _ rfl b (2 + e * 8 + k * 2) rfl [.int .i64 x, .int .i64 y] _ HR.out Try.underlying54 rfl infoRow ?_))
  refine (rleft_c x y _ HW.out).mono ?_
  rintro r w2 ⟨rfl, k2⟩
  have H2 : Hid (LdAt w2 b 1 q u) := H1.out.keep k2 (by simp)
  have K2 : Hid (But [b] w w2) := K1.out.trans (k2.any _)
  clear k2 HR
  by_cases hn : x - y < n
  · obtain ⟨rfl, rfl⟩ := HP.out hn
    go_wp2
    exact leave_unlock H2.out ⟨_, results_tmp rfl _ _ _, rfl, H2.out.setLock 0, K2.out.setCell (.inl (by simp)) _⟩
  · obtain ⟨rfl, rfl⟩ := HM.out (by omega)
    have hn' : decide (x - y < n) = false := decide_eq_false hn
    obtain ⟨hc, hz⟩ := H2.out.q e k he hk
    rw [HX.out] at hc
    have H3 : Hid (LdAt (w2.setCell ⟨b, 2 + e * 8 + k * 2, none⟩ (.int .i64 (x - n))).drew b 1 (up q e k (x - n)) u) := (H2.out.setQ e k hk _).keep (But.refl [] _).drew (by simp)
    have K3 : Hid (But [b] w (w2.setCell ⟨b, 2 + e * 8 + k * 2, none⟩ (.int .i64 (x - n))).drew) := (K2.out.setCell (.inl (by simp)) _).drew
    have hw := HW2.out
    have he' : (e : Int) < 16 := by omega
    have hk' : (k : Int) < 4 := by omega
    go_wp2
    refine wp_region_still_tail 16 (by kernel_rfl) (by kernel_rfl) ?_
    simp only [List.take_succ_cons, List.take_zero, List.drop_succ_cons, List.drop_zero]
    change wpStill _ _ w2.drew _ _ _
    repeat still_step
    refine wpStill_nil ?_
    change wpList _ _ _ _ _ w2.drew
    go_upto_region 8 with fail
    clear hc hz hw
    generalize (w2.setCell ⟨b, 2 + e * 8 + k * 2, none⟩ (.int .i64 (x - n))).drew = w3 at H3 K3 ⊢
    obtain ⟨hc, hz⟩ := H3.out.q t k ht hk
    rw [HZ.out] at hc
    have H4 : Hid (LdAt (w3.setCell ⟨b, 2 + t * 8 + k * 2, none⟩ (.int .i64 (z + n))).drew b 1 (up (up q e k (x - n)) t k (z + n)) u) := (H3.out.setQ t k hk _).keep (But.refl [] _).drew (by simp)
    have K4 : Hid (But [b] w (w3.setCell ⟨b, 2 + t * 8 + k * 2, none⟩ (.int .i64 (z + n))).drew) := (K3.out.setCell (.inl (by simp)) _).drew
    have hw := HW3.out
    have ht' : (t : Int) < 16 := by omega
    go_wp2
    refine wp_region_still_tail 16 (by kernel_rfl) (by kernel_rfl) ?_
    simp only [List.take_succ_cons, List.take_zero, List.drop_succ_cons, List.drop_zero]
    change wpStill _ _ w3.drew _ _ _
    repeat still_step
    refine wpStill_nil ?_
    change wpList _ _ _ _ _ w3.drew
    go_wp2
    exact leave_unlock H4.out ⟨_, results_tmp rfl _ _ _, rfl, H4.out.setLock 0, K4.out.setCell (.inl (by simp)) _⟩
theorem move_c (b : Nat) (q u : Tb) (T : Nat → Int) (e t k n : Int) (w : World) (h : LdAt w b 0 q u) (ho : Ok q u T) :
    Calls Try.prog 15 #[.pointer (some ⟨b, 0, none⟩), .int .i64 e, .int .i64 t, .int .i64 k, .int .i64 n] w fun r w' => r = .returned (.int .i64 (mvC q u e t k n)) ∧ Lf b (mvQ q u e t k n) u w w' := by
  by_cases hc : hsP e k ∧ hsP t k ∧ amP n
  · obtain ⟨hs, ht, ha⟩ := hc
    have hs' := hs
    have ht' := ht
    obtain ⟨⟨h0, h1⟩, h2, h3⟩ := hs'
    obtain ⟨⟨h4, h5⟩, -, -⟩ := ht'
    have hq : gt q e k = q e.toNat k.toNat := if_pos hs
    have hu : gt u e k = u e.toNat k.toNat := if_pos hs
    have hr : gt (up q e.toNat k.toNat (gt q e k - n)) t k = up q e.toNat k.toNat (gt q e k - n) t.toNat k.toNat := if_pos ht
    have e1 : mvC q u e t k n = if n > gt q e k - gt u e k then 21 else 0 := by unfold mvC; rw [if_neg (fun hh => hh ⟨hs, ht, ha⟩)]
    have e2 : mvQ q u e t k n = if n > gt q e k - gt u e k then q else up (up q e.toNat k.toNat (gt q e k - n)) t.toNat k.toNat (gt (up q e.toNat k.toNat (gt q e k - n)) t k + n) := by
      unfold mvQ
      by_cases hn : n ≤ gt q e k - gt u e k
      · rw [if_pos ⟨⟨hs, ht, ha⟩, hn⟩, if_neg (by omega)]
      · rw [if_neg (fun hh => hn hh.2), if_pos (by omega)]
    rw [e1, e2]
    have := move_yes b q u T e.toNat t.toNat k.toNat n w h ho (by omega) (by omega) (by omega) ha _ _ _ hq.symm hu.symm hr.symm
      (if n > gt q e k - gt u e k then 21 else 0) (if n > gt q e k - gt u e k then q else up (up q e.toNat k.toNat (gt q e k - n)) t.toNat k.toNat (gt (up q e.toNat k.toNat (gt q e k - n)) t k + n))
      (fun hn => ⟨if_pos hn, if_pos hn⟩) (fun hn => ⟨if_neg (by omega), if_neg (by omega)⟩)
    rwa [show ((e.toNat : Nat) : Int) = e by omega, show ((t.toNat : Nat) : Int) = t by omega, show ((k.toNat : Nat) : Int) = k by omega] at this
  · have e1 : mvC q u e t k n = 1 := if_pos hc
    have e2 : mvQ q u e t k n = q := if_neg (fun hh => hc hh.1)
    rw [e1, e2]
    refine (move_no b e t k n w hc).mono ?_
    rintro r w' ⟨rfl, rfl⟩
    exact ⟨rfl, h, But.refl _ _⟩
end Go.Proofs.Ytcdbdgmjdmkfeaa.Lg
