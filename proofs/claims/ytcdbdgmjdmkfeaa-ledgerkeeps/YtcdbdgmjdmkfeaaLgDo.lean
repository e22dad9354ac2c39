/-
  Layer 13 (ledger): contracts of Take, Free, over the translated program.
-/
import Derived.Test.YtcdbdgmjdmkfeaaLgAt
import Derived.Deep.CutBlock
import Derived.Deep.CutRange
import Derived.Deep.RegionHeld3
namespace Go.Proofs.Ytcdbdgmjdmkfeaa.Lg
open Go.ChangeShapes Go.WideShapes Go.ChangeAt Go.RowKit
set_option linter.unusedVariables false
set_option maxRecDepth 20000

/-- What a call leaves that may write the ledger. -/
def Lf (b : Nat) (q u : Tb) (w w' : World) : Prop := LdAt w' b 0 q u ∧ But [b] w w'
theorem take_no (b : Nat) (e k n : Int) (w : World) (h : ¬ (hsP e k ∧ amP n)) :
    Calls Try.prog 13 #[.pointer (some ⟨b, 0, none⟩), .int .i64 e, .int .i64 k, .int .i64 n] w fun r w' => r = .returned (.int .i64 1) ∧ w = w' := by
  by_cases hs : hsP e k
  · have HV : Hid (hsB e k = true) := decide_eq_true hs
    have HA : Hid (amB n = false) := decide_eq_false (fun ha => h ⟨hs, ha⟩)
    clear h hs
    go_enter_defers Try.func13, Try.ntmps13
    go_wp2_with (first
      | (go_at_call 23; refine (has_c b e k _).mono ?_; rw [HV.out]; rintro r w1 ⟨rfl, rfl⟩)
      | (go_at_call 24; refine (isAmount_c n _).mono ?_; rw [HA.out]; rintro r w2 ⟨rfl, rfl⟩))
    exact ⟨_, results_tmp rfl _ _ _, rfl, rfl⟩
  · have HV : Hid (hsB e k = false) := decide_eq_false hs
    clear h hs
    go_enter_defers Try.func13, Try.ntmps13
    go_wp2_with (first
      | (go_at_call 23; refine (has_c b e k _).mono ?_; rw [HV.out]; rintro r w1 ⟨rfl, rfl⟩))
    exact ⟨_, results_tmp rfl _ _ _, rfl, rfl⟩
theorem take_yes (b : Nat) (q u : Tb) (T : Nat → Int) (e k : Nat) (n : Int) (w : World) (h : LdAt w b 0 q u) (ho : Ok q u T) (he : e < 16) (hk : k < 4) (ha : amP n) (x y : Int) (hx : q e k = x) (hy : u e k = y) (C : Int) (U : Tb) (hp : x - y < n → C = 21 ∧ U = u) (hm : n ≤ x - y → C = 0 ∧ U = up u e k (y + n)) :
    Calls Try.prog 13 #[.pointer (some ⟨b, 0, none⟩), .int .i64 e, .int .i64 k, .int .i64 n] w fun r w' =>
      r = .returned (.int .i64 C) ∧ Lf b q U w w' := by
  have HP : Hid (x - y < n → C = 21 ∧ U = u) := hp
  have HM : Hid (n ≤ x - y → C = 0 ∧ U = up u e k (y + n)) := hm
  clear hp hm
  obtain ⟨g1, g2, g3⟩ := ho.le e k he hk
  rw [hx] at g2 g3
  rw [hy] at g1 g2
  obtain ⟨a1, a2⟩ := ha
  have HW : Hid (IntKind.i64.wrap (x - y) = x - y) := wrap_small _ (by omega) (by omega)
  have HW2 : Hid (IntKind.i64.wrap (y + n) = y + n) := wrap_small _ (by omega) (by omega)
  have HV : Hid (hsB e k = true) := decide_eq_true ⟨⟨by omega, by omega⟩, by omega, by omega⟩
  have HA : Hid (amB n = true) := decide_eq_true ⟨a1, a2⟩
  have H : Hid (LdAt w b 0 q u) := h
  have H1 : Hid (LdAt (w.setCell ⟨b, 0, none⟩ (.int .i32 1)) b 1 q u) := h.setLock 1
  have K1 : Hid (But [b] w (w.setCell ⟨b, 0, none⟩ (.int .i32 1))) := (But.refl [b] w).setCell (.inl (by simp)) _
  have HX : Hid (q e k = x) := hx
  have HY : Hid (u e k = y) := hy
  clear h ho a1 a2 g1 g2 g3 hx hy
  go_enter_defers Try.func13, Try.ntmps13
  go_upto_region 3 with (first
    | (go_at_call 23; refine (has_c b e k _).mono ?_; rw [HV.out]; rintro r w1 ⟨rfl, rfl⟩)
    | (go_at_call 24; refine (isAmount_c n _).mono ?_; rw [HA.out]; rintro r w2 ⟨rfl, rfl⟩))
  go_wp2_with fail
  refine (mutex_lock ⟨b, 0, none⟩ _ H.out.lock.1 H.out.lock.2).mono ?_
  rintro r w3 ⟨rfl, rfl⟩
  generalize w.setCell ⟨b, 0, none⟩ (.int .i32 1) = w1 at H1 K1 ⊢
  have hrow := H1.out.row e k he hk
  rw [HX.out, HY.out] at hrow
  have HR : Hid (w1.rangeAt b (2 + e * 8 + k * 2) [.int .i64 x, .int .i64 y]) := hrow
  clear hrow
  go_wp2_with (first
    | (refine wpList_load_mid rfl 54 _ rfl b (2 + e * 8 + k * 2) rfl [.int .i64 x, .int .i64 y] _ HR.out Try.underlying54 rfl infoRow ?_))
  refine (rleft_c x y _ HW.out).mono ?_
  rintro r w2 ⟨rfl, k2⟩
  have H2 : Hid (LdAt w2 b 1 q u) := H1.out.keep k2 (by simp)
  have K2 : Hid (But [b] w w2) := K1.out.trans (k2.any _)
  clear k2 HR
  by_cases hn : x - y < n
  · obtain ⟨rfl, rfl⟩ := HP.out hn
    go_wp2
    exact leave_unlock H2.out ⟨_, results_tmp rfl _ _ _, rfl, H2.out.setLock 0, K2.out.setCell (.inl (by simp)) _⟩
  · obtain ⟨rfl, rfl⟩ := HM.out (by omega)
    have hn' : decide (x - y < n) = false := decide_eq_false hn
    obtain ⟨hc, hz⟩ := H2.out.u e k he hk
    rw [HY.out] at hc
    have H3 : Hid (LdAt (w2.setCell ⟨b, 2 + e * 8 + k * 2 + 1, none⟩ (.int .i64 (y + n))) b 1 q (up u e k (y + n))) := H2.out.setU e k hk _
    have K3 : Hid (But [b] w (w2.setCell ⟨b, 2 + e * 8 + k * 2 + 1, none⟩ (.int .i64 (y + n)))) := K2.out.setCell (.inl (by simp)) _
    have hw := HW2.out
    go_wp2
    exact leave_unlock H3.out ⟨_, results_tmp rfl _ _ _, rfl, H3.out.setLock 0, K3.out.setCell (.inl (by simp)) _⟩
theorem take_c (b : Nat) (q u : Tb) (T : Nat → Int) (e k n : Int) (w : World) (h : LdAt w b 0 q u) (ho : Ok q u T) :
    Calls Try.prog 13 #[.pointer (some ⟨b, 0, none⟩), .int .i64 e, .int .i64 k, .int .i64 n] w fun r w' => r = .returned (.int .i64 (tkC q u e k n)) ∧ Lf b q (tkU q u e k n) w w' := by
  by_cases hc : hsP e k ∧ amP n
  · have hs := hc.1
    have hs' := hs
    obtain ⟨⟨h0, h1⟩, h2, h3⟩ := hs'
    have hq : gt q e k = q e.toNat k.toNat := if_pos hs
    have hu : gt u e k = u e.toNat k.toNat := if_pos hs
    have e1 : tkC q u e k n = if n > gt q e k - gt u e k then 21 else 0 := by unfold tkC; rw [if_neg (fun hh => hh hc)]
    have e2 : tkU q u e k n = if n > gt q e k - gt u e k then u else up u e.toNat k.toNat (gt u e k + n) := by
      unfold tkU
      by_cases hn : n ≤ gt q e k - gt u e k
      · rw [if_pos ⟨hc, hn⟩, if_neg (by omega)]
      · rw [if_neg (fun hh => hn hh.2), if_pos (by omega)]
    rw [e1, e2]
    have := take_yes b q u T e.toNat k.toNat n w h ho (by omega) (by omega) hc.2 _ _ hq.symm hu.symm (if n > gt q e k - gt u e k then 21 else 0) (if n > gt q e k - gt u e k then u else up u e.toNat k.toNat (gt u e k + n)) (fun hn => ⟨if_pos hn, if_pos hn⟩) (fun hn => ⟨if_neg (by omega), if_neg (by omega)⟩)
    rwa [show ((e.toNat : Nat) : Int) = e by omega, show ((k.toNat : Nat) : Int) = k by omega] at this
  · have e1 : tkC q u e k n = 1 := if_pos hc
    have e2 : tkU q u e k n = u := if_neg (fun hh => hc hh.1)
    rw [e1, e2]
    refine (take_no b e k n w hc).mono ?_
    rintro r w' ⟨rfl, rfl⟩
    exact ⟨rfl, h, But.refl _ _⟩
theorem take_nil (e k n : Int) (w : World) :
    Calls Try.prog 13 #[.pointer none, .int .i64 e, .int .i64 k, .int .i64 n] w fun r w' => r = .returned (.int .i64 1) ∧ w = w' := by
  go_enter_defers Try.func13, Try.ntmps13
  go_wp2_with (first
    | (go_at_call 23; refine (has_nil e k _).mono ?_; rintro r w1 ⟨rfl, rfl⟩))
  exact ⟨_, results_tmp rfl _ _ _, rfl, rfl⟩

theorem free_no (b : Nat) (e k n : Int) (w : World) (h : ¬ (hsP e k ∧ amP n)) :
    Calls Try.prog 14 #[.pointer (some ⟨b, 0, none⟩), .int .i64 e, .int .i64 k, .int .i64 n] w fun r w' => r = .returned (.int .i64 1) ∧ w = w' := by
  by_cases hs : hsP e k
  · have HV : Hid (hsB e k = true) := decide_eq_true hs
    have HA : Hid (amB n = false) := decide_eq_false (fun ha => h ⟨hs, ha⟩)
    clear h hs
    go_enter_defers Try.func14, Try.ntmps14
    go_wp2_with (first
      | (go_at_call 23; refine (has_c b e k _).mono ?_; rw [HV.out]; rintro r w1 ⟨rfl, rfl⟩)
      | (go_at_call 24; refine (isAmount_c n _).mono ?_; rw [HA.out]; rintro r w2 ⟨rfl, rfl⟩))
    exact ⟨_, results_tmp rfl _ _ _, rfl, rfl⟩
  · have HV : Hid (hsB e k = false) := decide_eq_false hs
    clear h hs
    go_enter_defers Try.func14, Try.ntmps14
    go_wp2_with (first
      | (go_at_call 23; refine (has_c b e k _).mono ?_; rw [HV.out]; rintro r w1 ⟨rfl, rfl⟩))
    exact ⟨_, results_tmp rfl _ _ _, rfl, rfl⟩
theorem free_yes (b : Nat) (q u : Tb) (T : Nat → Int) (e k : Nat) (n : Int) (w : World) (h : LdAt w b 0 q u) (ho : Ok q u T) (he : e < 16) (hk : k < 4) (ha : amP n) (y : Int) (hy : u e k = y) (C : Int) (U : Tb) (hp : y < n → C = 1 ∧ U = u) (hm : n ≤ y → C = 0 ∧ U = up u e k (y - n)) :
    Calls Try.prog 14 #[.pointer (some ⟨b, 0, none⟩), .int .i64 e, .int .i64 k, .int .i64 n] w fun r w' =>
      r = .returned (.int .i64 C) ∧ Lf b q U w w' := by
  have HP : Hid (y < n → C = 1 ∧ U = u) := hp
  have HM : Hid (n ≤ y → C = 0 ∧ U = up u e k (y - n)) := hm
  clear hp hm
  obtain ⟨g1, g2, g3⟩ := ho.le e k he hk
  rw [hy] at g1 g2
  obtain ⟨a1, a2⟩ := ha
  have HW2 : Hid (IntKind.i64.wrap (y - n) = y - n) := wrap_small _ (by omega) (by omega)
  have HV : Hid (hsB e k = true) := decide_eq_true ⟨⟨by omega, by omega⟩, by omega, by omega⟩
  have HA : Hid (amB n = true) := decide_eq_true ⟨a1, a2⟩
  have H : Hid (LdAt w b 0 q u) := h
  have H1 : Hid (LdAt (w.setCell ⟨b, 0, none⟩ (.int .i32 1)) b 1 q u) := h.setLock 1
  have K1 : Hid (But [b] w (w.setCell ⟨b, 0, none⟩ (.int .i32 1))) := (But.refl [b] w).setCell (.inl (by simp)) _
  have HY : Hid (u e k = y) := hy
  clear h ho a1 a2 g1 g2 g3 hy
  go_enter_defers Try.func14, Try.ntmps14
  go_upto_region 3 with (first
    | (go_at_call 23; refine (has_c b e k _).mono ?_; rw [HV.out]; rintro r w1 ⟨rfl, rfl⟩)
    | (go_at_call 24; refine (isAmount_c n _).mono ?_; rw [HA.out]; rintro r w2 ⟨rfl, rfl⟩))
  go_wp2_with fail
  refine (mutex_lock ⟨b, 0, none⟩ _ H.out.lock.1 H.out.lock.2).mono ?_
  rintro r w3 ⟨rfl, rfl⟩
  generalize w.setCell ⟨b, 0, none⟩ (.int .i32 1) = w2 at H1 K1 ⊢
  obtain ⟨hc, hz⟩ := H1.out.u e k he hk
  rw [HY.out] at hc
  by_cases hn : y < n
  · obtain ⟨rfl, rfl⟩ := HP.out hn
    go_wp2
    exact leave_unlock H1.out ⟨_, results_tmp rfl _ _ _, rfl, H1.out.setLock 0, K1.out.setCell (.inl (by simp)) _⟩
  · obtain ⟨rfl, rfl⟩ := HM.out (by omega)
    have hn' : decide (y < n) = false := decide_eq_false hn
    have H3 : Hid (LdAt (w2.setCell ⟨b, 2 + e * 8 + k * 2 + 1, none⟩ (.int .i64 (y - n))) b 1 q (up u e k (y - n))) := H1.out.setU e k hk _
    have K3 : Hid (But [b] w (w2.setCell ⟨b, 2 + e * 8 + k * 2 + 1, none⟩ (.int .i64 (y - n)))) := K1.out.setCell (.inl (by simp)) _
    have hw := HW2.out
    go_wp2
    exact leave_unlock H3.out ⟨_, results_tmp rfl _ _ _, rfl, H3.out.setLock 0, K3.out.setCell (.inl (by simp)) _⟩
theorem free_c (b : Nat) (q u : Tb) (T : Nat → Int) (e k n : Int) (w : World) (h : LdAt w b 0 q u) (ho : Ok q u T) :
    Calls Try.prog 14 #[.pointer (some ⟨b, 0, none⟩), .int .i64 e, .int .i64 k, .int .i64 n] w fun r w' => r = .returned (.int .i64 (frC u e k n)) ∧ Lf b q (frU u e k n) w w' := by
  by_cases hc : hsP e k ∧ amP n
  · have hs := hc.1
    have hs' := hs
    obtain ⟨⟨h0, h1⟩, h2, h3⟩ := hs'
    have hu : gt u e k = u e.toNat k.toNat := if_pos hs
    have e1 : frC u e k n = if n > gt u e k then 1 else 0 := by
      unfold frC
      by_cases hn : n > gt u e k
      · rw [if_pos (.inr hn), if_pos hn]
      · rw [if_neg (fun hh => hh.elim (fun h' => h' hc) hn), if_neg hn]
    have e2 : frU u e k n = if n > gt u e k then u else up u e.toNat k.toNat (gt u e k - n) := by
      unfold frU
      by_cases hn : n ≤ gt u e k
      · rw [if_pos ⟨hc, hn⟩, if_neg (by omega)]
      · rw [if_neg (fun hh => hn hh.2), if_pos (by omega)]
    rw [e1, e2]
    have := free_yes b q u T e.toNat k.toNat n w h ho (by omega) (by omega) hc.2 _ hu.symm (if n > gt u e k then 1 else 0) (if n > gt u e k then u else up u e.toNat k.toNat (gt u e k - n)) (fun hn => ⟨if_pos hn, if_pos hn⟩) (fun hn => ⟨if_neg (by omega), if_neg (by omega)⟩)
    rwa [show ((e.toNat : Nat) : Int) = e by omega, show ((k.toNat : Nat) : Int) = k by omega] at this
  · have e1 : frC u e k n = 1 := if_pos (.inl hc)
    have e2 : frU u e k n = u := if_neg (fun hh => hc hh.1)
    rw [e1, e2]
    refine (free_no b e k n w hc).mono ?_
    rintro r w' ⟨rfl, rfl⟩
    exact ⟨rfl, h, But.refl _ _⟩
theorem free_nil (e k n : Int) (w : World) :
    Calls Try.prog 14 #[.pointer none, .int .i64 e, .int .i64 k, .int .i64 n] w fun r w' => r = .returned (.int .i64 1) ∧ w = w' := by
  go_enter_defers Try.func14, Try.ntmps14
  go_wp2_with (first
    | (go_at_call 23; refine (has_nil e k _).mono ?_; rintro r w1 ⟨rfl, rfl⟩))
  exact ⟨_, results_tmp rfl _ _ _, rfl, rfl⟩
end Go.Proofs.Ytcdbdgmjdmkfeaa.Lg
