/-
  Layer 13 (ledger): contracts of the document's Left, Take (and its free), Move, Close, over the translated program.
-/
import Derived.Test.YtcdbdgmjdmkfeaaLgRef
import Derived.Test.YtcdbdgmjdmkfeaaLgDo
import Derived.Test.YtcdbdgmjdmkfeaaLgClose
namespace Go.Proofs.Ytcdbdgmjdmkfeaa.Lg
open Go.ChangeShapes Go.WideShapes Go.ChangeAt Go.RowKit
set_option linter.unusedVariables false
set_option maxRecDepth 20000

theorem dleft_c (b : Nat) (q u : Tb) (T : Nat → Int) (e k : Int) (w : World) (h : RfAt w b q u) (ho : Ok q u T) :
    Calls Try.prog 11 #[.pointer (some ⟨b, 0, none⟩), .int .i64 e, .int .i64 k] w fun r w' => r = .returned (.int .i64 (gt q e k - gt u e k)) ∧ But [] w w' := by
  by_cases hs : hsP e k
  · have hs' := hs
    obtain ⟨⟨h0, h1⟩, h2, h3⟩ := hs'
    rw [show gt q e k = q e.toNat k.toNat from if_pos hs, show gt u e k = u e.toNat k.toNat from if_pos hs]
    have := rleft_yes b q u T e.toNat k.toNat w h ho (by omega) (by omega)
    rwa [show ((e.toNat : Nat) : Int) = e by omega, show ((k.toNat : Nat) : Int) = k by omega] at this
  · rw [show gt q e k = 0 from if_neg hs, show gt u e k = 0 from if_neg hs]
    exact rleft_no b e k w hs
/-- What a call leaves that may write the document's ledger. -/
def Rl (b : Nat) (q u : Tb) (w w' : World) : Prop := RfAt w' b q u ∧ But [b] w w'
theorem rtake_no (b : Nat) (e k n : Int) (f : Bool) (w : World) (h : ¬ (hsP e k ∧ amP n)) :
    Calls Try.prog 17 #[.pointer (some ⟨b, 0, none⟩), .int .i64 e, .int .i64 k, .int .i64 n, .bool f] w fun r w' => r = .returned (.int .i64 1) ∧ w = w' := by
  have HV : Hid (mayB e k n = false) := decide_eq_false h
  clear h
  go_enter Try.func17, Try.ntmps17
  go_wp2_with (refine (may_c e k n _).mono ?_; rw [HV.out]; rintro r w1 ⟨rfl, rfl⟩)
  go_ret
  exact ⟨rfl, rfl⟩
theorem rtake_yes (b : Nat) (q u : Tb) (T : Nat → Int) (e k : Nat) (n : Int) (w : World) (h : RfAt w b q u) (ho : Ok q u T) (he : e < 16) (hk : k < 4) (ha : amP n) (x y : Int) (hx : q e k = x) (hy : u e k = y)
    (C : Int) (U : Tb) (hp : x - y < n → C = 21 ∧ U = u) (hm : n ≤ x - y → C = 0 ∧ U = up u e k (y + n)) :
    Calls Try.prog 17 #[.pointer (some ⟨b, 0, none⟩), .int .i64 e, .int .i64 k, .int .i64 n, .bool false] w fun r w' => r = .returned (.int .i64 C) ∧ Rl b q U w w' := by
  have HP : Hid (x - y < n → C = 21 ∧ U = u) := hp
  have HM : Hid (n ≤ x - y → C = 0 ∧ U = up u e k (y + n)) := hm
  have HV : Hid (mayB e k n = true) := decide_eq_true ⟨⟨⟨by omega, by omega⟩, by omega, by omega⟩, ha⟩
  obtain ⟨g1, g2, g3⟩ := ho.le e k he hk
  rw [hx] at g2 g3
  rw [hy] at g1 g2
  obtain ⟨a1, a2⟩ := ha
  have HW2 : Hid (IntKind.i64.wrap (y + n) = y + n) := wrap_small _ (by omega) (by omega)
  have H : Hid (RfAt w b q u) := h
  have HO : Hid (Ok q u T) := ho
  have HX : Hid (q e k = x) := hx
  have HY : Hid (u e k = y) := hy
  clear hp hm h ho a1 a2 g1 g2 g3 hx hy
  go_enter Try.func17, Try.ntmps17
  go_wp2_with (go_at_call 22; refine (may_c e k n _).mono ?_; rw [HV.out]; rintro r w1 ⟨rfl, rfl⟩)
  refine (rleft_yes b q u T e k _ H.out HO.out he hk).mono ?_
  rw [HX.out, HY.out]
  rintro r w2 ⟨rfl, k2⟩
  have H2 : Hid (RfAt w2 b q u) := H.out.keep k2 (by simp)
  have K2 : Hid (But [b] w w2) := k2.any _
  clear k2
  by_cases hn : x - y < n
  · obtain ⟨rfl, rfl⟩ := HP.out hn
    go_wp2
    go_ret
    exact ⟨rfl, H2.out, K2.out⟩
  · obtain ⟨rfl, rfl⟩ := HM.out (by omega)
    have hn' : decide (x - y < n) = false := decide_eq_false hn
    obtain ⟨hc, hz⟩ := H2.out.u e k he hk
    rw [HY.out] at hc
    have H3 : Hid (RfAt (w2.setCell ⟨b, e * 8 + 4 + k, none⟩ (.int .i64 (y + n))).drew b q (up u e k (y + n))) := (H2.out.setU e k hk _).keep (But.refl [] _).drew (by simp)
    have K3 : Hid (But [b] w (w2.setCell ⟨b, e * 8 + 4 + k, none⟩ (.int .i64 (y + n))).drew) := (K2.out.setCell (.inl (by simp)) _).drew
    have hw := HW2.out
    have he' : (e : Int) < 16 := by omega
    have hk' : (k : Int) < 4 := by omega
    go_wp2
    refine wp_region_still_tail 19 (by kernel_rfl) (by kernel_rfl) ?_
    simp only [List.take_succ_cons, List.take_zero, List.drop_succ_cons, List.drop_zero]
    change wpStill _ _ w2.drew _ _ _
    repeat still_step
    refine wpStill_nil ?_
    change wpList _ _ _ _ _ w2.drew
    go_wp2
    go_ret
    exact ⟨rfl, H3.out, K3.out⟩
theorem rfree_yes (b : Nat) (q u : Tb) (T : Nat → Int) (e k : Nat) (n : Int) (w : World) (h : RfAt w b q u) (ho : Ok q u T) (he : e < 16) (hk : k < 4) (ha : amP n) (y : Int) (hy : u e k = y)
    (C : Int) (U : Tb) (hp : y < n → C = 1 ∧ U = u) (hm : n ≤ y → C = 0 ∧ U = up u e k (y - n)) :
    Calls Try.prog 17 #[.pointer (some ⟨b, 0, none⟩), .int .i64 e, .int .i64 k, .int .i64 n, .bool true] w fun r w' => r = .returned (.int .i64 C) ∧ Rl b q U w w' := by
  have HP : Hid (y < n → C = 1 ∧ U = u) := hp
  have HM : Hid (n ≤ y → C = 0 ∧ U = up u e k (y - n)) := hm
  have HV : Hid (mayB e k n = true) := decide_eq_true ⟨⟨⟨by omega, by omega⟩, by omega, by omega⟩, ha⟩
  obtain ⟨g1, g2, g3⟩ := ho.le e k he hk
  rw [hy] at g1 g2
  obtain ⟨a1, a2⟩ := ha
  have HW2 : Hid (IntKind.i64.wrap (y - n) = y - n) := wrap_small _ (by omega) (by omega)
  have H : Hid (RfAt w b q u) := h
  have HY : Hid (u e k = y) := hy
  obtain ⟨hc, hz⟩ := h.u e k he hk
  rw [hy] at hc
  have he' : (e : Int) < 16 := by omega
  have hk' : (k : Int) < 4 := by omega
  clear hp hm h ho a1 a2 g1 g2 g3 hy
  by_cases hn : y < n
  · obtain ⟨rfl, rfl⟩ := HP.out hn
    go_enter Try.func17, Try.ntmps17
    go_wp2_with (go_at_call 22; refine (may_c e k n _).mono ?_; rw [HV.out]; rintro r w1 ⟨rfl, rfl⟩)
    go_ret
    exact ⟨rfl, H.out, But.refl _ _⟩
  · obtain ⟨rfl, rfl⟩ := HM.out (by omega)
    have hn' : decide (y < n) = false := decide_eq_false hn
    have H3 : Hid (RfAt (w.setCell ⟨b, e * 8 + 4 + k, none⟩ (.int .i64 (y - n))).drew b q (up u e k (y - n))) := (H.out.setU e k hk _).keep (But.refl [] _).drew (by simp)
    have K3 : Hid (But [b] w (w.setCell ⟨b, e * 8 + 4 + k, none⟩ (.int .i64 (y - n))).drew) := ((But.refl [b] w).setCell (.inl (by simp)) _).drew
    have hw := HW2.out
    go_enter Try.func17, Try.ntmps17
    go_wp2_with (go_at_call 22; refine (may_c e k n _).mono ?_; rw [HV.out]; rintro r w1 ⟨rfl, rfl⟩)
    refine wp_region_still_tail 19 (by kernel_rfl) (by kernel_rfl) ?_
    simp only [List.take_succ_cons, List.take_zero, List.drop_succ_cons, List.drop_zero]
    change wpStill _ _ w.drew _ _ _
    repeat still_step
    refine wpStill_nil ?_
    change wpList _ _ _ _ _ w.drew
    go_wp2
    go_ret
    exact ⟨rfl, H3.out, K3.out⟩
theorem rmove_no (b : Nat) (e t k n : Int) (w : World) (h : ¬ (hsP e k ∧ hsP t k ∧ amP n)) :
    Calls Try.prog 18 #[.pointer (some ⟨b, 0, none⟩), .int .i64 e, .int .i64 t, .int .i64 k, .int .i64 n] w fun r w' => r = .returned (.int .i64 1) ∧ w = w' := by
  by_cases hs : hsP e k ∧ amP n
  · have HV : Hid (mayB e k n = true) := decide_eq_true hs
    have HT : Hid (mayB t k n = false) := decide_eq_false (fun ht => h ⟨hs.1, ht⟩)
    clear h hs
    go_enter Try.func18, Try.ntmps18
    go_wp2_with (first
      | (go_at_call_of 22 e; refine (may_c e k n _).mono ?_; rw [HV.out]; rintro r w1 ⟨rfl, rfl⟩)
      | (go_at_call_of 22 t; refine (may_c t k n _).mono ?_; rw [HT.out]; rintro r w1 ⟨rfl, rfl⟩))
    go_ret
    exact ⟨rfl, rfl⟩
  · have HV : Hid (mayB e k n = false) := decide_eq_false hs
    clear h hs
    go_enter Try.func18, Try.ntmps18
    go_wp2_with (refine (may_c e k n _).mono ?_; rw [HV.out]; rintro r w1 ⟨rfl, rfl⟩)
    go_ret
    exact ⟨rfl, rfl⟩
theorem rmove_yes (b : Nat) (q u : Tb) (T : Nat → Int) (e t k : Nat) (n : Int) (w : World) (h : RfAt w b q u) (ho : Ok q u T) (he : e < 16) (ht : t < 16) (hk : k < 4) (ha : amP n) (x y z : Int) (hx : q e k = x) (hy : u e k = y)
    (hz : up q e k (x - n) t k = z) (C : Int) (Q : Tb) (hp : x - y < n → C = 21 ∧ Q = q) (hm : n ≤ x - y → C = 0 ∧ Q = up (up q e k (x - n)) t k (z + n)) :
    Calls Try.prog 18 #[.pointer (some ⟨b, 0, none⟩), .int .i64 e, .int .i64 t, .int .i64 k, .int .i64 n] w fun r w' => r = .returned (.int .i64 C) ∧ Rl b Q u w w' := by
  have HP : Hid (x - y < n → C = 21 ∧ Q = q) := hp
  have HM : Hid (n ≤ x - y → C = 0 ∧ Q = up (up q e k (x - n)) t k (z + n)) := hm
  have HV : Hid (mayB e k n = true) := decide_eq_true ⟨⟨⟨by omega, by omega⟩, by omega, by omega⟩, ha⟩
  have HT : Hid (mayB t k n = true) := decide_eq_true ⟨⟨⟨by omega, by omega⟩, by omega, by omega⟩, ha⟩
  obtain ⟨g1, g2, g3⟩ := ho.le e k he hk
  obtain ⟨g4, g5, g6⟩ := ho.le t k ht hk
  rw [hx] at g2 g3
  rw [hy] at g1 g2
  obtain ⟨a1, a2⟩ := ha
  have hzl : -512 ≤ z ∧ z ≤ 512 := by
    rw [← hz]
    unfold up
    split <;> omega
  have HW2 : Hid (IntKind.i64.wrap (x - n) = x - n) := wrap_small _ (by omega) (by omega)
  have HW3 : Hid (IntKind.i64.wrap (z + n) = z + n) := wrap_small _ (by omega) (by omega)
  have H : Hid (RfAt w b q u) := h
  have HO : Hid (Ok q u T) := ho
  have HX : Hid (q e k = x) := hx
  have HY : Hid (u e k = y) := hy
  have HZ : Hid (up q e k (x - n) t k = z) := hz
  clear hp hm h ho a1 a2 g1 g2 g3 g4 g5 g6 hx hy hz hzl
  go_enter Try.func18, Try.ntmps18
  go_wp2_with (first
    | (go_at_call_of 22 e; refine (may_c e k n _).mono ?_; rw [HV.out]; rintro r w1 ⟨rfl, rfl⟩)
    | (go_at_call_of 22 t; refine (may_c t k n _).mono ?_; rw [HT.out]; rintro r w1 ⟨rfl, rfl⟩))
  refine (rleft_yes b q u T e k _ H.out HO.out he hk).mono ?_
  rw [HX.out, HY.out]
  rintro r w2 ⟨rfl, k2⟩
  have H2 : Hid (RfAt w2 b q u) := H.out.keep k2 (by simp)
  have K2 : Hid (But [b] w w2) := k2.any _
  clear k2
  by_cases hn : x - y < n
  · obtain ⟨rfl, rfl⟩ := HP.out hn
    go_wp2
    go_ret
    exact ⟨rfl, H2.out, K2.out⟩
  · obtain ⟨rfl, rfl⟩ := HM.out (by omega)
    have hn' : decide (x - y < n) = false := decide_eq_false hn
    obtain ⟨hc, hz⟩ := H2.out.q e k he hk
    rw [HX.out] at hc
    have H3 : Hid (RfAt (w2.setCell ⟨b, e * 8 + k, none⟩ (.int .i64 (x - n))).drew b (up q e k (x - n)) u) := (H2.out.setQ e k hk _).keep (But.refl [] _).drew (by simp)
    have K3 : Hid (But [b] w (w2.setCell ⟨b, e * 8 + k, none⟩ (.int .i64 (x - n))).drew) := (K2.out.setCell (.inl (by simp)) _).drew
    have hw := HW2.out
    have he' : (e : Int) < 16 := by omega
    have hk' : (k : Int) < 4 := by omega
    go_wp2
    refine wp_region_still_tail 19 (by kernel_rfl) (by kernel_rfl) ?_
    simp only [List.take_succ_cons, List.take_zero, List.drop_succ_cons, List.drop_zero]
    change wpStill _ _ w2.drew _ _ _
    repeat still_step
    refine wpStill_nil ?_
    change wpList _ _ _ _ _ w2.drew
    go_upto_region 6 with fail
    clear hc hz hw
    generalize (w2.setCell ⟨b, e * 8 + k, none⟩ (.int .i64 (x - n))).drew = w3 at H3 K3 ⊢
    obtain ⟨hc, hz⟩ := H3.out.q t k ht hk
    rw [HZ.out] at hc
    have H4 : Hid (RfAt (w3.setCell ⟨b, t * 8 + k, none⟩ (.int .i64 (z + n))).drew b (up (up q e k (x - n)) t k (z + n)) u) := (H3.out.setQ t k hk _).keep (But.refl [] _).drew (by simp)
    have K4 : Hid (But [b] w (w3.setCell ⟨b, t * 8 + k, none⟩ (.int .i64 (z + n))).drew) := (K3.out.setCell (.inl (by simp)) _).drew
    have hw := HW3.out
    have ht' : (t : Int) < 16 := by omega
    go_wp2
    refine wp_region_still_tail 19 (by kernel_rfl) (by kernel_rfl) ?_
    simp only [List.take_succ_cons, List.take_zero, List.drop_succ_cons, List.drop_zero]
    change wpStill _ _ w3.drew _ _ _
    repeat still_step
    refine wpStill_nil ?_
    change wpList _ _ _ _ _ w3.drew
    go_wp2
    go_ret
    exact ⟨rfl, H4.out, K4.out⟩
end Go.Proofs.Ytcdbdgmjdmkfeaa.Lg
