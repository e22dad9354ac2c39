/-
  Layer 17 (abort): contracts of the document's Right, has, Ask, Without, Turn, First, over the translated program.
-/
import Derived.Test.YtfopmdiepaonnaaAoFst
namespace Go.Proofs.Ytfopmdiepaonnaa.Ao
open Go.ChangeShapes Go.WideShapes Go.ChangeAt Go.RowKit
open Wh
set_option linter.unusedVariables false
set_option maxRecDepth 20000

abbrev rW : TypeId := 29
abbrev rS : TypeId := 28
theorem infoRw : (Try.prog.info? rW).map (fun i => (i.zero, i.size, i.bytes)) = some (some (.agg #[.int .i64 0, .int .i64 0, .int .i64 0, .int .i64 0]), 4, 32) := by kernel_rfl
theorem szRw : (Try.prog.info? rW).map (·.size) = some 4 := by kernel_rfl
theorem zRw (w : World) : (zeroValue rW).run Try.prog w = .ok (.agg #[.int .i64 0, .int .i64 0, .int .i64 0, .int .i64 0]) w := by kernel_rfl
set_option maxHeartbeats 1000000 in
theorem right_c (e k n t : Int) (w : World) : Calls Try.prog 23 #[.agg #[.int .i64 e, .int .i64 k, .int .i64 n, .int .i64 t]] w fun r w' => r = .returned (.bool (mb ⟨e, k, n, t⟩)) ∧ But [] w w' := by
  have HK := hid ((But.refl [] w).alloc (.cells #[.int .i64 e, .int .i64 k, .int .i64 n, .int .i64 t] rW))
  by_cases h0 : 0 ≤ e
  · by_cases h1 : e ≤ 15
    · by_cases h2 : 0 ≤ k
      · by_cases h3 : k ≤ 3
        · by_cases h4 : 0 ≤ n
          · by_cases h5 : n ≤ 511
            · by_cases h6 : 1 ≤ t
              · by_cases h7 : t ≤ 100
                · have HV : Hid (mb ⟨e, k, n, t⟩ = true) := mb_iff.2 ⟨h0, h1, h2, h3, h4, h5, h6, h7⟩
                  go_enter Try.func23, Try.ntmps23
                  go_wp2
                  go_ret
                  exact ⟨by rw [HV.out]; rfl, HK.out⟩
                · have HV : Hid (mb ⟨e, k, n, t⟩ = false) := Bool.eq_false_iff.2 fun hh => h7 (mb_iff.1 hh).2.2.2.2.2.2.2
                  have h' : decide (t ≤ 100) = false := decide_eq_false h7
                  go_enter Try.func23, Try.ntmps23
                  go_wp2
                  go_ret
                  exact ⟨by rw [HV.out]; rfl, HK.out⟩
              · have HV : Hid (mb ⟨e, k, n, t⟩ = false) := Bool.eq_false_iff.2 fun hh => h6 (mb_iff.1 hh).2.2.2.2.2.2.1
                have h' : decide (1 ≤ t) = false := decide_eq_false h6
                go_enter Try.func23, Try.ntmps23
                go_wp2
                go_ret
                exact ⟨by rw [HV.out]; rfl, HK.out⟩
            · have HV : Hid (mb ⟨e, k, n, t⟩ = false) := Bool.eq_false_iff.2 fun hh => h5 (mb_iff.1 hh).2.2.2.2.2.1
              have h' : decide (n ≤ 511) = false := decide_eq_false h5
              go_enter Try.func23, Try.ntmps23
              go_wp2
              go_ret
              exact ⟨by rw [HV.out]; rfl, HK.out⟩
          · have HV : Hid (mb ⟨e, k, n, t⟩ = false) := Bool.eq_false_iff.2 fun hh => h4 (mb_iff.1 hh).2.2.2.2.1
            have h' : decide (0 ≤ n) = false := decide_eq_false h4
            go_enter Try.func23, Try.ntmps23
            go_wp2
            go_ret
            exact ⟨by rw [HV.out]; rfl, HK.out⟩
        · have HV : Hid (mb ⟨e, k, n, t⟩ = false) := Bool.eq_false_iff.2 fun hh => h3 (mb_iff.1 hh).2.2.2.1
          have h' : decide (k ≤ 3) = false := decide_eq_false h3
          go_enter Try.func23, Try.ntmps23
          go_wp2
          go_ret
          exact ⟨by rw [HV.out]; rfl, HK.out⟩
      · have HV : Hid (mb ⟨e, k, n, t⟩ = false) := Bool.eq_false_iff.2 fun hh => h2 (mb_iff.1 hh).2.2.1
        have h' : decide (0 ≤ k) = false := decide_eq_false h2
        go_enter Try.func23, Try.ntmps23
        go_wp2
        go_ret
        exact ⟨by rw [HV.out]; rfl, HK.out⟩
    · have HV : Hid (mb ⟨e, k, n, t⟩ = false) := Bool.eq_false_iff.2 fun hh => h1 (mb_iff.1 hh).2.1
      have h' : decide (e ≤ 15) = false := decide_eq_false h1
      go_enter Try.func23, Try.ntmps23
      go_wp2
      go_ret
      exact ⟨by rw [HV.out]; rfl, HK.out⟩
  · have HV : Hid (mb ⟨e, k, n, t⟩ = false) := Bool.eq_false_iff.2 fun hh => h0 (mb_iff.1 hh).1
    have h' : decide (0 ≤ e) = false := decide_eq_false h0
    go_enter Try.func23, Try.ntmps23
    go_wp2
    go_ret
    exact ⟨by rw [HV.out]; rfl, HK.out⟩
set_option maxHeartbeats 1000000 in
theorem has_c (A : Option Addr) (n c : Nat) (l : List Wn) (e k m : Int) (w : World) (h : Li w A l) (hn : l.length = n) (hm : n ≤ 1000) :
    Calls Try.prog 24 #[.slice A n c, .int .i64 e, .int .i64 k, .int .i64 m] w fun r w' => r = .returned (.bool (l.any (key e k m))) ∧ But [] w w' := by
  have HL := hid h
  have HN := hid hn
  clear h hn
  go_enter Try.func24, Try.ntmps24
  go_wp2
  go_loopg [9] (n + 1) (fun g0 i wx => ∃ j : Nat, j + g0 = n + 1 ∧ j ≤ n ∧ i = .int .i64 j ∧ Hid (∀ q, q < j → key e k m (l.getD q nw) = false) ∧ Hid (But [] w wx))
  case atStart => exact ⟨0, by omega, by omega, rfl, fun q hq => absurd hq (Nat.not_lt_zero _), But.refl _ _⟩
  case round =>
    obtain ⟨j, hjg, hj, rfl, HX, HB⟩ := hrel
    by_cases hlt : j < n
    · have hlx : j < l.length := by have := HN.out; omega
      obtain ⟨g, off, hA, hg, hrow⟩ := HL.out.at_ hlx
      have hr := range_keep (hrow j hlx) HB.out (by simp)
      have HHIT : Hid (key e k m (l.getD j nw) = true → l.any (key e k m) = true) := any_hit hlx
      have HX1 : Hid (key e k m (l.getD j nw) = false → ∀ q, q < j + 1 → key e k m (l.getD q nw) = false) := fun hv q hq => by
        rcases Nat.lt_or_ge q j with h | h
        · exact HX.out q h
        · obtain rfl : q = j := by omega
          exact hv
      generalize l.getD j nw = a at hr HHIT HX1
      obtain ⟨x, y, z, t⟩ := a
      subst hA
      obtain ⟨h1, h2, h3, h4⟩ := four hr
      clear hrow hlx HX hr hg h4
      by_cases e1 : x = e
      · by_cases e2 : y = k
        · by_cases e3 : z = m
          · have HE := hid (HHIT.out (key_iff.2 ⟨e1, e2, e3⟩))
            subst e1
            subst e2
            subst e3
            clear HHIT HX1
            go_wp2
            go_ret
            exact ⟨by rw [HE.out]; rfl, HB.out⟩
          · have HX2 := hid (HX1.out (Bool.eq_false_iff.2 fun hh => e3 (key_iff.1 hh).2.2))
            have hne : (z == m) = false := by simp [e3]
            subst e1
            subst e2
            clear HHIT HX1
            go_wp2
            go_roundg (n + 1 - (j + 1))
            case measure => omega
            case rel => exact ⟨j + 1, by omega, by omega, by go_num, HX2.out, HB.out⟩
        · have HX2 := hid (HX1.out (Bool.eq_false_iff.2 fun hh => e2 (key_iff.1 hh).2.1))
          have hne : (y == k) = false := by simp [e2]
          subst e1
          clear HHIT HX1
          go_wp2
          go_roundg (n + 1 - (j + 1))
          case measure => omega
          case rel => exact ⟨j + 1, by omega, by omega, by go_num, HX2.out, HB.out⟩
      · have HX2 := hid (HX1.out (Bool.eq_false_iff.2 fun hh => e1 (key_iff.1 hh).1))
        have hne : (x == e) = false := by simp [e1]
        clear HHIT HX1
        go_wp2
        go_roundg (n + 1 - (j + 1))
        case measure => omega
        case rel => exact ⟨j + 1, by omega, by omega, by go_num, HX2.out, HB.out⟩
    · obtain rfl : j = n := by omega
      have HE : Hid (l.any (key e k m) = false) := any_no fun q hq => HX.out q (by have := HN.out; omega)
      go_wp2
      go_ret
      exact ⟨by rw [HE.out]; rfl, HB.out⟩
theorem fst_hit {l : List Wn} {e k : Int} {j : Nat} (ho : Ok l) (h : l.any (key e k j) = true) (hb : ∀ q : Nat, q < j → l.any (key e k q) = false) : Fst l e k j := by
  obtain ⟨a, ha, hk⟩ := List.any_eq_true.1 h
  obtain ⟨h1, h2, h3⟩ := key_iff.1 hk
  refine .inr ⟨⟨a, List.mem_filter.2 ⟨ha, ofK_iff.2 ⟨h1, h2⟩⟩, h3⟩, fun b hbm => ?_, by omega⟩
  obtain ⟨h4, h5⟩ := List.mem_filter.1 hbm
  obtain ⟨h6, h7⟩ := ofK_iff.1 h5
  have h8 := mb_iff.1 (ho.2 b h4)
  by_cases hlt : (j : Int) ≤ b.n
  · exact hlt
  · exfalso
    have := List.any_eq_false.1 (hb b.n.toNat (by omega)) b h4
    exact this (key_iff.2 ⟨h6, h7, by omega⟩)
theorem fst_no {l : List Wn} {e k : Int} (ho : Ok l) (hb : ∀ q : Nat, q < 512 → l.any (key e k q) = false) : Fst l e k (-1) := by
  refine .inl ⟨rfl, List.filter_eq_nil_iff.2 fun b h4 h5 => ?_⟩
  obtain ⟨h6, h7⟩ := ofK_iff.1 h5
  have h8 := mb_iff.1 (ho.2 b h4)
  have := List.any_eq_false.1 (hb b.n.toNat (by omega)) b h4
  exact this (key_iff.2 ⟨h6, h7, by omega⟩)
set_option maxHeartbeats 1000000 in
theorem rfirst_c (A : Option Addr) (n c : Nat) (l : List Wn) (e k : Int) (w : World) (ho : Ok l) (h : Li w A l) (hn : l.length = n) :
    Calls Try.prog 17 #[.slice A n c, .int .i64 e, .int .i64 k] w fun r w' => (∃ m, Fst l e k m ∧ r = .returned (.int .i64 m)) ∧ But [] w w' := by
  have HL := hid h
  have HN := hid hn
  have HO := hid ho
  have hm : n ≤ 64 := by have := ho.1; omega
  clear h hn ho
  go_enter Try.func17, Try.ntmps17
  go_wp2
  go_loopg [7] 513 (fun g0 i wx => ∃ j : Nat, j + g0 = 513 ∧ j ≤ 512 ∧ i = .int .i64 j ∧ Hid (∀ q : Nat, q < j → l.any (key e k q) = false) ∧ Hid (But [] w wx))
  case atStart => exact ⟨0, by omega, by omega, rfl, fun q hq => absurd hq (Nat.not_lt_zero _), But.refl _ _⟩
  case round =>
    obtain ⟨j, hjg, hj, rfl, HX, HB⟩ := hrel
    by_cases hlt : j < 512
    · have HC := hid (has_c A n c l e k j wr (HL.out.keep HB.out) HN.out (by omega))
      go_wp2_with fail
      refine HC.out.mono ?_
      rintro r w2 ⟨rfl, k2⟩
      have HB2 := hid (HB.out.trans k2)
      clear k2 HC
      cases hv : l.any (key e k j) with
      | true =>
        have HE := hid (fst_hit HO.out hv HX.out)
        clear hv HX
        go_wp2
        go_ret
        exact ⟨⟨_, HE.out, rfl⟩, HB2.out⟩
      | false =>
        have HX1 : Hid (∀ q : Nat, q < j + 1 → l.any (key e k q) = false) := fun q hq => by
          rcases Nat.lt_or_ge q j with h | h
          · exact HX.out q h
          · obtain rfl : q = j := by omega
            exact hv
        clear hv HX
        go_wp2
        go_roundg (513 - (j + 1))
        case measure => omega
        case rel => exact ⟨j + 1, by omega, by omega, by go_num, HX1.out, HB2.out⟩
    · obtain rfl : j = 512 := by omega
      have HE := hid (fst_no HO.out HX.out)
      go_wp2
      go_ret
      exact ⟨⟨_, HE.out, rfl⟩, HB.out⟩
set_option maxHeartbeats 2000000 in
theorem rwithout_c (A : Option Addr) (n c : Nat) (l : List Wn) (e k m : Int) (w : World) (h : Li w A l) (hn : l.length = n) (hm : n ≤ 1000) :
    Calls Try.prog 10 #[.slice A n c, .int .i64 e, .int .i64 k, .int .i64 m] w fun r w' => ∃ v, r = .returned v ∧ Que w' w.heap.size 4 v (l.filter fun a => !wth e k m a).length (wl (l.filter fun a => !wth e k m a)) ∧ But [] w w' := by
  have HL := hid h
  have HN := hid hn
  obtain ⟨p, hp⟩ : ∃ p, p = fun a => !wth e k m a := ⟨_, rfl⟩
  have HP : Hid (∀ a, p a = !wth e k m a) := fun a => by rw [hp]
  have HPE := hid hp
  clear h hn hp
  go_enter Try.func10, Try.ntmps10
  go_wp2
  go_loopg [9, 10] (n + 1) (fun g0 v i wx => ∃ j : Nat, j + g0 = n + 1 ∧ j ≤ n ∧ i = .int .i64 j ∧ Hid (Que wx w.heap.size 4 v ((l.take j).filter p).length (wl ((l.take j).filter p))) ∧ Hid (But [] w wx))
  case atStart => exact ⟨0, by omega, by omega, rfl, Que.nil _ _ _, But.refl _ _⟩
  case round =>
    obtain ⟨j, hjg, hj, rfl, HQ, HB⟩ := hrel
    by_cases hlt : j < n
    · have hlx : j < l.length := by have := HN.out; omega
      obtain ⟨g, off, hA, hg, hrow⟩ := HL.out.at_ hlx
      have hr := range_keep (hrow j hlx) HB.out (by simp)
      have HW := hid (filt_snoc p l j hlx)
      have hle : ((l.take j).filter p).length ≤ n := Nat.le_trans (List.length_filter_le _ _) (by rw [List.length_take]; omega)
      generalize l.getD j nw = a at hr HW
      generalize (l.take j).filter p = L at *
      have HPA := hid (HP.out a)
      obtain ⟨x, y, z, t⟩ := a
      subst hA
      obtain ⟨h1, h2, h3, h4⟩ := four hr
      obtain ⟨A0, c0, rfl, -⟩ := HQ.out.form
      obtain ⟨g5, off5, c5, w5, hr5, hq5, hk5, -⟩ := que_push (P := Try.prog) rS rW _ Try.underlying28 infoRw rfl (by decide) (by decide) HQ.out (Wn.vs ⟨x, y, z, t⟩) rfl (vs_one _) HB.out.size (by omega)
      have HR5 := hid hr5
      have HQ5 : Hid (p ⟨x, y, z, t⟩ = true → Que w5 w.heap.size 4 (.slice (some ⟨g5, off5, none⟩) (L.length + 1) c5) ((l.take (j + 1)).filter p).length (wl ((l.take (j + 1)).filter p))) := fun hh => by
        rw [HW.out, if_pos hh, wl_app, List.length_append]
        exact hq5
      have HQ6 : Hid (p ⟨x, y, z, t⟩ = false → Que wr w.heap.size 4 (.slice A0 L.length c0) ((l.take (j + 1)).filter p).length (wl ((l.take (j + 1)).filter p))) := fun hh => by
        rw [HW.out, if_neg (by rw [hh]; simp)]
        exact HQ.out
      have HK5 : Hid (But [] w w5) := but_own HB.out hk5 (fun i hi => (HQ.out.lt i hi).1)
      generalize L.length = m0 at *
      clear hrow hlx hr hg HW hr5 hq5 hk5 HQ
      by_cases e1 : x = e
      · by_cases e2 : k < 0
        · have HZ : Hid (p ⟨x, y, z, t⟩ = false) := by show _ = _; rw [HPA.out]; simp [wth, e1, e2]
          have HQ7 := hid (HQ6.out HZ.out)
          have hne : (x == e) = true := by simp [e1]
          clear HQ5 HQ6 HR5
          subst e1
          go_wp2
          go_roundg (n + 1 - (j + 1))
          case measure => omega
          case rel => exact ⟨j + 1, by omega, by omega, by go_num, HQ7.out, HB.out⟩
        · by_cases e3 : y = k
          · by_cases e4 : z = m
            · have HZ : Hid (p ⟨x, y, z, t⟩ = false) := by show _ = _; rw [HPA.out]; simp [wth, e1, e3, e4]
              have HQ7 := hid (HQ6.out HZ.out)
              clear HQ5 HQ6 HR5
              subst e1
              subst e3
              subst e4
              have e2' : decide (y < 0) = false := decide_eq_false e2
              go_wp2
              go_roundg (n + 1 - (j + 1))
              case measure => omega
              case rel => exact ⟨j + 1, by omega, by omega, by go_num, HQ7.out, HB.out⟩
            · have HZ : Hid (p ⟨x, y, z, t⟩ = true) := by show _ = _; rw [HPA.out]; simp [wth, e2, e4]
              have HQ7 := hid (HQ5.out HZ.out)
              clear HQ5 HQ6
              subst e1
              subst e3
              have e2' : decide (y < 0) = false := decide_eq_false e2
              have e4' : (z == m) = false := by simp [e4]
              go_wp2_with (first | (refine wpList_append_known _ rfl _ _ rS rfl _ _ rfl rfl HR5.out ?_))
              go_roundg (n + 1 - (j + 1))
              case measure => omega
              case rel => exact ⟨j + 1, by omega, by omega, by go_num, HQ7.out, HK5.out⟩
          · have HZ : Hid (p ⟨x, y, z, t⟩ = true) := by show _ = _; rw [HPA.out]; simp [wth, e2, e3]
            have HQ7 := hid (HQ5.out HZ.out)
            clear HQ5 HQ6
            subst e1
            have e2' : decide (k < 0) = false := decide_eq_false e2
            have e3' : (y == k) = false := by simp [e3]
            go_wp2_with (first | (refine wpList_append_known _ rfl _ _ rS rfl _ _ rfl rfl HR5.out ?_))
            go_roundg (n + 1 - (j + 1))
            case measure => omega
            case rel => exact ⟨j + 1, by omega, by omega, by go_num, HQ7.out, HK5.out⟩
      · have HZ : Hid (p ⟨x, y, z, t⟩ = true) := by show _ = _; rw [HPA.out]; simp [wth, e1]
        have HQ7 := hid (HQ5.out HZ.out)
        clear HQ5 HQ6
        have e1' : (x == e) = false := by simp [e1]
        go_wp2_with (first | (refine wpList_append_known _ rfl _ _ rS rfl _ _ rfl rfl HR5.out ?_))
        go_roundg (n + 1 - (j + 1))
        case measure => omega
        case rel => exact ⟨j + 1, by omega, by omega, by go_num, HQ7.out, HK5.out⟩
    · obtain rfl : j = n := by omega
      have HT : Hid (l.take j = l) := by show _ = _; rw [← HN.out]; exact List.take_length
      go_wp2
      go_ret
      exact ⟨_, rfl, by rw [← HPE.out]; have := HQ.out; rwa [HT.out] at this, HB.out⟩
/-- What a call answers that tells what is left, and what is due. -/
def Tr (sz : Nat) (l : List Wn) (w : World) (e : Ending) (w' : World) : Prop :=
  ∃ (A1 A2 : Option Addr) (c1 c2 : Nat), e = .returned (.tuple #[.slice A1 (tnL l).length c1, .slice A2 (tnD l).length c2]) ∧
    Que w' sz 4 (.slice A1 (tnL l).length c1) (tnL l).length (wl (tnL l)) ∧ Que w' sz 4 (.slice A2 (tnD l).length c2) (tnD l).length (wl (tnD l)) ∧ But [] w w'
theorem tail_set {w : World} {B : Nat} {x y z t : Int} (h : VB w B 4 fun j => .int .i64 (Wn.at_ ⟨x, y, z, t⟩ j)) (t' : Int) : (w.setCell ⟨B, 3, none⟩ (.int .i64 t')).rangeAt B 0 (Wn.vs ⟨x, y, z, t'⟩) :=
  (h.set (.int .i64 t')).range _ (by show 0 + 4 ≤ 4; omega) fun i hi => by
    match i, hi with
    | 0, _ => rfl
    | 1, _ => rfl
    | 2, _ => rfl
    | 3, _ => rfl
theorem dn_take (l : List Wn) (j : Nat) (h : j < l.length) : dn (l.take (j + 1)) = dn (l.take j) ++ [dc (l.getD j nw)] := by
  rw [take_snoc l j h]
  simp [dn]
set_option maxHeartbeats 4000000 in
theorem rturn_c (A : Option Addr) (n c : Nat) (l : List Wn) (w : World) (ho : Ok l) (h : Li w A l) (hn : l.length = n) :
    Calls Try.prog 13 #[.slice A n c] w (Tr w.heap.size l w) := by
  have HL := hid h
  have HN := hid hn
  have HO := hid ho
  have hzw := zRw
  have hm : n ≤ 64 := by have := ho.1; omega
  clear h hn ho
  go_enter Try.func13, Try.ntmps13
  go_wp2
  go_loopg [4, 5, 6] (n + 1) (fun g0 u4 u5 i wx => ∃ (j m1 m2 c1 c2 : Nat) (A1 A2 : Option Addr), j + g0 = n + 1 ∧ j ≤ n ∧ m1 ≤ j ∧ m2 ≤ j ∧ i = .int .i64 j ∧ u4 = .slice A1 m1 c1 ∧ u5 = .slice A2 m2 c2 ∧
    Hid (Que wx w.heap.size 4 (.slice A1 m1 c1) m1 (wl ((dn (l.take j)).filter fun a => !z0 a))) ∧ Hid (Que wx w.heap.size 4 (.slice A2 m2 c2) m2 (wl ((dn (l.take j)).filter z0))) ∧ Hid (Dj A1 A2) ∧ Hid (But [] w wx))
  case atStart => exact ⟨0, 0, 0, 0, 0, none, none, by omega, by omega, by omega, by omega, rfl, rfl, rfl, Que.nil _ _ _, Que.nil _ _ _, (fun a b ha => by cases ha), But.refl _ _⟩
  case round =>
    obtain ⟨j, m1, m2, c1, c2, A1, A2, hjg, hj, hm1, hm2, rfl, rfl, rfl, HQ1, HQ2, HD, HB⟩ := hrel
    by_cases hlt : j < n
    · have hlx : j < l.length := by have := HN.out; omega
      obtain ⟨g, off, hA, hg, hrow⟩ := HL.out.at_ hlx
      have hr := range_keep (hrow j hlx) HB.out (by simp)
      have HS := hid (dn_take l j hlx)
      have ht := ok_t HO.out (getD_mem hlx)
      generalize l.getD j nw = a at hr HS ht
      obtain ⟨x, y, z, t⟩ := a
      have ht1 : 1 ≤ t := ht.1
      have ht2 : t ≤ 100 := ht.2
      have hw := wrap_turn ht1 ht2
      have HTN : Hid (t - 1 < 1 → t = 1) := fun hh => by omega
      subst hA
      obtain ⟨h1, h2, h3, h4⟩ := four hr
      obtain ⟨B, hB⟩ : ∃ B, B = wr.heap.size := ⟨_, rfl⟩
      obtain ⟨w2, hw2⟩ : ∃ w2, w2 = wr.alloc (.cells #[.int .i64 x, .int .i64 y, .int .i64 z, .int .i64 t] rW) := ⟨_, rfl⟩
      have k2 : But [] wr w2 := by rw [hw2]; exact (But.refl [] wr).alloc _
      have hvB : VB w2 B 4 fun j => .int .i64 (Wn.at_ ⟨x, y, z, t⟩ j) := by
        rw [hw2, hB]
        exact VB.new wr (Wn.vs ⟨x, y, z, t⟩).toArray rW 4 rfl _ fun j hj => by rw [List.getElem?_toArray]; exact Wn.vs_get _ j hj
      have hct : w2.cell? ⟨B, 3, none⟩ = some (.int .i64 t) := (hvB 3 (by omega)).1
      have hcf := (hvB 3 (by omega)).2
      have hset := tail_set hvB (t - 1)
      obtain ⟨w3, hw3⟩ : ∃ w3, w3 = w2.setCell ⟨B, 3, none⟩ (.int .i64 (t - 1)) := ⟨_, rfl⟩
      have k3 : But [] wr w3 := by rw [hw3]; exact k2.setCell (.inr (by show _ ≤ B; omega)) _
      rw [← hw3] at hset
      have HRB := hid hset
      have HQ1' := hid (HQ1.out.keep0 k3)
      have HQ2' := hid (HQ2.out.keep0 k3)
      have HB3 := hid (HB.out.trans k3)
      clear hrow hlx hr hg k2 k3 hvB hset HQ1 HQ2 ht ht1 ht2
      go_upto_region 6 with fail
      rw [← hw2, ← hB]
      clear h1 h2 h3 h4 hw2 hB
      go_upto_region 7 with fail
      rw [← hw3]
      clear hct hcf hw3 hw
      obtain ⟨b1, b2, b3, b4⟩ := four HRB.out
      simp only [Nat.zero_add] at b2 b3 b4
      by_cases hv : t = 1
      · have hz : z0 (dc ⟨x, y, z, t⟩) = true := by subst hv; rfl
        have HS1 : Hid ((dn (l.take (j + 1))).filter z0 = (dn (l.take j)).filter z0 ++ [⟨x, y, z, t - 1⟩]) := by show _ = _; rw [HS.out, List.filter_append, List.filter_cons_of_pos hz]; rfl
        have HS2 : Hid ((dn (l.take (j + 1))).filter (fun a => !z0 a) = (dn (l.take j)).filter fun a => !z0 a) := by show _ = _; rw [HS.out, List.filter_append, List.filter_cons_of_neg (by rw [hz]; simp)]; simp
        obtain ⟨A', c', w5, hr5, hq5, hq6, hd5, hk5⟩ := push_two Try.underlying28 infoRw x y z (t - 1) HQ2'.out HQ1'.out HD.out.symm HB3.out.size (by omega)
        have HR5 := hid hr5
        have HQ5 : Hid (Que w5 w.heap.size 4 (.slice A' (m2 + 1) c') (m2 + 1) (wl ((dn (l.take (j + 1))).filter z0))) := by show Que _ _ _ _ _ _; rw [HS1.out]; exact hq5
        have HQ6 : Hid (Que w5 w.heap.size 4 (.slice A1 m1 c1) m1 (wl ((dn (l.take (j + 1))).filter fun a => !z0 a))) := by show Que _ _ _ _ _ _; rw [HS2.out]; exact hq6
        have HD5 := hid hd5.symm
        have HB5 := hid (hk5 w HB3.out (Nat.le_refl _))
        have hlt1 : t - 1 < 1 := by omega
        clear hr5 hq5 hq6 hd5 hk5 hv hz HS1 HS2 HS HQ1' HQ2'
        go_wp2_with (first | (at_builtin; refine wpList_append_known _ rfl _ _ rS rfl _ _ rfl rfl HR5.out ?_))
        go_roundg (n + 1 - (j + 1))
        case measure => omega
        case rel => exact ⟨j + 1, _, _, _, _, _, _, by omega, by omega, by omega, by omega, by go_num, rfl, rfl, HQ6.out, HQ5.out, HD5.out, HB5.out⟩
      · have hz : z0 (dc ⟨x, y, z, t⟩) = false := by show (t - 1 == 0) = false; simp; omega
        have HS1 : Hid ((dn (l.take (j + 1))).filter z0 = (dn (l.take j)).filter z0) := by show _ = _; rw [HS.out, List.filter_append, List.filter_cons_of_neg (by rw [hz]; simp)]; simp
        have HS2 : Hid ((dn (l.take (j + 1))).filter (fun a => !z0 a) = (dn (l.take j)).filter (fun a => !z0 a) ++ [⟨x, y, z, t - 1⟩]) := by show _ = _; rw [HS.out, List.filter_append, List.filter_cons_of_pos (by rw [hz]; rfl)]; rfl
        obtain ⟨A', c', w5, hr5, hq5, hq6, hd5, hk5⟩ := push_two Try.underlying28 infoRw x y z (t - 1) HQ1'.out HQ2'.out HD.out HB3.out.size (by omega)
        have HR5 := hid hr5
        have HQ5 : Hid (Que w5 w.heap.size 4 (.slice A' (m1 + 1) c') (m1 + 1) (wl ((dn (l.take (j + 1))).filter fun a => !z0 a))) := by show Que _ _ _ _ _ _; rw [HS2.out]; exact hq5
        have HQ6 : Hid (Que w5 w.heap.size 4 (.slice A2 m2 c2) m2 (wl ((dn (l.take (j + 1))).filter z0))) := by show Que _ _ _ _ _ _; rw [HS1.out]; exact hq6
        have HD5 := hid hd5
        have HB5 := hid (hk5 w HB3.out (Nat.le_refl _))
        by_cases hlt1 : t - 1 < 1
        · exfalso
          exact hv (HTN.out hlt1)
        clear hr5 hq5 hq6 hd5 hk5 hv hz HS1 HS2 HS HQ1' HQ2'
        go_wp2_with (first | (at_builtin; refine wpList_append_known _ rfl _ _ rS rfl _ _ rfl rfl HR5.out ?_))
        go_roundg (n + 1 - (j + 1))
        case measure => omega
        case rel => exact ⟨j + 1, _, _, _, _, _, _, by omega, by omega, by omega, by omega, by go_num, rfl, rfl, HQ5.out, HQ6.out, HD5.out, HB5.out⟩
    · obtain rfl : j = n := by omega
      have ht : l.take j = l := by rw [← HN.out]; exact List.take_length
      rw [ht] at HQ1 HQ2
      have e1 : m1 = (tnL l).length := by have := HQ1.out.1; rw [wl_len] at this; show m1 = ((dn l).filter _).length; omega
      have e2 : m2 = (tnD l).length := by have := HQ2.out.1; rw [wl_len] at this; show m2 = ((dn l).filter _).length; omega
      have HE := hid (And.intro e1 e2)
      clear ht e1 e2
      go_wp2
      go_ret2
      have e := HE.out
      exact ⟨A1, A2, c1, c2, by rw [← e.1, ← e.2]; rfl, by rw [← e.1]; exact HQ1.out, by rw [← e.2]; exact HQ2.out, HB.out⟩
end Go.Proofs.Ytfopmdiepaonnaa.Ao
