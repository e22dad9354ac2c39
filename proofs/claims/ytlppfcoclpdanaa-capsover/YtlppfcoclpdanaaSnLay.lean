/-
  Layer 10 (span): contracts of lay, With, Without, Both, Within, over the translated program.
-/
import Derived.Test.YtlppfcoclpdanaaSnMore
import Derived.Shelf.Abstract
namespace Go.Proofs.Ytlppfcoclpdanaa.Sn
open Go.ChangeShapes Go.WideShapes Go.ChangeAt Go.RowKit
open Wh
set_option linter.unusedVariables false
set_option maxRecDepth 20000

theorem ic_set (l : List Nat) (y x : Nat) : (ic (l ++ [y])).set l.length (.int .i64 (x : Nat)) = ic (l ++ [x]) := by
  rw [ic_app, ic_app, List.set_append_right _ _ (by rw [ic_len]; exact Nat.le_refl _), ic_len, Nat.sub_self]; rfl
/-- Three boxes of a cell each. -/
theorem three_new (w : World) (v1 v2 v3 : Value) (t1 t2 t3 : TypeId) :
    (((w.alloc (.cells #[v1] t1)).alloc (.cells #[v2] t2)).alloc (.cells #[v3] t3)).cell? ⟨w.heap.size, 0, none⟩ = some v1 ∧
    (((w.alloc (.cells #[v1] t1)).alloc (.cells #[v2] t2)).alloc (.cells #[v3] t3)).cell? ⟨w.heap.size + 1, 0, none⟩ = some v2 ∧
    (((w.alloc (.cells #[v1] t1)).alloc (.cells #[v2] t2)).alloc (.cells #[v3] t3)).cell? ⟨w.heap.size + 2, 0, none⟩ = some v3 ∧
    (((w.alloc (.cells #[v1] t1)).alloc (.cells #[v2] t2)).alloc (.cells #[v3] t3)).frozen? ⟨w.heap.size + 2, 0, none⟩ = false ∧
    (((w.alloc (.cells #[v1] t1)).alloc (.cells #[v2] t2)).alloc (.cells #[v3] t3)).heap.size = w.heap.size + 3 := by
  have s1 : (w.alloc (.cells #[v1] t1)).heap.size = w.heap.size + 1 := by simp
  have c1 := new_range w [v1] t1 0 _ rfl
  have c2 := new_range (w.alloc (.cells #[v1] t1)) [v2] t2 0 _ rfl
  have s2 : ((w.alloc (.cells #[v1] t1)).alloc (.cells #[v2] t2)).heap.size = w.heap.size + 2 := by simp
  have c3 := new_range ((w.alloc (.cells #[v1] t1)).alloc (.cells #[v2] t2)) [v3] t3 0 _ rfl
  have z3 := (there_new ((w.alloc (.cells #[v1] t1)).alloc (.cells #[v2] t2)) #[v3] t3 1 rfl 0 (by omega)).2
  rw [s1] at c2
  rw [s2] at c3 z3
  exact ⟨cell_keep (l := []) c1 (((But.refl [] _).alloc _).alloc _) (by simp), cell_keep (l := []) c2 ((But.refl [] _).alloc _) (by simp), c3, z3, by simp⟩
theorem held3 {A B C : Prop} (h : A ∧ B ∧ C) : C := h.2.2
theorem s_keep {w0 wp wc : World} {b b' : Nat} {v v' : Value} (k : But [] wp wc) (h : wp.cell? ⟨b, 0, none⟩ = some v ∧ wp.cell? ⟨b', 0, none⟩ = some v' ∧ But [] w0 wp) : wc.cell? ⟨b, 0, none⟩ = some v ∧ wc.cell? ⟨b', 0, none⟩ = some v' ∧ But [] w0 wc :=
  ⟨cell_keep h.1 k (by simp), cell_keep h.2.1 k (by simp), h.2.2.trans k⟩
set_option maxHeartbeats 4000000 in
theorem lay_c (fn : Nat) (r : Bool → Bool → Bool) (hr : r false false = false) (hen : ∀ (args : Array Value) (w : World), (callFunc fn args).run Try.prog w = .ok (.enter fn args) w) (hfn : ∀ a b w, Calls Try.prog fn #[.bool a, .bool b] w fun e w' => e = .returned (.bool (r a b)) ∧ w = w')
    (A A' : Option Addr) (n n' c c' lo lo' : Nat) (f g : Nat → Bool) (w : World) (hA : SetAt w lo A n f) (hA' : SetAt w lo' A' n' g) :
    Calls Try.prog 54 #[.agg #[.slice A n c], .agg #[.slice A' n' c'], .func (.func fn) #[] #[]] w (Gives w (lay r f g)) := by
  have HFN := hid hfn
  have HEN := hid hen
  have HR := hid hr
  have HL := hid (lay_lim hr hA.lim hA'.lim)
  obtain ⟨b, hb⟩ : ∃ b, b = w.heap.size := ⟨_, rfl⟩
  obtain ⟨w0, hw0⟩ : ∃ w0, w0 = ((w.alloc (.cells #[.slice A n c] 31)).alloc (.cells #[.slice A' n' c'] 31)).alloc (.cells #[.slice none 0 0] 31) := ⟨_, rfl⟩
  have HB0 : Hid (But [] w w0) := by show But _ _ _; rw [hw0]; exact (((But.refl [] w).alloc _).alloc _).alloc _
  obtain ⟨t1, t2, t3, t4, t5⟩ := three_new w (.slice A n c) (.slice A' n' c') (.slice none 0 0) 31 31 31
  rw [← hw0, ← hb] at t1 t2 t3 t4 t5
  have HC3 := hid t1
  have HC4 := hid t2
  have HC6 : Hid (w0.cell? ⟨b + 1 + 1, 0, none⟩ = some (.slice none 0 0)) := t3
  have HZ6 : Hid (w0.frozen? ⟨b + 1 + 1, 0, none⟩ = false) := t4
  have HS0 := hid t5
  have H := hid (hA.keep0 HB0.out)
  have H' := hid (hA'.keep0 HB0.out)
  have HBW := hid hb
  clear hA hA' hfn hr hen t1 t2 t3 t4 t5
  go_enter Try.func54, Try.ntmps54
  go_upto_region 2 with fail
  rw [← hw0, ← hb]
  clear hw0 hb
  go_wp2
  go_loopg [7, 8, 9, 10] 1025 (fun g0 v wi i j wx => ∃ (p m cv : Nat) (Av : Option Addr), p + g0 = 1025 ∧ p ≤ 1024 ∧ v = .slice Av m cv ∧ wi = .bool (pv (lay r f g) p) ∧ i = .int .i64 ((edg f p).length : Nat) ∧ j = .int .i64 ((edg g p).length : Nat) ∧ Hid (Que wx w0.heap.size 2 (.slice Av m cv) m (ic (pad (lay r f g) p))) ∧ Hid (But [] w0 wx))
  case atStart => exact ⟨0, 0, 0, none, by omega, by omega, rfl, rfl, rfl, rfl, Que.nil _ _ _, But.refl _ _⟩
  case round =>
    obtain ⟨p, m, cv, Av, hpg, hp, rfl, rfl, rfl, rfl, HQ, HB⟩ := hrel
    have hil := edg_len f p
    have hjl := edg_len g p
    obtain ⟨x1, x2, x3⟩ := nxt (f := f) hp
    obtain ⟨y1, y2, y3⟩ := nxt (f := g) hp
    have xl := ed_le (f := f) (edg f p).length
    have yl := ed_le (f := g) (edg g p).length
    have CX := fun (x : Nat) (h1 : x < 1024) (h2 : p ≤ x) (h3 : x ≤ ed f (edg f p).length) => cnt_next (f := f) hp h1 h2 h3
    have CY := fun (x : Nat) (h1 : x < 1024) (h2 : p ≤ x) (h3 : x ≤ ed g (edg g p).length) => cnt_next (f := g) hp h1 h2 h3
    obtain ⟨i, hi⟩ : ∃ i, i = (edg f p).length := ⟨_, rfl⟩
    obtain ⟨j, hj⟩ : ∃ j, j = (edg g p).length := ⟨_, rfl⟩
    rw [← hi] at hil x1 x2 x3 xl CX ⊢
    rw [← hj] at hjl y1 y2 y3 yl CY ⊢
    have HEF : Hid (∀ wy, But [] w0 wy → Calls Try.prog 59 #[.agg #[.slice A n c], .int .i64 i] wy fun e w' => e = .returned (.int .i64 (ed f i : Nat)) ∧ But [] wy w') := by
      show ∀ wy, But [] w0 wy → Calls _ _ _ _ _
      exact fun wy hy => edge_c A n c lo i f wy (H.out.keep0 hy) (by omega)
    have HEG : Hid (∀ wy, But [] w0 wy → Calls Try.prog 59 #[.agg #[.slice A' n' c'], .int .i64 j] wy fun e w' => e = .returned (.int .i64 (ed g j : Nat)) ∧ But [] wy w') := by
      show ∀ wy, But [] w0 wy → Calls _ _ _ _ _
      exact fun wy hy => edge_c A' n' c' lo' j g wy (H'.out.keep0 hy) (by omega)
    have HS : Hid (wr.drew.cell? ⟨b, 0, none⟩ = some (.slice A n c) ∧ wr.drew.cell? ⟨b + 1, 0, none⟩ = some (.slice A' n' c') ∧ But [] wr wr.drew) := ⟨cell_keep HC3.out HB.out.drew (by simp), cell_keep HC4.out HB.out.drew (by simp), (But.refl [] wr).drew⟩
    have HX2 := hid x2
    have HX3 := hid x3
    have HY2 := hid y2
    have HY3 := hid y3
    have HCX := hid CX
    have HCY := hid CY
    clear x2 x3 y2 y3 CX CY hi hj
    obtain ⟨x, hx⟩ : ∃ x, x = ed f i := ⟨_, rfl⟩
    obtain ⟨y, hy⟩ : ∃ y, y = ed g j := ⟨_, rfl⟩
    have HXE := hid hx
    have HYE := hid hy
    have HEF : Hid (∀ wy, But [] w0 wy → Calls Try.prog 59 #[.agg #[.slice A n c], .int .i64 i] wy fun e w' => e = .returned (.int .i64 x) ∧ But [] wy w') := by rw [hx]; exact HEF
    have HEG : Hid (∀ wy, But [] w0 wy → Calls Try.prog 59 #[.agg #[.slice A' n' c'], .int .i64 j] wy fun e w' => e = .returned (.int .i64 y) ∧ But [] wy w') := by rw [hy]; exact HEG
    rw [← hx] at x1 xl
    rw [← hy] at y1 yl
    obtain ⟨z, hz⟩ : ∃ z, z = min x y := ⟨_, rfl⟩
    have hmin : (if y < x then (y : Int) else (x : Int)) = (z : Int) := by split <;> omega
    have hs3 := cell_keep HC3.out HB.out (by simp)
    have hs4 := cell_keep HC4.out HB.out (by simp)
    have HBD := hid HB.out.drew
    have HZ := hid hz
    have hzx : z ≤ x := by omega
    have hzy : z ≤ y := by omega
    have hpz : p ≤ z := by omega
    clear hx hy hz
    go_upto_region 4 with fail
    go_region_held3 (fun w' => w'.cell? ⟨b, 0, none⟩ = some (.slice A n c) ∧ w'.cell? ⟨b + 1, 0, none⟩ = some (.slice A' n' c') ∧ But [] wr w')
      (first | assumption | exact ⟨cell_keep HC3.out HBD.out (by simp), cell_keep HC4.out HBD.out (by simp), (But.refl [] wr).drew⟩ | exact s_keep (by assumption) (by assumption))
      (first
        | (go_at_call_of 59 i; refine (HEF.out _ (HB.out.trans (held3 (by assumption)))).mono ?_; rintro e w4 ⟨rfl, k4⟩)
        | (go_at_call_of 59 j; refine (HEG.out _ (HB.out.trans (held3 (by assumption)))).mono ?_; rintro e w4 ⟨rfl, k4⟩))
    go_split_ands
    have HBr : Hid (But [] wr w4) := ‹But [] wr w4›
    have HB1 : Hid (But [] w0 w4) := HB.out.trans HBr.out
    have HQ1 := hid (HQ.out.keep0 HBr.out)
    clear HQ HBr
    have hs3 : w4.cell? ⟨b, 0, none⟩ = some (.slice A n c) := cell_keep HC3.out HB1.out (by simp)
    have hs4 : w4.cell? ⟨b + 1, 0, none⟩ = some (.slice A' n' c') := cell_keep HC4.out HB1.out (by simp)
    by_cases hz4 : z = 1024
    · have hzI : (z : Int) = 1024 := by omega
      have hst : Stay (lay r f g) p 1024 := lay_stay HR.out (HX2.out.less (by rw [← HXE.out]; omega)) (HY2.out.less (by rw [← HYE.out]; omega))
      have he : pad (lay r f g) p = E (lay r f g) := by rw [← pad_end HL.out, pad_stay hst hp]
      have HQE : Hid (Que w4 w0.heap.size 2 (.slice Av m cv) m (ic (E (lay r f g)))) := by
        show Que _ _ _ _ _ _
        rw [← he]
        exact HQ1.out
      have hb6 := cell_keep HC6.out HB1.out (by simp)
      have hz6 : w4.frozen? ⟨b + 1 + 1, 0, none⟩ = false := (HB1.out.frozen (p := ⟨b + 1 + 1, 0, none⟩) (by show b + 1 + 1 < _; have := HS0.out; omega) (by simp)).trans HZ6.out
      clear hst he
      go_wp2
      refine bodyPost_ret (results_range1 rfl _ _ (b + 1 + 1) 0 [.slice Av m cv] _ rfl (range1 (World.cell?_setCell_same _ _ _ hb6)) Try.underlying31 rfl sizeSet) rfl ?_
      exact gives_of HL.out HQE.out HB0.out HB1.out (by have := HBW.out; omega) (by have := HS0.out; omega)
    · have hzI : ¬ (z : Int) = 1024 := by omega
      have hzl : z < 1024 := by omega
      obtain ⟨i2, hi2⟩ : ∃ i2, i2 = if x = z then i + 1 else i := ⟨_, rfl⟩
      obtain ⟨j2, hj2⟩ : ∃ j2, j2 = if y = z then j + 1 else j := ⟨_, rfl⟩
      have HI2 : Hid ((edg f (z + 1)).length = i2) := by show _ = _; rw [HCX.out z hzl hpz (by rw [← HXE.out]; omega), hi2, ← HXE.out]
      have HJ2 : Hid ((edg g (z + 1)).length = j2) := by show _ = _; rw [HCY.out z hzl hpz (by rw [← HYE.out]; omega), hj2, ← HYE.out]
      have HI := hid hi2
      have HJ := hid hj2
      clear hi2 hj2
      go_wp2_with fail
      refine (HEF.out _ HB1.out).mono ?_
      rintro e w5 ⟨rfl, k5⟩
      have HB2 := hid (HB1.out.trans k5)
      have HQ2 := hid (HQ1.out.keep0 k5)
      have hs4 : w5.cell? ⟨b + 1, 0, none⟩ = some (.slice A' n' c') := cell_keep HC4.out HB2.out (by simp)
      clear k5 hs3 HQ1 HB1
      go_upto_if 27 with fail
      go_cut [9] (fun s9 wx => s9 = .int .i64 i2 ∧ wx = w5)
      case first =>
        by_cases e : x = z
        · have e2 : (i : Int) + 1 = (i2 : Int) := by have := HI.out; rw [if_pos e] at this; omega
          go_wp2
          go_meet
          exact ⟨rfl, rfl⟩
        · have e2 : i2 = i := by have := HI.out; rw [if_neg e] at this; omega
          have e3 : ¬ (x : Int) = (z : Int) := by omega
          subst e2
          go_wp2
          go_meet
          exact ⟨rfl, rfl⟩
      case rest =>
        obtain ⟨rfl, rfl⟩ := hcut
        go_wp2_with fail
        refine (HEG.out _ HB2.out).mono ?_
        rintro e w6 ⟨rfl, k6⟩
        have HB3 := hid (HB2.out.trans k6)
        have HQ3 := hid (HQ2.out.keep0 k6)
        clear k6 hs4 HQ2 HB2
        go_upto_if 34 with fail
        go_cut [10] (fun s10 wx => s10 = .int .i64 j2 ∧ wx = w6)
        case first =>
          by_cases e : y = z
          · have e2 : (j : Int) + 1 = (j2 : Int) := by have := HJ.out; rw [if_pos e] at this; omega
            go_wp2
            go_meet
            exact ⟨rfl, rfl⟩
          · have e2 : j2 = j := by have := HJ.out; rw [if_neg e] at this; omega
            have e3 : ¬ (y : Int) = (z : Int) := by omega
            subst e2
            go_wp2
            go_meet
            exact ⟨rfl, rfl⟩
        case rest =>
          obtain ⟨rfl, rfl⟩ := hcut
          have t1 : Int.tmod (i2 : Int) 2 = (i2 % 2 : Nat) := by rw [Int.tmod_eq_emod_of_nonneg (by omega)]; omega
          have t2 : Int.tmod (j2 : Int) 2 = (j2 % 2 : Nat) := by rw [Int.tmod_eq_emod_of_nonneg (by omega)]; omega
          go_wp2_with fail
          rw [HEN.out, Oper.upon_enter]
          have p1 : ((i2 : Int) % 2 == 1) = f z := by rw [← par_is f z, HI2.out]; exact decide_eq_decide.2 (by omega)
          have p2 : ((j2 : Int) % 2 == 1) = g z := by rw [← par_is g z, HJ2.out]; exact decide_eq_decide.2 (by omega)
          rw [p1, p2]
          refine (HFN.out _ _ _).mono ?_
          rintro e w7 ⟨rfl, rfl⟩
          have hst : Stay (lay r f g) p z := lay_stay HR.out (HX2.out.less (by rw [← HXE.out]; omega)) (HY2.out.less (by rw [← HYE.out]; omega))
          have hpv : pv (lay r f g) z = pv (lay r f g) p := hst.pv hpz
          have hpd : pad (lay r f g) z = pad (lay r f g) p := pad_stay hst hpz
          have hhz : r (f z) (g z) = lay r f g z := rfl
          rw [hhz]
          have HPV := hid hpv
          have HPD := hid hpd
          clear t1 t2 p1 p2 hst hpv hpd hhz
          cases hv1 : lay r f g z with
          | false =>
            cases hv2 : pv (lay r f g) p with
            | false =>
              have HE : Hid (pad (lay r f g) (z + 1) = pad (lay r f g) p) := by show _ = _; rw [pad_same (by rw [hv1, HPV.out, hv2]), HPD.out]
              clear hv2
              go_wp2
              go_roundg (1025 - (z + 1))
              case measure => omega
              case rel => exact ⟨z + 1, m, cv, Av, by omega, by omega, rfl, by show _ = Value.bool (lay r f g z); rw [hv1], by rw [HI2.out], by rw [HJ2.out], by rw [HE.out]; exact HQ3.out, HB3.out⟩
            | true =>
              obtain ⟨e1, e2⟩ := pad_off (h := lay r f g) (x := z) (by rw [HPV.out, hv2]) hv1
              have hq := HQ3.out
              rw [← HPD.out, e1] at hq
              have hml : (edg (lay r f g) z).length + 1 = m * 2 := by have := hq.1; rwa [ic_len, List.length_append, List.length_singleton] at this
              obtain ⟨m1, rfl⟩ : ∃ m1, m = m1 + 1 := ⟨m - 1, by omega⟩
              obtain ⟨g2, off2, cap2, hv, _⟩ := hq.row (by omega)
              injection hv with hv3 hv4 hv5
              subst hv3; subst hv5
              have hk : (edg (lay r f g) z).length < (ic (edg (lay r f g) z ++ [1024])).length := by rw [ic_len, List.length_append]; simp
              have hq2 := que_set hq (edg (lay r f g) z).length (.int .i64 (z : Nat)) hk
              rw [ic_set, ← e2] at hq2
              have hzf := que_there hq hk
              obtain ⟨_, h0⟩ | ⟨g3, off3, cap3, hv6, hb3, hg3, _, _, _, hrng⟩ := hq.2
              · omega
              injection hv6 with hv6 hv7 hv8
              injection hv6 with hv6
              injection hv6 with hv6 hv9
              subst hv6; subst hv9; subst hv8
              have hcz := hrng (edg (lay r f g) z).length _ (List.getElem?_eq_getElem hk)
              have ek : off2 + (edg (lay r f g) z).length = off2 + m1 * 2 + 1 := by omega
              rw [ek] at hq2 hzf hcz
              have hm9 : m1 ≤ 1025 := by have := edg_len (lay r f g) z; omega
              have HQ4 := hid hq2
              have HB4 : Hid (But [] w0 (wc.setCell ⟨g2, off2 + m1 * 2 + 1, none⟩ (.int .i64 z))) := but_own HB3.out ((But.refl [g2] wc).setCell (by simp) _) (fun i hi => by simp at hi; omega)
              generalize (ic (edg (lay r f g) z ++ [1024]))[(edg (lay r f g) z).length] = vz at *
              clear hq hq2 hrng hk e1 e2 hml hv4 hv7 ek hb3 hg3 HQ3 hv2
              go_wp2
              go_roundg (1025 - (z + 1))
              case measure => omega
              case rel => exact ⟨z + 1, m1 + 1, _, _, by omega, by omega, rfl, by show _ = Value.bool (lay r f g z); rw [hv1], by rw [HI2.out], by rw [HJ2.out], HQ4.out, HB4.out⟩
          | true =>
            cases hv2 : pv (lay r f g) p with
            | true =>
              have HE : Hid (pad (lay r f g) (z + 1) = pad (lay r f g) p) := by show _ = _; rw [pad_same (by rw [hv1, HPV.out, hv2]), HPD.out]
              clear hv2
              go_wp2
              go_roundg (1025 - (z + 1))
              case measure => omega
              case rel => exact ⟨z + 1, m, cv, Av, by omega, by omega, rfl, by show _ = Value.bool (lay r f g z); rw [hv1], by rw [HI2.out], by rw [HJ2.out], by rw [HE.out]; exact HQ3.out, HB3.out⟩
            | false =>
              obtain ⟨e1, e2⟩ := pad_on (h := lay r f g) (x := z) (by rw [HPV.out, hv2]) hv1
              have hq := HQ3.out
              rw [← HPD.out, e1] at hq
              have hm : m ≤ 1025 := by
                have := hq.1
                rw [ic_len] at this
                have := edg_len (lay r f g) z
                omega
              obtain ⟨g', off', c5, w8, hr5, hq5, hk5, ho5⟩ := que_push (P := Try.prog) 29 75 _ Try.underlying29 Try.infoRow rfl (by decide) (by decide) hq (ic [z, 1024]) rfl (ic_one _) HB3.out.size (by omega)
              have HR5 : Hid ((Builtin.append_ #[29, 29] 29 #[.slice Av m cv, .slice (some ⟨wc.heap.size, 0, none⟩) 1 1]).run Try.prog (wc.alloc (.cells #[.int .i64 z, .int .i64 1024] 75)) = .ok (.slice (some ⟨g', off', none⟩) (m + 1) c5) w8) := hr5
              have HQ5 : Hid (Que w8 w0.heap.size 2 (.slice (some ⟨g', off', none⟩) (m + 1) c5) (m + 1) (ic (pad (lay r f g) (z + 1)))) := by
                show Que _ _ _ _ _ _
                rw [e2, ic_app]
                exact hq5
              have HB5 := hid (but_own HB3.out hk5 (fun i hi => (hq.lt i hi).1))
              clear hr5 hq5 hk5 ho5 hq e1 e2 HQ3 hv2
              go_wp2_with (first | (at_builtin; refine wpList_append_known _ rfl _ _ 29 rfl _ _ rfl rfl HR5.out ?_))
              go_roundg (1025 - (z + 1))
              case measure => omega
              case rel => exact ⟨z + 1, _, _, _, by omega, by omega, rfl, by show _ = Value.bool (lay r f g z); rw [hv1], by rw [HI2.out], by rw [HJ2.out], HQ5.out, HB5.out⟩
theorem enters27 (args : Array Value) (w : World) : (callFunc 60 args).run Try.prog w = .ok (.enter 60 args) w := enters_of Try.func60 (by kernel_rfl) rfl args w
theorem enters28 (args : Array Value) (w : World) : (callFunc 55 args).run Try.prog w = .ok (.enter 55 args) w := enters_of Try.func55 (by kernel_rfl) rfl args w
theorem enters29 (args : Array Value) (w : World) : (callFunc 61 args).run Try.prog w = .ok (.enter 61 args) w := enters_of Try.func61 (by kernel_rfl) rfl args w
/-- Either, the one without the other, both. -/
def wi : (Nat → Bool) → (Nat → Bool) → Nat → Bool := lay (fun a b => a || b)
def wo : (Nat → Bool) → (Nat → Bool) → Nat → Bool := lay (fun a b => a && !b)
def bo : (Nat → Bool) → (Nat → Bool) → Nat → Bool := lay (fun a b => a && b)
/-- Two boxes, and a result's cell. -/
theorem Gives.frame {w w0 w1 : World} {f : Nat → Bool} {e : Ending} (h0 : But [] w w0) (h : Gives w0 f e w1) : ∃ A n c, e = .returned (.agg #[.slice A n c]) ∧ SetAt w1 w0.heap.size A n f ∧ But [] w w1 := by
  obtain ⟨A, n, c, he, hs, hb⟩ := h
  exact ⟨A, n, c, he, hs, h0.trans hb⟩
theorem gives_out {w w0 w1 : World} {f : Nat → Bool} {A : Option Addr} {n c b4 : Nat} (hs : SetAt w1 w0.heap.size A n f) (h0 : But [] w w0) (hb : But [] w0 w1) (hw : w.heap.size ≤ b4) (hlt : b4 < w0.heap.size) :
    Gives w f (.returned (.agg #[.slice A n c])) (w1.setCell ⟨b4, 0, .none⟩ (.slice A n c)) := by
  have hk : But [b4] w1 (w1.setCell ⟨b4, 0, .none⟩ (.slice A n c)) := (But.refl _ _).setCell (by simp) _
  refine ⟨A, n, c, rfl, (hs.keep hk (fun g off e hn => ?_)).wider h0.size, but_own (h0.trans hb) hk (fun i hi => by simp at hi; omega)⟩
  obtain ⟨g', off', e', h1, _⟩ := hs.at_ (k := 0) (by omega)
  rw [e] at e'
  injection e' with e'
  injection e' with e1 e2
  simp
  omega
set_option maxHeartbeats 1000000 in
theorem with_c (A A' : Option Addr) (n n' c c' lo lo' : Nat) (f g : Nat → Bool) (w : World) (hA : SetAt w lo A n f) (hA' : SetAt w lo' A' n' g) :
    Calls Try.prog 56 #[.agg #[.slice A n c], .agg #[.slice A' n' c']] w (Gives w (wi f g)) := by
  obtain ⟨b, hb⟩ : ∃ b, b = w.heap.size := ⟨_, rfl⟩
  obtain ⟨w0, hw0⟩ : ∃ w0, w0 = ((w.alloc (.cells #[.slice A n c] 31)).alloc (.cells #[.slice A' n' c'] 31)).alloc (.cells #[.slice none 0 0] 31) := ⟨_, rfl⟩
  have HB0 : Hid (But [] w w0) := by show But _ _ _; rw [hw0]; exact (((But.refl [] w).alloc _).alloc _).alloc _
  obtain ⟨t1, t2, t3, t4, t5⟩ := three_new w (.slice A n c) (.slice A' n' c') (.slice none 0 0) 31 31 31
  rw [← hw0, ← hb] at t1 t2 t3 t4 t5
  have HC6 : Hid (w0.cell? ⟨b + 1 + 1, 0, none⟩ = some (.slice none 0 0)) := t3
  have HZ6 : Hid (w0.frozen? ⟨b + 1 + 1, 0, none⟩ = false) := t4
  have HS0 := hid t5
  have H := hid (hA.keep0 HB0.out)
  have H' := hid (hA'.keep0 HB0.out)
  have HBW := hid hb
  clear hA hA' t3 t4 t5
  go_enter Try.func56, Try.ntmps56
  go_upto_region 1 with fail
  rw [← hw0, ← hb]
  clear hw0 hb
  go_wp2_with fail
  refine (lay_c 60 _ rfl enters27 with1_c A A' n n' c c' lo lo' f g _ H.out H'.out).mono ?_
  rintro e w1 ⟨A1, n1, c1, rfl, hs1, k1⟩
  have hb6 := cell_keep HC6.out k1 (by simp)
  have hz6 : w1.frozen? ⟨b + 1 + 1, 0, none⟩ = false := (k1.frozen (p := ⟨b + 1 + 1, 0, none⟩) (by show b + 1 + 1 < _; have := HS0.out; omega) (by simp)).trans HZ6.out
  have HS1 := hid hs1
  have HK1 := hid k1
  clear hs1 k1 t1 t2
  go_wp2
  refine bodyPost_ret (results_range1 rfl _ _ (b + 1 + 1) 0 [.slice A1 n1 c1] _ rfl (range1 (World.cell?_setCell_same _ _ _ hb6)) Try.underlying31 rfl sizeSet) rfl ?_
  exact gives_out HS1.out HB0.out HK1.out (by have := HBW.out; omega) (by have := HS0.out; omega)
set_option maxHeartbeats 1000000 in
theorem without_c (A A' : Option Addr) (n n' c c' lo lo' : Nat) (f g : Nat → Bool) (w : World) (hA : SetAt w lo A n f) (hA' : SetAt w lo' A' n' g) :
    Calls Try.prog 39 #[.agg #[.slice A n c], .agg #[.slice A' n' c']] w (Gives w (wo f g)) := by
  obtain ⟨b, hb⟩ : ∃ b, b = w.heap.size := ⟨_, rfl⟩
  obtain ⟨w0, hw0⟩ : ∃ w0, w0 = ((w.alloc (.cells #[.slice A n c] 31)).alloc (.cells #[.slice A' n' c'] 31)).alloc (.cells #[.slice none 0 0] 31) := ⟨_, rfl⟩
  have HB0 : Hid (But [] w w0) := by show But _ _ _; rw [hw0]; exact (((But.refl [] w).alloc _).alloc _).alloc _
  obtain ⟨t1, t2, t3, t4, t5⟩ := three_new w (.slice A n c) (.slice A' n' c') (.slice none 0 0) 31 31 31
  rw [← hw0, ← hb] at t1 t2 t3 t4 t5
  have HC6 : Hid (w0.cell? ⟨b + 1 + 1, 0, none⟩ = some (.slice none 0 0)) := t3
  have HZ6 : Hid (w0.frozen? ⟨b + 1 + 1, 0, none⟩ = false) := t4
  have HS0 := hid t5
  have H := hid (hA.keep0 HB0.out)
  have H' := hid (hA'.keep0 HB0.out)
  have HBW := hid hb
  clear hA hA' t3 t4 t5
  go_enter Try.func39, Try.ntmps39
  go_upto_region 1 with fail
  rw [← hw0, ← hb]
  clear hw0 hb
  go_wp2_with fail
  refine (lay_c 55 _ rfl enters28 without1_c A A' n n' c c' lo lo' f g _ H.out H'.out).mono ?_
  rintro e w1 ⟨A1, n1, c1, rfl, hs1, k1⟩
  have hb6 := cell_keep HC6.out k1 (by simp)
  have hz6 : w1.frozen? ⟨b + 1 + 1, 0, none⟩ = false := (k1.frozen (p := ⟨b + 1 + 1, 0, none⟩) (by show b + 1 + 1 < _; have := HS0.out; omega) (by simp)).trans HZ6.out
  have HS1 := hid hs1
  have HK1 := hid k1
  clear hs1 k1 t1 t2
  go_wp2
  refine bodyPost_ret (results_range1 rfl _ _ (b + 1 + 1) 0 [.slice A1 n1 c1] _ rfl (range1 (World.cell?_setCell_same _ _ _ hb6)) Try.underlying31 rfl sizeSet) rfl ?_
  exact gives_out HS1.out HB0.out HK1.out (by have := HBW.out; omega) (by have := HS0.out; omega)
set_option maxHeartbeats 1000000 in
theorem both_c (A A' : Option Addr) (n n' c c' lo lo' : Nat) (f g : Nat → Bool) (w : World) (hA : SetAt w lo A n f) (hA' : SetAt w lo' A' n' g) :
    Calls Try.prog 57 #[.agg #[.slice A n c], .agg #[.slice A' n' c']] w (Gives w (bo f g)) := by
  obtain ⟨b, hb⟩ : ∃ b, b = w.heap.size := ⟨_, rfl⟩
  obtain ⟨w0, hw0⟩ : ∃ w0, w0 = ((w.alloc (.cells #[.slice A n c] 31)).alloc (.cells #[.slice A' n' c'] 31)).alloc (.cells #[.slice none 0 0] 31) := ⟨_, rfl⟩
  have HB0 : Hid (But [] w w0) := by show But _ _ _; rw [hw0]; exact (((But.refl [] w).alloc _).alloc _).alloc _
  obtain ⟨t1, t2, t3, t4, t5⟩ := three_new w (.slice A n c) (.slice A' n' c') (.slice none 0 0) 31 31 31
  rw [← hw0, ← hb] at t1 t2 t3 t4 t5
  have HC6 : Hid (w0.cell? ⟨b + 1 + 1, 0, none⟩ = some (.slice none 0 0)) := t3
  have HZ6 : Hid (w0.frozen? ⟨b + 1 + 1, 0, none⟩ = false) := t4
  have HS0 := hid t5
  have H := hid (hA.keep0 HB0.out)
  have H' := hid (hA'.keep0 HB0.out)
  have HBW := hid hb
  clear hA hA' t3 t4 t5
  go_enter Try.func57, Try.ntmps57
  go_upto_region 1 with fail
  rw [← hw0, ← hb]
  clear hw0 hb
  go_wp2_with fail
  refine (lay_c 61 _ rfl enters29 both1_c A A' n n' c c' lo lo' f g _ H.out H'.out).mono ?_
  rintro e w1 ⟨A1, n1, c1, rfl, hs1, k1⟩
  have hb6 := cell_keep HC6.out k1 (by simp)
  have hz6 : w1.frozen? ⟨b + 1 + 1, 0, none⟩ = false := (k1.frozen (p := ⟨b + 1 + 1, 0, none⟩) (by show b + 1 + 1 < _; have := HS0.out; omega) (by simp)).trans HZ6.out
  have HS1 := hid hs1
  have HK1 := hid k1
  clear hs1 k1 t1 t2
  go_wp2
  refine bodyPost_ret (results_range1 rfl _ _ (b + 1 + 1) 0 [.slice A1 n1 c1] _ rfl (range1 (World.cell?_setCell_same _ _ _ hb6)) Try.underlying31 rfl sizeSet) rfl ?_
  exact gives_out HS1.out HB0.out HK1.out (by have := HBW.out; omega) (by have := HS0.out; omega)
set_option maxHeartbeats 1000000 in
theorem within_c (A A' : Option Addr) (n n' c c' lo lo' : Nat) (f g : Nat → Bool) (w : World) (hA : SetAt w lo A n f) (hA' : SetAt w lo' A' n' g) :
    Calls Try.prog 16 #[.agg #[.slice A n c], .agg #[.slice A' n' c']] w fun e w' => e = .returned (.bool ((nums (wo f g) 1024).length == 0)) ∧ But [] w w' := by
  obtain ⟨w0, hw0⟩ : ∃ w0, w0 = (w.alloc (.cells #[.slice A n c] 31)).alloc (.cells #[.slice A' n' c'] 31) := ⟨_, rfl⟩
  have HB0 : Hid (But [] w w0) := by show But _ _ _; rw [hw0]; exact ((But.refl [] w).alloc _).alloc _
  have H := hid (hA.keep0 HB0.out)
  have H' := hid (hA'.keep0 HB0.out)
  clear hA hA'
  go_enter Try.func16, Try.ntmps16
  go_wp2_with fail
  rw [← hw0]
  clear hw0
  refine (without_c A A' n n' c c' lo lo' f g _ H.out H'.out).mono ?_
  rintro e w1 ⟨A1, n1, c1, rfl, hs1, k1⟩
  go_wp2_with fail
  refine (len_c A1 n1 c1 _ _ _ hs1).mono ?_
  rintro e w2 ⟨rfl, k2⟩
  have HK := hid ((HB0.out.trans k1).trans k2)
  clear hs1 k1 k2
  have e : (((nums (wo f g) 1024).length : Int) == 0) = ((nums (wo f g) 1024).length == 0) := by exact decide_eq_decide.2 (by omega)
  have HE := hid e
  clear e
  go_wp2
  go_ret
  exact ⟨by rw [← HE.out]; rfl, HK.out⟩
end Go.Proofs.Ytlppfcoclpdanaa.Sn
