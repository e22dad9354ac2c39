/-
  Layer 14 (abi): the contract of the statement about calls renamed, over the translated program.
-/
import Derived.Test.YtecgeoafahohjaaDoorAbRen
import Derived.Test.YtecgeoafahohjaaDoorAbAwake
import Derived.Test.YtecgeoafahohjaaDoorAbFlat
namespace Go.Proofs.YtecgeoafahohjaaDoor.Ab
open Go.ChangeShapes Go.WideShapes Go.ChangeAt Go.RowKit
open Wh
set_option linter.unusedVariables false
set_option maxRecDepth 20000

/-- By what means itself all stays. -/
theorem upL_id (g : Nat → Int) (L : List Nm) : ∀ j, upL (fun _ n => n) g L j = g j := by
  have key : ∀ (L : List Nm) (h : Nat → Int), (∀ j, h j = g j) → ∀ j, L.foldl (up1 (fun _ n => n) g) h j = g j := by
    intro L
    induction L with
    | nil => intro h hh j; exact hh j
    | cons p L ih =>
      intro h hh j
      rw [List.foldl_cons]
      refine ih _ (fun i => ?_) j
      unfold up1 upd
      by_cases e : i = p.1
      · rw [if_pos e, e]
      · rw [if_neg e]; exact hh i
  exact key L g (fun _ => rfl)
theorem okL_id (g : Nat → Int) (L : List Nm) : okL (fun _ _ => true) g L = true := by
  unfold okL
  rw [List.all_eq_true]
  intro p _
  rfl
theorem rnA_id (x : Int) (g : Nat → Int) (r : List Int) (L : List Nm) : rnA (okL (fun _ _ => true) g L) x (upL (fun _ n => n) g L) r = cv x g r := by
  rw [okL_id]
  exact cv_congr x _ g r (fun j _ => upL_id g L j)
theorem rnA_len {ok : Bool} {x : Int} {h : Nat → Int} {r : List Int} (hr : r.length = 33) : (rnA ok x h r).length = 38 := by
  unfold rnA
  split
  · exact cv_len _ _ hr
  · exact cv_len _ _ (zs_len 33)
theorem rnA_one (ok : Bool) (x : Int) (h : Nat → Int) (r : List Int) : ∀ v ∈ rnA ok x h r, v.oneCell' = true := by
  unfold rnA
  split
  · exact cv_one _ _ _
  · exact cv_one _ _ _
theorem wn_yes {f : Int → Int → Int} {l : Ls} {g : Nat → Int} {i : Nat} (h : 0 ≤ kd (ch l i)) : wn f l g (i + 1) = upd (wn f l g i) i (f (kd (ch l i)) (g i)) := by
  conv => lhs; unfold wn
  rw [if_pos h]
theorem wn_no {f : Int → Int → Int} {l : Ls} {g : Nat → Int} {i : Nat} (h : kd (ch l i) < 0) : wn f l g (i + 1) = wn f l g i := by
  conv => lhs; unfold wn
  rw [if_neg (by omega)]
theorem okN_yes {b : Int → Int → Bool} {l : Ls} {g : Nat → Int} {i : Nat} (h : 0 ≤ kd (ch l i)) : okN b l g (i + 1) = (okN b l g i && b (kd (ch l i)) (g i)) := by
  conv => lhs; unfold okN
  rw [if_pos h]
theorem okN_no {b : Int → Int → Bool} {l : Ls} {g : Nat → Int} {i : Nat} (h : kd (ch l i) < 0) : okN b l g (i + 1) = okN b l g i := by
  conv => lhs; unfold okN
  rw [if_neg (by omega), Bool.and_true]
theorem lt_of_there_range {w : World} {b o : Nat} {cs : List Value} (h : w.rangeAt b o cs) (hn : 0 < cs.length) : b < w.heap.size := lt_of_cell (h 0 _ (List.getElem?_eq_getElem hn))
set_option maxHeartbeats 8000000 in
theorem lawr_c (x : Int) (g : Nat → Int) (r : List Int) (a1 o : Int) (w : World) (h : NumOk w) (hr : r.length = 33) : Calls Tryd.prog 5 #[.agg (cv x g r).toArray, .int .i64 a1, .int .i64 o] w fun e w' => e = .returned (.bool true) ∧ But [] w w' := by
  have HR := hid hr
  obtain ⟨B, hB⟩ : ∃ B, B = w.heap.size := ⟨_, rfl⟩
  have HBW := hid hB
  obtain ⟨w0, hw0⟩ : ∃ w0, w0 = ((w.alloc (.cells (cv x g r).toArray 29)).alloc (.cells #[.int .i64 a1] 3)).alloc (.cells #[.int .i64 o] 3) := ⟨_, rfl⟩
  have hc := ((call_new w x g hr 29).keep0 ((But.refl [] _).alloc (.cells #[.int .i64 a1] 3))).keep0 ((But.refl [] _).alloc (.cells #[.int .i64 o] 3))
  have h1 := range_keep (l := []) (new_range (w.alloc (.cells (cv x g r).toArray 29)) [.int .i64 a1] 3) ((But.refl [] _).alloc (.cells #[.int .i64 o] 3)) (by simp)
  have hz1 := there_keep (l := []) (there_new (w.alloc (.cells (cv x g r).toArray 29)) #[.int .i64 a1] 3 1 rfl) ((But.refl [] _).alloc (.cells #[.int .i64 o] 3)) (by simp) (by simp)
  have h2 := new_range ((w.alloc (.cells (cv x g r).toArray 29)).alloc (.cells #[.int .i64 a1] 3)) [.int .i64 o] 3
  change (((w.alloc (.cells (cv x g r).toArray 29)).alloc (.cells #[.int .i64 a1] 3)).alloc (.cells #[.int .i64 o] 3)).rangeAt _ _ _ at h1
  change (((w.alloc (.cells (cv x g r).toArray 29)).alloc (.cells #[.int .i64 a1] 3)).alloc (.cells #[.int .i64 o] 3)).rangeAt _ _ _ at h2
  rw [show (w.alloc (.cells (cv x g r).toArray 29)).heap.size = w.heap.size + 1 by simp] at h1 hz1
  rw [show ((w.alloc (.cells (cv x g r).toArray 29)).alloc (.cells #[.int .i64 a1] 3)).heap.size = w.heap.size + 1 + 1 by simp] at h2
  rw [← hw0, ← hB] at hc h1 hz1 h2
  have HB0 : Hid (But [] w w0) := by show But _ _ _; rw [hw0]; exact (((But.refl [] w).alloc _).alloc _).alloc _
  have HO0 : Hid (NumOk w0) := h.keep0 HB0.out
  have hb1 : w0.cell? ⟨B + 1, 0, none⟩ = some (.int .i64 a1) := h1 0 _ rfl
  have hf1 : w0.frozen? ⟨B + 1, 0, none⟩ = false := (hz1 0 (by omega)).2
  have hb2 : w0.cell? ⟨B + 1 + 1, 0, none⟩ = some (.int .i64 o) := h2 0 _ rfl
  have HC0 := hid hc
  obtain ⟨a, ha⟩ : ∃ a, a = a1 % 256 := ⟨_, rfl⟩
  have hand := and255 a1
  rw [← ha] at hand
  have HA : Hid (0 ≤ a ∧ a < 256) := by show _ ∧ _; omega
  have HW1 : Hid (∀ k : But [B + 1] w0 (w0.setCell ⟨B + 1, 0, none⟩ (.int .i64 a)), (w0.setCell ⟨B + 1, 0, none⟩ (.int .i64 a)).cell? ⟨B + 1, 0, none⟩ = some (.int .i64 a) ∧ (w0.setCell ⟨B + 1, 0, none⟩ (.int .i64 a)).cell? ⟨B + 1 + 1, 0, none⟩ = some (.int .i64 o)) := fun k =>
    ⟨World.cell?_setCell_same _ _ _ hb1, cell_keep hb2 k (by simp)⟩
  clear h hr h1 h2 hz1 hc ha
  have hmf : ∀ (fn : Fn) (first cap : Array Value) (w : World), (Instr.makeFunc fn first cap).run Tryd.prog w = .ok (.func fn first cap) w := fun _ _ _ _ => rfl
  have hz := zCall
  go_enter Tryd.func5, Tryd.ntmps5
  go_upto_region 1 with fail
  rw [← hw0, ← hB]
  clear hw0 hB
  go_upto_region 2 with fail
  have K1 : But [B + 1] w0 (w0.setCell ⟨B + 1, 0, none⟩ (.int .i64 a)) := (But.refl [B + 1] w0).setCell (by simp) _
  obtain ⟨hb1', hb2'⟩ := HW1.out K1
  have HC1 : Hid (CallAt (w0.setCell ⟨B + 1, 0, none⟩ (.int .i64 a)) B x g r) := HC0.out.keep K1 (by simp)
  have HB1 : Hid (But [] w (w0.setCell ⟨B + 1, 0, none⟩ (.int .i64 a))) := but_own HB0.out K1 (by have := HBW.out; simp; omega)
  have HO1 : Hid (NumOk (w0.setCell ⟨B + 1, 0, none⟩ (.int .i64 a))) := HO0.out.keep K1 (by simp)
  clear hb1 hf1 hb2 K1 hand
  generalize w0.setCell ⟨B + 1, 0, none⟩ (.int .i64 a) = w1 at *
  have HB1A := hid hb1'
  have HB2A := hid hb2'
  clear hb1' hb2'
  obtain ⟨L, hL⟩ : ∃ L, L = nms (lt x) := ⟨_, rfl⟩
  have HL := hid hL
  have hrn1 := renamed_c (.func (.func 18) #[] #[.pointer (some ⟨B + 1, 0, none⟩), .pointer (some ⟨B + 1 + 1, 0, none⟩)]) (mf a) (mb o) x g r w1 HO1.out HR.out
    (fun wx hx k n hk => told1_c (B + 1) (B + 1 + 1) a o k n HA.out hk wx (cell_keep HB1A.out hx (by simp)) (cell_keep HB2A.out hx (by simp)))
  rw [← hL] at hrn1
  obtain ⟨ok, hok⟩ : ∃ ok, ok = okL (mb o) g L := ⟨_, rfl⟩
  have HOK := hid hok
  obtain ⟨D, hD⟩ : ∃ D, D = rnA ok x (upL (mf a) g L) r := ⟨_, rfl⟩
  rw [← hok, ← hD] at hrn1
  have HD := hid hD
  have HDL : Hid (D.length = 38) := by show _ = _; rw [hD]; exact rnA_len HR.out
  have HD1 : Hid (∀ v ∈ D, v.oneCell' = true) := by show ∀ v ∈ D, _; rw [hD]; exact rnA_one _ _ _ _
  have HRN1 := hid hrn1
  have HiD : Hid ((Tryd.prog.info? 29).map (·.size) = some D.toArray.size) := by show _ = _; rw [List.size_toArray, HDL.out]; exact szCall
  clear hL hok hD hrn1
  go_wp2_with (first
    | (refine wpList_load_mid rfl 29 _ rfl B 0 rfl (cv x g r) _ HC1.out.all Tryd.underlying29 rfl (iCall x g HR.out) ?_))
  refine HRN1.out.mono ?_
  rintro e w2 ⟨rfl, k2⟩
  have HC2 := hid (HC1.out.keep0 k2)
  have HB2 := hid (HB1.out.trans k2)
  have HO2 := hid (HO1.out.keep0 k2)
  have HK2 := hid k2
  obtain ⟨bD, hbD⟩ : ∃ bD, bD = w2.heap.size := ⟨_, rfl⟩
  have hrD := new_range w2 D 29
  rw [← hbD] at hrD
  have hkD : But [] w2 (w2.alloc (.cells D.toArray 29)) := (But.refl [] w2).alloc _
  clear k2
  go_upto_region 3 with (first
    | (refine wpList_store_new rfl 29 _ _ rfl (cv 0 z0 (zs 33)).toArray D.toArray rfl rfl HiD.out (by rw [List.size_toArray, List.size_toArray, HDL.out, cv_len _ _ (zs_len 33)]) (all_oneCell_toArray HD1.out) ?_))
  rw [← hbD]
  generalize w2.alloc (.cells D.toArray 29) = w3 at *
  have HC3 := hid (HC2.out.keep0 hkD)
  have HB3 := hid (HB2.out.trans hkD)
  have HO3 := hid (HO2.out.keep0 hkD)
  have HA3 : Hid (But [] w1 w3) := HK2.out.trans hkD
  have HD3 := hid hrD
  have hrn2 := renamed_c (.func (.func 19) #[] #[]) (fun _ n => n) (fun _ _ => true) x g r w3 HO3.out HR.out
    (fun wx _ k n _ => told2_c k n wx)
  rw [rnA_id, okL_id] at hrn2
  have HRN2 := hid hrn2
  clear hrn2 hkD hrD hbD
  go_wp2_with (first
    | (refine wpList_load_mid rfl 29 _ rfl B 0 rfl (cv x g r) _ HC3.out.all Tryd.underlying29 rfl (iCall x g HR.out) ?_))
  refine HRN2.out.mono ?_
  rintro e w4 ⟨rfl, k4⟩
  have HC4 := hid (HC3.out.keep0 k4)
  have HB4 := hid (HB3.out.trans k4)
  have HO4 := hid (HO3.out.keep0 k4)
  have HD4 := hid (range_keep HD3.out k4 (by simp))
  have HA4 := hid (HA3.out.trans k4)
  obtain ⟨bE, hbE⟩ : ∃ bE, bE = w4.heap.size := ⟨_, rfl⟩
  have hrE := new_range w4 (cv x g r) 29
  rw [← hbE] at hrE
  have hkE : But [] w4 (w4.alloc (.cells (cv x g r).toArray 29)) := (But.refl [] w4).alloc _
  clear k4
  go_upto_region 4 with (first
    | (refine wpList_store_new rfl 29 _ _ rfl (cv 0 z0 (zs 33)).toArray (cv x g r).toArray rfl rfl (iCall' x g HR.out) (by rw [List.size_toArray, List.size_toArray, cv_len x g HR.out, cv_len _ _ (zs_len 33)]) (all_oneCell_toArray (cv_one x g r)) ?_))
  rw [← hbE]
  generalize w4.alloc (.cells (cv x g r).toArray 29) = w5 at *
  have HC5 := hid (HC4.out.keep0 hkE)
  have HB5 := hid (HB4.out.trans hkE)
  have HO5 := hid (HO4.out.keep0 hkE)
  have HD5 := hid (range_keep HD4.out hkE (by simp))
  have HA5 := hid (HA4.out.trans hkE)
  have HE5 := hid hrE
  have hop := HC5.out.op
  clear hkE hrE hbE
  -- the document's letters
  obtain ⟨l, hl⟩ : ∃ l, l = fm x := ⟨_, rfl⟩
  have h4 := fm_four x
  rw [← hl] at h4
  have HLF := hid hl
  obtain ⟨n, hn⟩ : ∃ n, n = l.length := ⟨_, rfl⟩
  have hsz : (sv l).size = n := by rw [sv_size, hn]
  rw [← hn] at h4
  have HN := hid hn
  have HM : Hid (L = nmN l n) := by show _ = _; rw [HL.out, hn, ← fm_nms, ← hl]; rfl
  have HF : Hid (∀ wx : World, Calls Tryd.prog 10 #[.int .i64 x] wx fun e w' => e = .returned (.string (sv l)) ∧ But [] wx w') := fun wx => by rw [hl]; exact form_c x wx
  clear hl hn
  go_wp2_with fail
  refine (HF.out _).mono ?_
  rintro e w6 ⟨rfl, k6⟩
  have HC6 := hid (HC5.out.keep0 k6)
  have HB6 := hid (HB5.out.trans k6)
  have HO6 := hid (HO5.out.keep0 k6)
  have HD6 := hid (range_keep HD5.out k6 (by simp))
  have HE6 := hid (range_keep HE5.out k6 (by simp))
  have HA6 := hid (HA5.out.trans k6)
  obtain ⟨bW, hbW⟩ : ∃ bW, bW = w6.heap.size := ⟨_, rfl⟩
  have hcW := call_new w6 x g HR.out 29
  rw [← hbW] at hcW
  have hkW : But [] w6 (w6.alloc (.cells (cv x g r).toArray 29)) := (But.refl [] w6).alloc _
  clear k6 hop
  go_upto_region 6 with (first
    | (refine wpList_load_mid rfl 29 _ rfl B 0 rfl (cv x g r) _ HC6.out.all Tryd.underlying29 rfl (iCall x g HR.out) ?_)
    | (refine wpList_store_new rfl 29 _ _ rfl (cv 0 z0 (zs 33)).toArray (cv x g r).toArray rfl rfl (iCall' x g HR.out) (by rw [List.size_toArray, List.size_toArray, cv_len x g HR.out, cv_len _ _ (zs_len 33)]) (all_oneCell_toArray (cv_one x g r)) ?_))
  rw [← hbW]
  have HNB : Hid (bD < bW ∧ bE < bW ∧ B + 1 + 1 < bW) := by
    have h1 := lt_of_there_range HD6.out (by rw [HDL.out]; omega)
    have h2 := lt_of_there_range HE6.out (by rw [cv_len x g HR.out]; omega)
    have h3 := lt_of_cell (cell_keep HB2A.out HA6.out (by simp))
    rw [hbW]
    exact ⟨h1, h2, h3⟩
  have HBB : Hid (B < bW) := by show _ < _; rw [hbW]; exact HC6.out.lt
  generalize w6.alloc (.cells (cv x g r).toArray 29) = w7 at *
  have HC7 := hid (HC6.out.keep0 hkW)
  have HB7 := hid (HB6.out.trans hkW)
  have HO7 := hid (HO6.out.keep0 hkW)
  have HD7 := hid (range_keep HD6.out hkW (by simp))
  have HE7 := hid (range_keep HE6.out hkW (by simp))
  have HA7 := hid (HA6.out.trans hkW)
  have HW7 := hid hcW
  have HWL : Hid (w.heap.size ≤ bW) := by show _ ≤ _; rw [hbW]; exact HB6.out.size
  clear hkW hcW hbW hz hmf
  go_wp2
  go_loopg [13, 14] (n + 1) (fun g0 hv i wx => ∃ (m : Nat) (q : Bool), m + g0 = n + 1 ∧ m ≤ n ∧ i = .int .i64 m ∧ hv = .bool (!q) ∧ Hid (q = okN (mb o) l g m) ∧ Hid (CallAt wx bW x (wn (mf a) l g m) r) ∧ Hid (But [bW] w7 wx))
  case atStart => exact ⟨0, true, by omega, by omega, rfl, rfl, rfl, HW7, But.refl _ _⟩
  case round =>
    obtain ⟨m, q, hmg, hm, rfl, rfl, HQ, HWm, HXm⟩ := hrel
    by_cases hlt : m < n
    · have hmI : (m : Int) < (n : Int) := by omega
      have hm4 : (m : Int) < 4 := by omega
      have hix := idx_str l m (by have := HN.out; omega)
      have HYS := hid (@wn_yes (mf a) l g m)
      have HNO := hid (@wn_no (mf a) l g m)
      have HYS2 := hid (@okN_yes (mb o) l g m)
      have HNO2 := hid (@okN_no (mb o) l g m)
      generalize ch l m = c at *
      go_wp2_with fail
      refine (kind_c c _).mono ?_
      rintro e w8 ⟨rfl, rfl⟩
      have hkr := kd_le c
      generalize kd c = kk at *
      obtain ⟨hk0, hk3⟩ := hkr
      by_cases hkk : 0 ≤ kk
      · have hd : decide (0 ≤ kk) = true := decide_eq_true hkk
        have HWS := hid (HYS.out hkk)
        have HQS := hid (HYS2.out hkk)
        obtain ⟨u, hu⟩ : ∃ u, u = g m := ⟨_, rfl⟩
        have HU := hid hu
        obtain ⟨mm, hmm⟩ : ∃ mm, mm = u % 512 := ⟨_, rfl⟩
        have e0 := and511 u
        rw [← hmm] at e0
        have hm0 : 0 ≤ mm := by omega
        have hm1 : mm < 512 := by omega
        obtain ⟨ha0, ha1⟩ := HA.out
        have e4 := and511 (mm + a + 7 * kk)
        obtain ⟨y, hy⟩ : ∃ y, y = (mm + a + 7 * kk) % 512 := ⟨_, rfl⟩
        rw [← hy] at e4
        have HY : Hid (mf a kk (g m) = y) := by show _ = _; rw [hy, hmm, hu]; rfl
        have hcB : wr.drew.cell? ⟨B, 1 + m, none⟩ = some (.int .i64 u) := by
          have := (HC7.out.arg m (by omega)).1
          rw [← hu] at this
          exact cell_keep this HXm.out.drew (by have := HBB.out; simp; omega)
        have hcA : wr.drew.cell? ⟨B + 1, 0, none⟩ = some (.int .i64 a) := cell_keep (cell_keep HB1A.out HA7.out (by simp)) HXm.out.drew (by have := HNB.out; simp; omega)
        obtain ⟨hcW, hzW⟩ := HWm.out.drew.arg m (by omega)
        have HW8 : Hid (CallAt (wr.setCell ⟨bW, 1 + m, none⟩ (.int .i64 y)) bW x (wn (mf a) l g (m + 1)) r) := by
          show CallAt _ _ _ _ _
          rw [HWS.out, HY.out]
          exact HWm.out.set m (by omega) y
        have HX8 : Hid (But [bW] w7 (wr.setCell ⟨bW, 1 + m, none⟩ (.int .i64 y))) := HXm.out.setCell (by simp) _
        have x1 : IntKind.i64.wrap (mm + a) = mm + a := by rw [IntKind.wrap_i64]; omega
        have x2 : IntKind.i64.wrap (7 * kk) = 7 * kk := by rw [IntKind.wrap_i64]; omega
        have x3 : IntKind.i64.wrap (mm + a + 7 * kk) = mm + a + 7 * kk := by rw [IntKind.wrap_i64]; omega
        clear hu hmm hy
        go_wp2
        refine wp_region_still_tail 14 (by kernel_rfl) (by kernel_rfl) ?_
        simp only [List.take_succ_cons, List.take_zero, List.drop_succ_cons, List.drop_zero]
        change wpStill _ _ wr.drew _ _ _
        repeat still_step
        refine wpStill_nil ?_
        change wpList _ _ _ _ _ wr.drew
        clear hcB hcA x1 x2 x3 e0 e4
        go_upto_region 13 with fail
        clear hcW hzW
        generalize wr.setCell ⟨bW, 1 + m, none⟩ (.int .i64 y) = w9 at *
        have hcB : w9.cell? ⟨B, 1 + m, none⟩ = some (.int .i64 u) := by
          have := (HC7.out.arg m (by omega)).1
          rw [← HU.out] at this
          exact cell_keep this HX8.out (by have := HBB.out; simp; omega)
        have hcO : w9.cell? ⟨B + 1 + 1, 0, none⟩ = some (.int .i64 o) := cell_keep (cell_keep HB2A.out HA7.out (by simp)) HX8.out (by have := HNB.out; simp; omega)
        cases q with
        | false =>
          have HQ9 : Hid (false = okN (mb o) l g (m + 1)) := by show _ = _; rw [HQS.out, ← HQ.out]; rfl
          go_quiet (fail)
          go_wp2
          go_roundg (n + 1 - (m + 1))
          case measure => omega
          case rel => exact ⟨m + 1, false, by omega, by omega, by go_num, rfl, HQ9, HW8.out.keep0 ((But.refl [] _).drewN _), HX8.out.drewN _⟩
        | true =>
          have HQ9 : Hid ((!(u == o)) = okN (mb o) l g (m + 1)) := by show _ = _; rw [HQS.out, ← HQ.out, ← HU.out]; rfl
          go_quiet (fail)
          go_wp2
          go_roundg (n + 1 - (m + 1))
          case measure => omega
          case rel => exact ⟨m + 1, !(u == o), by omega, by omega, by go_num, by simp, HQ9, HW8.out.keep0 ((But.refl [] _).drewN _), HX8.out.drewN _⟩
      · have hd : decide (0 ≤ kk) = false := decide_eq_false hkk
        have HWS := hid (HNO.out (by omega))
        have HQS := hid (HNO2.out (by omega))
        go_wp2
        go_roundg (n + 1 - (m + 1))
        case measure => omega
        case rel => exact ⟨m + 1, q, by omega, by omega, by go_num, rfl, by show _ = _; rw [HQS.out]; exact HQ.out, by show CallAt _ _ _ _ _; rw [HWS.out]; exact HWm.out, HXm.out⟩
    · obtain rfl : m = n := by omega
      have hup : upL (mf a) g L = wn (mf a) l g m := by rw [HM.out]; exact upL_nmN (mf a) l g m
      have hqk : q = ok := by rw [HQ.out, HOK.out, HM.out]; exact (okL_nmN (mb o) l g m).symm
      subst hqk
      have HDV : Hid (D = rnA q x (wn (mf a) l g m) r) := by show _ = _; rw [HD.out, hup]
      obtain ⟨y, hy⟩ : ∃ y, y = wn (mf a) l g m := ⟨_, rfl⟩
      rw [← hy] at HDV HWm
      have HC9 := hid (HC7.out.keep HXm.out (by have := HBB.out; simp; omega))
      have HD9 := hid (range_keep HD7.out HXm.out (by have := HNB.out; simp; omega))
      have HE9 := hid (range_keep HE7.out HXm.out (by have := HNB.out; simp; omega))
      have HB9 : Hid (But [] w wr) := but_own HB7.out HXm.out (by have := HWL.out; simp; omega)
      have HO9 : Hid (NumOk wr) := HO7.out.keep HXm.out (by have := HBB.out; simp; omega)
      have hn1 := neqCall x g HR.out
      have he1 := eqlCall x y HR.out
      have he0 := eqlCall 0 z0 (zs_len 33)
      clear hup hy
      cases q with
      | true =>
        have HDY : Hid (wr.rangeAt bD 0 (cv x y r)) := by have := HD9.out; rw [HDV.out] at this; exact this
        go_upto_region 14 with fail
        go_wp2_with (first
          | (refine wpList_load_mid rfl 29 _ rfl bE 0 rfl (cv x g r) _ HE9.out Tryd.underlying29 rfl (iCall x g HR.out) ?_)
          | (refine wpList_load_mid rfl 29 _ rfl B 0 rfl (cv x g r) _ HC9.out.all Tryd.underlying29 rfl (iCall x g HR.out) ?_)
          | (refine wpList_load_mid_g 29 _ rfl bD 0 rfl (cv x y r) _ HDY.out Tryd.underlying29 rfl (iCall x y HR.out) rfl ?_)
          | (refine wpList_load_mid_g 29 _ rfl bW 0 rfl (cv x y r) _ HWm.out.all Tryd.underlying29 rfl (iCall x y HR.out) rfl ?_))
        refine (awake_c _ HO9.out).mono ?_
        rintro e w8 ⟨rfl, k8⟩
        have HBF := hid (HB9.out.trans k8)
        clear k8
        go_wp2
        go_ret
        exact ⟨rfl, HBF.out⟩
      | false =>
        have HDY : Hid (wr.rangeAt bD 0 (cv 0 z0 (zs 33))) := by have := HD9.out; rw [HDV.out] at this; exact this
        go_upto_region 14 with fail
        go_wp2_with (first
          | (refine wpList_load_mid rfl 29 _ rfl bE 0 rfl (cv x g r) _ HE9.out Tryd.underlying29 rfl (iCall x g HR.out) ?_)
          | (refine wpList_load_mid rfl 29 _ rfl B 0 rfl (cv x g r) _ HC9.out.all Tryd.underlying29 rfl (iCall x g HR.out) ?_)
          | (refine wpList_load_mid_g 29 _ rfl bD 0 rfl (cv 0 z0 (zs 33)) _ HDY.out Tryd.underlying29 rfl (iCall 0 z0 (zs_len 33)) rfl ?_)
          | (refine wpList_build_g 29 [] rfl (cv 0 z0 (zs 33)).toArray bCall rfl ?_))
        refine (awake_c _ HO9.out).mono ?_
        rintro e w8 ⟨rfl, k8⟩
        have HBF := hid (HB9.out.trans k8)
        clear k8
        go_wp2
        go_ret
        exact ⟨rfl, HBF.out⟩
end Go.Proofs.YtecgeoafahohjaaDoor.Ab
