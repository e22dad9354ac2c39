/-
  Layer 14 (abi): contracts of numbersMay and Check, over the translated program.
-/
import Derived.Test.YtecgeoafahohjaaDoorAbCall
import Derived.Test.YtecgeoafahohjaaDoorAbNames
import Derived.Test.YtecgeoafahohjaaDoorHeld
import Derived.Deep.LoopGhost
namespace Go.Proofs.YtecgeoafahohjaaDoor.Ab
open Go.ChangeShapes Go.WideShapes Go.ChangeAt Go.RowKit
open Wh
set_option linter.unusedVariables false
set_option maxRecDepth 20000

theorem wpList_build' {P : Program} {ops : Array Oper} {rest : List Oper} {o : Oper} {a : Act} {w : World} {Q : Exit → Act → World → Prop} (hg : o.guard = none) (t : TypeId) (parts : List (Nat × Operand)) (ho : o.op = .build t parts.toArray)
    (cells : Array Value) (hf : P.built t (parts.map fun (i, x) => (i, a.eval x)) = some cells)
    (h : wpList P ops Q rest (a.put o.dst (.agg cells)) w) : wpList P ops Q (o :: rest) a w := by
  have e : (parts.toArray.map fun (i, x) => (i, a.eval x)).toList = parts.map fun (i, x) => (i, a.eval x) := by simp
  exact wpList_build hg t parts.toArray ho (by rw [e, hf]; rfl) (by rw [e, hf]; exact h)
/-- The same, guarded, where the guard lets it run. -/
theorem wpList_build_g {P : Program} {ops : Array Oper} {rest : List Oper} {o : Oper} {a : Act} {w : World} {Q : Exit → Act → World → Prop} (t : TypeId) (parts : List (Nat × Operand)) (ho : o.op = .build t parts.toArray)
    (cells : Array Value) (hf : P.built t (parts.map fun (i, x) => (i, a.eval x)) = some cells) (hw : Region.wanted o (yielded ops a.tmps) = true)
    (h : wpList P ops Q rest (a.put o.dst (.agg cells)) w) : wpList P ops Q (o :: rest) a w := by
  have e : (parts.toArray.map fun (i, x) => (i, a.eval x)).toList = parts.map fun (i, x) => (i, a.eval x) := by simp
  exact wpList_step fun K hK => by rw [if_pos hw]; exact wp_build t parts.toArray ho (by rw [e, hf]; rfl) (hK _ _ (by rw [e, hf]; exact h))
theorem idx_four (g : Nat → Int) (j : Nat) (hj : j < 4) (w : World) : (Instr.index 22 (.agg (av g).toArray) (.int .i64 j)).run Tryd.prog w = .ok (.int .i64 (g j)) w := by
  rcases four_cases hj with rfl | rfl | rfl | rfl <;> kernel_rfl
theorem argN_all {l : Ls} {g : Nat → Int} (i : Nat) (hi : i < 4) (h : oneN l g i = false) : argN l g 4 = false := argN_mono h 4 hi
set_option maxHeartbeats 1000000 in
theorem numbersMay_c (x : Int) (g : Nat → Int) (r : List Int) (w : World) (h : NumOk w) (hr : r.length = 33) : Calls Tryd.prog 21 #[.agg (cv x g r).toArray] w fun e w' => e = .returned (.bool (argN (lt x) g 4)) ∧ But [] w w' := by
  obtain ⟨b, hb⟩ : ∃ b, b = w.heap.size := ⟨_, rfl⟩
  obtain ⟨w0, hw0⟩ : ∃ w0, w0 = w.alloc (.cells (cv x g r).toArray 29) := ⟨_, rfl⟩
  have hc := call_new w x g hr 29
  rw [← hw0, ← hb] at hc
  have HC := hid hc
  have HB : Hid (But [] w w0) := by show But _ _ _; rw [hw0]; exact (But.refl [] w).alloc _
  have HO : Hid (NumOk w0) := h.keep0 HB.out
  obtain ⟨l, hl⟩ : ∃ l, l = lt x := ⟨_, rfl⟩
  have h4 := lt_four x
  have hL : ∀ j, j < l.length → isL (ch l j) := by rw [hl]; exact lt_isL x
  have HIL := hid hL
  rw [← hl] at h4
  have HL := hid hl
  obtain ⟨n, hn⟩ : ∃ n, n = l.length := ⟨_, rfl⟩
  have hsz : (sv l).size = n := by rw [sv_size, hn]
  rw [← hn] at h4
  have HN := hid hn
  have hop := hc.op
  clear h hl hn hc hr hL
  go_enter Tryd.func21, Tryd.ntmps21
  go_upto_region 1 with fail
  rw [← hw0, ← hb]
  clear hw0 hb
  go_wp2_with fail
  refine (letters_c x _ HO.out).mono ?_
  rw [← HL.out]
  rintro e w1 ⟨rfl, rfl⟩
  clear hop
  go_wp2_with (first
    | (refine wpList_load_mid rfl 22 _ rfl b 1 rfl (av g) _ HC.out.args Tryd.underlying22 rfl szFour ?_))
  go_loopg [13] 5 (fun g0 i wx => ∃ k : Nat, k + g0 = 5 ∧ k ≤ 4 ∧ i = .int .i64 k ∧ Hid (argN l g k = true) ∧ w0 = wx)
  case atStart => exact ⟨0, by omega, by omega, rfl, rfl, rfl⟩
  case round =>
    obtain ⟨k, hkg, hk, rfl, HA, rfl⟩ := hrel
    by_cases h4k : k < 4
    · have hix := idx_four g k h4k
      have hk4' : (k : Int) < 4 := by omega
      obtain ⟨a, ha⟩ : ∃ a, a = g k := ⟨_, rfl⟩
      rw [← ha] at hix
      have HG := hid ha
      clear ha
      by_cases hlt : k < n
      · have hkI : (k : Int) < (n : Int) := by omega
        have hxs := idx_str l k (by have := HN.out; omega)
        have HCL := hid (HIL.out k (by have := HN.out; omega))
        have HOne : Hid (oneN l g k = ftB (ch l k) a) := by show _ = _; unfold oneN; rw [if_pos (by have := HN.out; omega), HG.out]
        generalize ch l k = c at *
        go_wp2_with fail
        refine (bounds_c c HCL.out _).mono ?_
        rintro e w2 ⟨rfl, rfl⟩
        obtain ⟨L, hLL⟩ : ∃ L, L = lo c := ⟨_, rfl⟩
        obtain ⟨H, hHH⟩ : ∃ H, H = hi c := ⟨_, rfl⟩
        have HF : Hid (ftB c a = decide (L ≤ a ∧ a ≤ H)) := by show _ = _; rw [hLL, hHH]; rfl
        rw [← hLL, ← hHH]
        clear hLL hHH
        by_cases h1 : a < L
        · have HR : Hid (argN l g 4 = false) := argN_all k h4k (by rw [HOne.out, HF.out, decide_eq_false]; omega)
          go_wp2
          go_ret
          exact ⟨by rw [← HL.out, HR.out]; rfl, HB.out⟩
        · have hd : decide (a < L) = false := decide_eq_false h1
          by_cases h2 : H < a
          · have HR : Hid (argN l g 4 = false) := argN_all k h4k (by rw [HOne.out, HF.out, decide_eq_false]; omega)
            go_wp2
            go_ret
            exact ⟨by rw [← HL.out, HR.out]; rfl, HB.out⟩
          · have hd2 : decide (H < a) = false := decide_eq_false h2
            have HR : Hid (argN l g (k + 1) = true) := argN_succ HA.out (by rw [HOne.out, HF.out, decide_eq_true]; omega)
            go_wp2
            go_roundg (5 - (k + 1))
            case measure => omega
            case rel => exact ⟨k + 1, by omega, by omega, by go_num, HR, rfl⟩
      · have hkI : decide ((k : Int) < (n : Int)) = false := decide_eq_false (by omega)
        have HOne : Hid (oneN l g k = decide (a = 0)) := by show _ = _; unfold oneN; rw [if_neg (by have := HN.out; omega), HG.out]
        by_cases h1 : a < 0
        · have HR : Hid (argN l g 4 = false) := argN_all k h4k (by rw [HOne.out, decide_eq_false]; omega)
          go_wp2
          go_ret
          exact ⟨by rw [← HL.out, HR.out]; rfl, HB.out⟩
        · have hd : decide (a < 0) = false := decide_eq_false h1
          by_cases h2 : 0 < a
          · have HR : Hid (argN l g 4 = false) := argN_all k h4k (by rw [HOne.out, decide_eq_false]; omega)
            go_wp2
            go_ret
            exact ⟨by rw [← HL.out, HR.out]; rfl, HB.out⟩
          · have hd2 : decide (0 < a) = false := decide_eq_false h2
            have HR : Hid (argN l g (k + 1) = true) := argN_succ HA.out (by rw [HOne.out, decide_eq_true]; omega)
            go_wp2
            go_roundg (5 - (k + 1))
            case measure => omega
            case rel => exact ⟨k + 1, by omega, by omega, by go_num, HR, rfl⟩
    · obtain rfl : k = 4 := by omega
      go_wp2
      go_ret
      exact ⟨by rw [← HL.out, HA.out]; rfl, HB.out⟩
/-- What is answered of what may be. -/
def erI (b : Bool) : Int := if b = true then 0 else 1
theorem rg_no1 {x : Int} {g : Nat → Int} {r : List Int} (h : kn x = false) : rgB x g r = false := by unfold rgB; rw [h]; simp
theorem rg_no2 {x : Int} {g : Nat → Int} {r : List Int} (h : argN (lt x) g 4 = false) : rgB x g r = false := by unfold rgB; rw [h]; simp
theorem rg_no3 {x : Int} {g : Nat → Int} {r : List Int} (h : wzB r = false) (h1 : ¬ x = 4) (h2 : ¬ x = 22) : rgB x g r = false := by unfold rgB; rw [h]; simp [h1, h2]
theorem rg_no4 {x : Int} {g : Nat → Int} {r : List Int} (h : pzB r = false) (h1 : ¬ x = 17) : rgB x g r = false := by unfold rgB; rw [h]; simp [h1]
theorem rg_yes {x : Int} {g : Nat → Int} {r : List Int} (h1 : kn x = true) (h2 : argN (lt x) g 4 = true) (h3 : wzB r = true ∨ x = 4 ∨ x = 22) (h4 : pzB r = true ∨ x = 17) : rgB x g r = true := by
  unfold rgB
  rw [h1, h2]
  rcases h3 with h | h | h <;> rcases h4 with h' | h' <;> first | (exfalso; omega) | simp [h, h']
set_option maxHeartbeats 4000000 in
theorem check_c (x : Int) (g : Nat → Int) (r : List Int) (w : World) (h : NumOk w) (hr : r.length = 33) : Calls Tryd.prog 8 #[.agg (cv x g r).toArray] w fun e w' => e = .returned (.int .i64 (erI (rgB x g r))) ∧ But [] w w' := by
  obtain ⟨b, hb⟩ : ∃ b, b = w.heap.size := ⟨_, rfl⟩
  obtain ⟨w0, hw0⟩ : ∃ w0, w0 = w.alloc (.cells (cv x g r).toArray 29) := ⟨_, rfl⟩
  have hc := call_new w x g hr 29
  rw [← hw0, ← hb] at hc
  have HC := hid hc
  have HB : Hid (But [] w w0) := by show But _ _ _; rw [hw0]; exact (But.refl [] w).alloc _
  have HO : Hid (NumOk w0) := h.keep0 HB.out
  have HR := hid hr
  have hop := hc.op
  have hnw := neqWords hr
  have hnp := neqProg hr
  clear h hc hr
  go_enter Tryd.func8, Tryd.ntmps8
  go_upto_region 1 with fail
  rw [← hw0, ← hb]
  clear hw0 hb
  go_wp2_with fail
  refine (known_c x _).mono ?_
  rintro e w1 ⟨rfl, rfl⟩
  cases hk : kn x with
  | false =>
    have HK := hid (rg_no1 (g := g) (r := r) hk)
    clear hk
    go_wp2
    go_ret
    exact ⟨by rw [HK.out]; rfl, HB.out⟩
  | true =>
    have HK1 := hid hk
    clear hk
    go_wp2_with (first
      | (refine wpList_load_mid_g 29 _ rfl b 0 rfl (cv x g r) _ HC.out.all Tryd.underlying29 rfl (iCall x g HR.out) rfl ?_))
    refine (numbersMay_c x g r _ HO.out HR.out).mono ?_
    rintro e w1 ⟨rfl, k1⟩
    have HB1 := hid (HB.out.trans k1)
    have HC1 := hid (HC.out.keep0 k1)
    have hop := HC1.out.op
    clear k1
    cases ha : argN (lt x) g 4 with
    | false =>
      have HK := hid (rg_no2 (r := r) ha)
      clear ha
      go_wp2
      go_ret
      exact ⟨by rw [HK.out]; rfl, HB1.out⟩
    | true =>
      have HA := hid ha
      clear ha
      go_upto_region 3 with fail
      obtain ⟨z, hz⟩ : ∃ z, z = (!wzB r && !decide (x = 4) && !decide (x = 22)) := ⟨_, rfl⟩
      have HZ := hid hz
      clear hz
      go_cut [13] from 14 to 27 (fun s13 wx => s13 = .bool z ∧ wx = w1)
      case first =>
        cases hwz : wzB r with
        | true =>
          have hv : Hid (z = false) := by show _ = _; rw [HZ.out, hwz]; rfl
          rw [hwz] at hnw
          clear hwz
          go_wp2_with (first
            | (refine wpList_load_mid rfl 25 _ rfl b 5 rfl (wv r) _ HC1.out.words Tryd.underlying25 rfl (iWords HR.out) ?_)
            | (refine wpList_build' rfl 25 [] rfl (wv (zs 33)).toArray ?hb ?_; case hb => exact bWords))
          go_meet
          exact ⟨by rw [hv.out], rfl⟩
        | false =>
          rw [hwz] at hnw
          by_cases h4 : x = 4
          · have hv : Hid (z = false) := by show _ = _; rw [HZ.out, hwz, decide_eq_true h4]; rfl
            subst h4
            clear hwz
            go_wp2_with (first
              | (refine wpList_load_mid rfl 25 _ rfl b 5 rfl (wv r) _ HC1.out.words Tryd.underlying25 rfl (iWords HR.out) ?_)
              | (refine wpList_build' rfl 25 [] rfl (wv (zs 33)).toArray ?hb ?_; case hb => exact bWords))
            go_meet
            exact ⟨by rw [hv.out], rfl⟩
          · have h4' : (x == 4) = false := by simpa using h4
            by_cases h22 : x = 22
            · have hv : Hid (z = false) := by show _ = _; rw [HZ.out, hwz, decide_eq_false h4, decide_eq_true h22]; rfl
              subst h22
              clear hwz
              go_wp2_with (first
                | (refine wpList_load_mid rfl 25 _ rfl b 5 rfl (wv r) _ HC1.out.words Tryd.underlying25 rfl (iWords HR.out) ?_)
                | (refine wpList_build' rfl 25 [] rfl (wv (zs 33)).toArray ?hb ?_; case hb => exact bWords))
              go_meet
              exact ⟨by rw [hv.out], rfl⟩
            · have h22' : (x == 22) = false := by simpa using h22
              have hv : Hid (z = true) := by show _ = _; rw [HZ.out, hwz, decide_eq_false h4, decide_eq_false h22]; rfl
              clear hwz
              go_wp2_with (first
                | (refine wpList_load_mid rfl 25 _ rfl b 5 rfl (wv r) _ HC1.out.words Tryd.underlying25 rfl (iWords HR.out) ?_)
                | (refine wpList_build' rfl 25 [] rfl (wv (zs 33)).toArray ?hb ?_; case hb => exact bWords))
              go_meet
              exact ⟨by rw [hv.out]; simp [h4, h22], rfl⟩
      case rest =>
      obtain ⟨rfl, hwa⟩ := hcut
      rw [hwa]
      clear hwa
      cases z with
      | true =>
        have HK : Hid (rgB x g r = false) := by
          have := HZ.out
          cases hwz : wzB r with
          | true => rw [hwz] at this; simp at this
          | false => rw [hwz] at this; simp at this; exact rg_no3 hwz this.1 this.2
        go_wp2
        go_ret
        exact ⟨by rw [HK.out]; rfl, HB1.out⟩
      | false =>
        have HW : Hid (wzB r = true ∨ x = 4 ∨ x = 22) := by
          have := HZ.out
          show _ ∨ _
          cases hwz : wzB r with
          | true => exact .inl rfl
          | false => rw [hwz] at this; simp at this; by_cases h4 : x = 4; exact .inr (.inl h4); exact .inr (.inr (this h4))
        go_upto_region 5 with fail
        cases hpz : pzB r with
        | true =>
          have HK : Hid (rgB x g r = true) := rg_yes HK1.out HA.out HW.out (.inl hpz)
          rw [hpz] at hnp
          clear hpz
          go_wp2_with (first
            | (refine wpList_load_mid rfl 27 _ rfl b 21 rfl (pv r) _ HC1.out.prog Tryd.underlying27 rfl (iProg HR.out) ?_)
            | (refine wpList_build' rfl 27 [] rfl (pv (zs 33)).toArray ?hb ?_; case hb => exact bProg))
          go_ret
          exact ⟨by rw [HK.out]; rfl, HB1.out⟩
        | false =>
          rw [hpz] at hnp
          by_cases h17 : x = 17
          · have HK : Hid (rgB x g r = true) := rg_yes HK1.out HA.out HW.out (.inr h17)
            subst h17
            clear hpz
            go_wp2_with (first
              | (refine wpList_load_mid rfl 27 _ rfl b 21 rfl (pv r) _ HC1.out.prog Tryd.underlying27 rfl (iProg HR.out) ?_)
              | (refine wpList_build' rfl 27 [] rfl (pv (zs 33)).toArray ?hb ?_; case hb => exact bProg))
            go_ret
            exact ⟨by rw [HK.out]; rfl, HB1.out⟩
          · have h17' : (x == 17) = false := by simpa using h17
            have HK : Hid (rgB x g r = false) := rg_no4 hpz h17
            clear hpz
            go_wp2_with (first
              | (refine wpList_load_mid rfl 27 _ rfl b 21 rfl (pv r) _ HC1.out.prog Tryd.underlying27 rfl (iProg HR.out) ?_)
              | (refine wpList_build' rfl 27 [] rfl (pv (zs 33)).toArray ?hb ?_; case hb => exact bProg))
            go_ret
            exact ⟨by rw [HK.out]; rfl, HB1.out⟩
end Go.Proofs.YtecgeoafahohjaaDoor.Ab
