/-
  Layer 14 (abi): the contract of the document's Right, over the translated program.
-/
import Derived.Test.YtecgeoafahohjaaDoorAbCheck
import Derived.Test.YtecgeoafahohjaaDoorAbMore
namespace Go.Proofs.YtecgeoafahohjaaDoor.Ab
open Go.ChangeShapes Go.WideShapes Go.ChangeAt Go.RowKit
open Wh
set_option linter.unusedVariables false
set_option maxRecDepth 20000

theorem tab_ne : ∀ k, k < 41 → ((tabL.getD k []) == [45]) = false := by decide
theorem lt_ne (x : Int) : (lt x == [45]) = false := by
  cases h : kn x with
  | false => rw [lt_no h]; rfl
  | true =>
    obtain ⟨h1, h2⟩ := kn_true h
    obtain ⟨k, rfl⟩ : ∃ k : Nat, x = k := ⟨x.toNat, by omega⟩
    rw [lt_at (by omega) (by omega)]
    exact tab_ne k (by omega)
theorem sv_beq (l m : Ls) : ((sv l).toList == (sv m).toList) = (l == m) := by rw [sv_list, sv_list]
set_option maxHeartbeats 4000000 in
theorem right_c (x : Int) (g : Nat → Int) (r : List Int) (w : World) (hr : r.length = 33) : Calls Tryd.prog 7 #[.agg (cv x g r).toArray] w fun e w' => e = .returned (.bool (rgB x g r)) ∧ But [] w w' := by
  obtain ⟨b, hb⟩ : ∃ b, b = w.heap.size := ⟨_, rfl⟩
  obtain ⟨w0, hw0⟩ : ∃ w0, w0 = w.alloc (.cells (cv x g r).toArray 29) := ⟨_, rfl⟩
  have hc := call_new w x g hr 29
  rw [← hw0, ← hb] at hc
  have HC := hid hc
  have HB : Hid (But [] w w0) := by show But _ _ _; rw [hw0]; exact (But.refl [] w).alloc _
  have HR := hid hr
  have hop := hc.op
  clear hc hr
  go_enter Tryd.func7, Tryd.ntmps7
  go_upto_region 1 with fail
  rw [← hw0, ← hb]
  clear hw0 hb
  go_wp2_with fail
  refine (form_c x _).mono ?_
  rintro e w1 ⟨rfl, k1⟩
  have HB1 := hid (HB.out.trans k1)
  have HC1 := hid (HC.out.keep0 k1)
  clear k1 hop
  cases hk : kn x with
  | false =>
    have HK := hid (rg_no1 (g := g) (r := r) hk)
    rw [fm_no hk]
    clear hk
    have hs : ((sv [45]).toList == [45]) = true := by rw [sv_list]; rfl
    go_wp2
    go_ret
    exact ⟨by rw [HK.out]; rfl, HB1.out⟩
  | true =>
    have HK1 := hid hk
    rw [fm_yes hk]
    clear hk
    have hne := lt_ne x
    rw [← sv_list (lt x)] at hne
    have h4 := lt_four x
    have hL := lt_isL x
    have HIL := hid hL
    obtain ⟨l, hl⟩ : ∃ l, l = lt x := ⟨_, rfl⟩
    rw [← hl] at h4 hne HIL ⊢
    have HL := hid hl
    obtain ⟨n, hn⟩ : ∃ n, n = l.length := ⟨_, rfl⟩
    have hsz : (sv l).size = n := by rw [sv_size, hn]
    rw [← hn] at h4
    have HN := hid hn
    clear hl hn hL
    go_wp2
    go_loopg [4] 5 (fun g0 i wx => ∃ k : Nat, k + g0 = 5 ∧ k ≤ 4 ∧ i = .int .i64 k ∧ Hid (argN l g k = true) ∧ Hid (But [] w1 wx))
    case atStart => exact ⟨0, by omega, by omega, rfl, rfl, But.refl _ _⟩
    case round =>
      obtain ⟨k, hkg, hk, rfl, HA, HX⟩ := hrel
      have HC2 := hid (HC1.out.keep0 HX.out)
      by_cases h4k : k < 4
      · have hk4' : (k : Int) < 4 := by omega
        obtain ⟨hca, -⟩ := HC2.out.arg k h4k
        obtain ⟨a, ha⟩ : ∃ a, a = g k := ⟨_, rfl⟩
        rw [← ha] at hca
        have HG := hid ha
        clear ha
        by_cases hlt : k < n
        · have hkI : (k : Int) < (n : Int) := by omega
          have hkd : decide ((k : Int) < (n : Int)) = true := decide_eq_true hkI
          have hxs := idx_str l k (by have := HN.out; omega)
          have HCL := hid (HIL.out k (by have := HN.out; omega))
          have HOne : Hid (oneN l g k = ftB (ch l k) a) := by show _ = _; unfold oneN; rw [if_pos (by have := HN.out; omega), HG.out]
          generalize ch l k = c at *
          have hfc := fits_c c a HCL.out
          cases hf : ftB c a with
          | false =>
            rw [hf] at hfc
            have HR4 : Hid (argN l g 4 = false) := argN_all k h4k (by rw [HOne.out, hf])
            clear hf
            go_wp2
            go_quiet ((go_at_call 20; exact Calls.quiet_of_same ((hfc _).mono fun e w' ⟨h1, h2⟩ => ⟨h1, h2.symm⟩)))
            go_wp2
            go_ret
            exact ⟨by rw [rg_no2 (by rw [← HL.out]; exact HR4.out)]; rfl, (HB1.out.trans HX.out).drewN _⟩
          | true =>
            rw [hf] at hfc
            have HR4 : Hid (argN l g (k + 1) = true) := argN_succ HA.out (by rw [HOne.out, hf])
            have hge : decide (n ≤ k) = false := decide_eq_false (by omega)
            have hgeI : decide ((n : Int) ≤ (k : Int)) = false := decide_eq_false (by omega)
            clear hf
            go_wp2
            go_quiet ((go_at_call 20; exact Calls.quiet_of_same ((hfc _).mono fun e w' ⟨h1, h2⟩ => ⟨h1, h2.symm⟩)))
            go_wp2
            go_roundg (5 - (k + 1))
            case measure => omega
            case rel => exact ⟨k + 1, by omega, by omega, by go_num, HR4, HX.out.drewN _⟩
        · have hkI : ¬ (k : Int) < (n : Int) := by omega
          have hkd : decide ((k : Int) < (n : Int)) = false := decide_eq_false hkI
          have hge : decide ((n : Int) ≤ (k : Int)) = true := decide_eq_true (by omega)
          have hgeI : (n : Int) ≤ (k : Int) := by omega
          have HOne : Hid (oneN l g k = decide (a = 0)) := by show _ = _; unfold oneN; rw [if_neg (by have := HN.out; omega), HG.out]
          by_cases h0 : a = 0
          · have HR4 : Hid (argN l g (k + 1) = true) := argN_succ HA.out (by rw [HOne.out, decide_eq_true h0])
            subst h0
            go_wp2
            go_quiet (fail)
            go_wp2
            go_roundg (5 - (k + 1))
            case measure => omega
            case rel => exact ⟨k + 1, by omega, by omega, by go_num, HR4, HX.out.drewN _⟩
          · have HR4 : Hid (argN l g 4 = false) := argN_all k h4k (by rw [HOne.out, decide_eq_false h0])
            have hb0 : (a == 0) = false := by simpa using h0
            go_wp2
            go_quiet (fail)
            go_wp2
            go_ret
            exact ⟨by rw [rg_no2 (by rw [← HL.out]; exact HR4.out)]; rfl, (HB1.out.trans HX.out).drewN _⟩
      · obtain rfl : k = 4 := by omega
        have HA4 : Hid (argN (lt x) g 4 = true) := by show _ = _; rw [← HL.out]; exact HA.out
        have HB2 := hid (HB1.out.trans HX.out)
        have hop := HC2.out.op
        have HC3 := HC2
        have hnw := neqWords HR.out
        have hnp := eqlProg HR.out
        clear hne h4 hsz hkg hk
        go_upto_region 9 with fail
        obtain ⟨z, hz⟩ : ∃ z, z = (!decide (x = 4) && !decide (x = 22) && !wzB r) := ⟨_, rfl⟩
        have HZ := hid hz
        clear hz
        go_cut [55] from 42 to 54 (fun s55 wx => s55 = .bool z ∧ wx = wr)
        case first =>
          by_cases h4 : x = 4
          · have hv : Hid (z = false) := by show _ = _; rw [HZ.out, decide_eq_true h4]; rfl
            subst h4
            go_wp2
            go_meet
            exact ⟨by rw [hv.out], rfl⟩
          · have h4' : (x != 4) = true := by simpa using h4
            by_cases h22 : x = 22
            · have hv : Hid (z = false) := by show _ = _; rw [HZ.out, decide_eq_false h4, decide_eq_true h22]; rfl
              subst h22
              go_wp2
              go_meet
              exact ⟨by rw [hv.out], rfl⟩
            · have h22' : (x != 22) = true := by simpa using h22
              have hv : Hid (z = !wzB r) := by show _ = _; rw [HZ.out, decide_eq_false h4, decide_eq_false h22]; rfl
              generalize wzB r = q at hv hnw
              go_wp2_with (first
              | (refine wpList_load_mid_g 25 _ rfl b 5 rfl (wv r) _ HC3.out.words Tryd.underlying25 rfl (iWords HR.out) rfl ?_)
              | (refine wpList_build_g 25 [] rfl (wv (zs 33)).toArray bWords rfl ?_))
              go_meet
              exact ⟨by rw [hv.out], rfl⟩
        case rest =>
        obtain ⟨rfl, hwa⟩ := hcut
        rw [hwa]
        clear hwa
        cases z with
        | true =>
          have HK : Hid (rgB x g r = false) := by
            have := HZ.out
            cases hwz : wzB r with
            | true => rw [hwz] at this; simp at this
            | false => rw [hwz] at this; simp at this; exact rg_no3 hwz this.1 this.2
          go_wp2
          go_ret
          exact ⟨by rw [HK.out]; rfl, HB2.out⟩
        | false =>
          have HW : Hid (wzB r = true ∨ x = 4 ∨ x = 22) := by
            have := HZ.out
            show _ ∨ _
            cases hwz : wzB r with
            | true => exact .inl rfl
            | false => rw [hwz] at this; simp at this; by_cases h4 : x = 4; exact .inr (.inl h4); exact .inr (.inr (this h4))
          go_upto_region 11 with fail
          by_cases h17 : x = 17
          · have HK : Hid (rgB x g r = true) := rg_yes HK1.out HA4.out HW.out (.inr h17)
            subst h17
            go_wp2
            go_ret
            exact ⟨by rw [HK.out]; rfl, HB2.out⟩
          · have h17' : (x == 17) = false := by simpa using h17
            have HK : Hid (rgB x g r = pzB r) := by
              show _ = _
              cases hpz : pzB r with
              | true => exact rg_yes HK1.out HA4.out HW.out (.inl hpz)
              | false => exact rg_no4 hpz h17
            generalize pzB r = q at HK hnp
            go_wp2_with (first
              | (refine wpList_load_mid_g 27 _ rfl b 21 rfl (pv r) _ HC3.out.prog Tryd.underlying27 rfl (iProg HR.out) rfl ?_)
              | (refine wpList_build_g 27 [] rfl (pv (zs 33)).toArray bProg rfl ?_))
            go_ret
            exact ⟨by rw [HK.out]; rfl, HB2.out⟩
end Go.Proofs.YtecgeoafahohjaaDoor.Ab
