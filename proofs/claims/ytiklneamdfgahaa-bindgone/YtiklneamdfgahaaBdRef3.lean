/-
  Layer 15 (bind): the contract of the document's Drop, over the translated program.
-/
import Derived.Test.YtiklneamdfgahaaBdRef2
namespace Go.Proofs.Ytiklneamdfgahaa.Bd
open Go.ChangeShapes Go.WideShapes Go.ChangeAt Go.RowKit
open Wh
set_option linter.unusedVariables false
set_option maxRecDepth 20000

/-- Which ones the document's Drop means. -/
def mn (T : Tb) (sp pg fr : Int) (k : Nat) : Bool :=
  if sp < 0 then ((T k).getD (0, false)).1 == fr else (decide (((k / 32 : Nat) : Int) = sp) && (decide (pg < 0) || decide (((k % 32 : Nat) : Int) = pg)))
/-- Of the first K places. -/
def cutn (T : Tb) (g : Nat → Bool) (K : Nat) : Tb := cut T (fun k => g k && decide (k < K))
theorem cutn_at (T : Tb) (g : Nat → Bool) (K : Nat) : cutn T g K K = T K := by unfold cutn cut; simp
theorem cutn_zero (T : Tb) (g : Nat → Bool) : cutn T g 0 = T := by funext k; unfold cutn cut; simp
theorem cutn_yes (T : Tb) (g : Nat → Bool) (K : Nat) (h : g K = true) : up (cutn T g K) K none = cutn T g (K + 1) := by
  funext k
  unfold up cutn cut
  by_cases e : k = K
  · subst e
    simp [h]
  · rw [if_neg e]
    by_cases h1 : k < K
    · simp [h1, show k < K + 1 by omega]
    · simp [h1, show ¬ k < K + 1 by omega]
theorem cutn_no (T : Tb) (g : Nat → Bool) (K : Nat) (h : g K = false ∨ T K = none) : cutn T g K = cutn T g (K + 1) := by
  funext k
  unfold cutn cut
  by_cases e : k = K
  · subst e
    rcases h with h | h <;> simp [h]
  · by_cases h1 : k < K
    · simp [h1, show k < K + 1 by omega]
    · simp [h1, show ¬ k < K + 1 by omega]
theorem cutn_all {T : Tb} (ho : Ok T) (g : Nat → Bool) : cutn T g 2048 = cut T g :=
  cut_congr ho fun k hk _ => by simp [hk]
set_option maxHeartbeats 4000000 in
theorem rdrop_all (b : Nat) (T : Tb) (sp pg fr : Int) (w : World) (h : RfAt w b T) :
    Calls Try.prog 22 #[.pointer (some ⟨b, 0, none⟩), .int .i64 sp, .int .i64 pg, .int .i64 fr] w fun r w' => r = .returned (.int .i64 (dn T (mn T sp pg fr) 2048 : Nat)) ∧ Rl b (cutn T (mn T sp pg fr) 2048) w w' := by
  obtain ⟨g, hg⟩ : ∃ g, g = mn T sp pg fr := ⟨_, rfl⟩
  rw [← hg]
  have HG := hid hg
  have H := hid h
  have hz := zRB
  clear h hg
  go_enter Try.func22, Try.ntmps22
  go_wp2
  go_loopg [9, 10] 65 (fun g0 n i wx => ∃ s : Nat, s + g0 = 65 ∧ s ≤ 64 ∧ i = .int .i64 s ∧ n = .int .i64 (dn T g (s * 32) : Nat) ∧ Hid (Rl b (cutn T g (s * 32)) w wx))
  case atStart =>
    refine ⟨0, by omega, by omega, rfl, ?_, ?_⟩
    · rw [show dn T g (0 * 32) = 0 by rw [Nat.zero_mul]; exact ct_zero _]; rfl
    · show Rl _ _ _ _
      rw [Nat.zero_mul, cutn_zero]
      exact ⟨H.out, But.refl _ _⟩
  case round =>
    clear H
    obtain ⟨s, hsg, hs, rfl, rfl, H0⟩ := hrel
    by_cases hslt : s < 64
    · have hsI : (s : Int) < 64 := by omega
      go_wp2
      go_loopg [9, 11] 33 (fun g1 n i wx => ∃ p : Nat, p + g1 = 33 ∧ p ≤ 32 ∧ i = .int .i64 p ∧ n = .int .i64 (dn T g (s * 32 + p) : Nat) ∧ Hid (Rl b (cutn T g (s * 32 + p)) w wx))
      case atStart => exact ⟨0, by omega, by omega, rfl, rfl, H0.out⟩
      case round =>
        clear H0
        rename World => wa
        obtain ⟨p, hpg, hp, rfl, rfl, HR⟩ := hrel
        by_cases hplt : p < 32
        · have hpI : (p : Int) < 32 := by omega
          have HD := hid (dn_succ T g (s * 32 + p))
          have hrow := HR.out.1.row s p hslt hplt
          rw [cutn_at] at hrow
          have hle := dn_le T g (s * 32 + p)
          have HW : Hid (IntKind.i64.wrap (((dn T g (s * 32 + p) : Nat) : Int) + 1) = ((dn T g (s * 32 + p) + 1 : Nat) : Int)) := by
            show _ = _
            rw [wrap_small _ (by omega) (by omega)]
            omega
          obtain ⟨o, ho⟩ : ∃ o, o = bd1 T (s * 32 + p) := ⟨_, rfl⟩
          obtain ⟨fv, hfv⟩ : ∃ fv, fv = ((T (s * 32 + p)).getD (0, false)).1 := ⟨_, rfl⟩
          obtain ⟨u, hu⟩ : ∃ u, u = ((T (s * 32 + p)).getD (0, false)).2 := ⟨_, rfl⟩
          change wa.rangeAt b (s * 96 + p * 3) [.bool (bd1 T (s * 32 + p)), .int .i64 ((T (s * 32 + p)).getD (0, false)).1, .bool ((T (s * 32 + p)).getD (0, false)).2] at hrow
          rw [← ho, ← hfv, ← hu] at hrow
          have hc0 := range_cells hrow 0 _ rfl
          have hc1 := range_cells hrow 1 _ rfl
          have hc2 := range_cells hrow 2 _ rfl
          rw [Nat.add_zero] at hc0
          have HO := hid ho
          have HF := hid hfv
          clear hrow hle ho hfv hu
          obtain ⟨q, hq⟩ : ∃ q, q = wa.heap.size := ⟨_, rfl⟩
          have HB := hid (new_range wa [.bool o, .int .i64 fv, .bool u] 27)
          rw [← hq] at HB
          have HR1 : Hid (Rl b (cutn T g (s * 32 + p)) w (wa.alloc (.cells #[.bool o, .int .i64 fv, .bool u] 27))) := ⟨HR.out.1.keep ((But.refl [] wa).alloc _) (by simp), HR.out.2.alloc _⟩
          go_upto_region 9 with fail
          rw [← hq]
          clear hq hc0 hc1 hc2 HR
          generalize wa.alloc (.cells #[.bool o, .int .i64 fv, .bool u] 27) = w2 at *
          obtain ⟨z, hz9⟩ : ∃ z : Bool, z = (decide ((s : Int) = sp) && (decide (pg < 0) || decide ((p : Int) = pg))) := ⟨_, rfl⟩
          have HZ := hid hz9
          clear hz9
          go_cut [13] from 30 to 41 (fun s13 wx => s13 = .bool z ∧ wx = w2)
          case first =>
            by_cases e1 : (s : Int) = sp
            · subst e1
              by_cases e2 : pg < 0
              · have d2 : decide (pg < 0) = true := decide_eq_true e2
                go_wp2_with fail
                go_meet
                exact ⟨by rw [HZ.out, d2]; simp, rfl⟩
              · have d2 : decide (pg < 0) = false := decide_eq_false e2
                by_cases e3 : (p : Int) = pg
                · subst e3
                  go_wp2_with fail
                  go_meet
                  exact ⟨by rw [HZ.out]; simp, rfl⟩
                · have b3 : ((p : Int) == pg) = false := by simpa using e3
                  go_wp2_with fail
                  go_meet
                  exact ⟨by rw [HZ.out, d2, decide_eq_false e3]; simp, rfl⟩
            · have b1 : ((s : Int) == sp) = false := by simpa using e1
              go_wp2_with fail
              go_meet
              exact ⟨by rw [HZ.out, decide_eq_false e1]; rfl, rfl⟩
          case rest =>
            obtain ⟨rfl, hwa⟩ := hcut
            rw [hwa]
            clear hwa
            go_upto_if 43 with fail
            go_cut [13] from 43 to 47 (fun s13 wx => s13 = .bool (g (s * 32 + p)) ∧ wx = w2)
            case first =>
              by_cases e0 : sp < 0
              · have HV : Hid (g (s * 32 + p) = (fv == fr)) := by
                  show _ = _
                  rw [HG.out]
                  unfold mn
                  rw [if_pos e0, HF.out]
                have hb1 := range_cells HB.out 1 _ rfl
                simp only [Nat.zero_add] at hb1
                go_wp2_with fail
                go_meet
                exact ⟨by rw [HV.out], rfl⟩
              · have HV : Hid (g (s * 32 + p) = z) := by
                  show _ = _
                  rw [HG.out, HZ.out]
                  unfold mn
                  rw [if_neg e0, show (s * 32 + p) / 32 = s by omega, show (s * 32 + p) % 32 = p by omega]
                have d0 : decide (sp < 0) = false := decide_eq_false e0
                go_wp2_with fail
                go_meet
                exact ⟨by rw [HV.out], rfl⟩
            case rest =>
              obtain ⟨rfl, hwa⟩ := hcut
              rw [hwa]
              clear hwa HZ HF
              obtain ⟨m, hm⟩ : ∃ m, m = g (s * 32 + p) := ⟨_, rfl⟩
              rw [← hm, ← HO.out] at HD
              rw [← hm]
              have HM := hid hm
              clear hm
              have hb0 := range_cells HB.out 0 _ rfl
              simp only [Nat.zero_add] at hb0
              generalize hN : dn T g (s * 32 + p) = N at HD HW ⊢
              clear hN
              cases o with
              | false =>
                have HR2 : Hid (Rl b (cutn T g (s * 32 + (p + 1))) w w2) := by
                  show Rl _ _ _ _
                  rw [← Nat.add_assoc, ← cutn_no T g (s * 32 + p) (.inr (by
                    have := HO.out
                    unfold bd1 at this
                    cases hb : T (s * 32 + p) with
                    | none => rfl
                    | some bb => rw [hb] at this; cases this))]
                  exact HR1.out
                have HN : Hid (dn T g (s * 32 + (p + 1)) = N) := by show _ = _; rw [← Nat.add_assoc, HD.out]; simp
                clear HR1 HD HO HW
                go_wp2
                go_roundg (33 - (p + 1))
                case measure => omega
                case rel => exact ⟨p + 1, by omega, by omega, by go_num, by rw [HN.out], HR2.out⟩
              | true =>
                cases m with
                | false =>
                  have HR2 : Hid (Rl b (cutn T g (s * 32 + (p + 1))) w w2) := by
                    show Rl _ _ _ _
                    rw [← Nat.add_assoc, ← cutn_no T g (s * 32 + p) (.inl HM.out.symm)]
                    exact HR1.out
                  have HN : Hid (dn T g (s * 32 + (p + 1)) = N) := by show _ = _; rw [← Nat.add_assoc, HD.out]; simp
                  clear HR1 HD HO HW
                  go_wp2
                  go_roundg (33 - (p + 1))
                  case measure => omega
                  case rel => exact ⟨p + 1, by omega, by omega, by go_num, by rw [HN.out], HR2.out⟩
                | true =>
                  have HT := hid (HR1.out.1.there s p hslt hplt)
                  have HR2 : Hid (Rl b (cutn T g (s * 32 + (p + 1))) w (w2.setCells b (s * 96 + p * 3) [.bool false, .int .i64 0, .bool false])) := by
                    show Rl _ _ _ _
                    rw [← Nat.add_assoc, ← cutn_yes T g (s * 32 + p) HM.out.symm]
                    exact ⟨HR1.out.1.set s p hslt hplt none, HR1.out.2.setCells (.inl (by simp)) _ _⟩
                  have HN : Hid (dn T g (s * 32 + (p + 1)) = N + 1) := by show _ = _; rw [← Nat.add_assoc, HD.out]; simp
                  have hw := HW.out
                  clear HR1 HD HO
                  go_wp2_with (first
                    | (refine wpList_store_mid rfl 27 _ _ rfl b (s * 96 + p * 3) #[.bool false, .int .i64 0, .bool false] rfl rfl ?ht infoRB ?h1 ?hk
                       case ht => exact HT.out
                       case h1 => exact all_oneCell_toArray (rb_one none)))
                  go_roundg (33 - (p + 1))
                  case measure => omega
                  case rel => exact ⟨p + 1, by omega, by omega, by go_num, by rw [HN.out]; rfl, HR2.out⟩
        · obtain rfl : p = 32 := by omega
          have HR1 : Hid (Rl b (cutn T g ((s + 1) * 32)) w wa) := by
            show Rl _ _ _ _
            rw [show (s + 1) * 32 = s * 32 + 32 by omega]
            exact HR.out
          have HN : Hid (dn T g ((s + 1) * 32) = dn T g (s * 32 + 32)) := by show _ = _; rw [show (s + 1) * 32 = s * 32 + 32 by omega]
          clear HR
          go_wp2
          go_roundg (65 - (s + 1))
          case measure => omega
          case rel => exact ⟨s + 1, by omega, by omega, by go_num, by rw [HN.out], HR1.out⟩
    · obtain rfl : s = 64 := by omega
      have HH : Hid (Rl b (cutn T g 2048) w wr) := H0.out
      clear H0
      go_wp2
      go_ret
      exact ⟨rfl, HH.out⟩
end Go.Proofs.Ytiklneamdfgahaa.Bd
