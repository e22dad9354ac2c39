/-
  The document's own words for layer 3, the small ones: blanks, numbers however great, Ops, registers, labels.
-/
import Derived.Test.YteacdjakdkdbnaaGreatDoorAsmNum
import Derived.Test.YteacdjakdkdbnaaGreatDoorAsmImm
namespace Go.Proofs.YteacdjakdkdbnaaGreatDoor
open Go.RowKit
set_option linter.unusedVariables false
set_option linter.unusedSimpArgs false
set_option maxRecDepth 20000

theorem number_c (q : Bs) (hq : q.length ≤ 4294967296) (w : World) : Calls Tryz.prog 32 #[.string (BA q)] w fun e w' => e = .returned (.tuple #[.int .i64 ((numOf q).getD 0), .bool (numOf q).isSome]) ∧ w' = w := by
  by_cases h : q.head? = some 45
  · cases q with
    | nil => simp at h
    | cons c d =>
      simp at h; subst h
      exact number_neg d (by simp at hq; omega) w
  · exact number_pos q h hq w

theorem rblank_c (x : UInt8) (w : World) : Calls Tryz.prog 31 #[.int .u8 x.toNat] w fun e w' => e = .returned (.bool (blankB x)) ∧ w' = w := by
  rw [← blank_eq]
  obtain ⟨n, hn⟩ : ∃ n, n = x.toNat := ⟨_, rfl⟩
  have hx : n < 256 := by rw [hn]; exact UInt8.toNat_lt x
  rw [← hn]
  clear hn
  by_cases h1 : n = 32
  · subst h1; go_enter Tryz.func31, Tryz.ntmps31; go_wp2; go_ret; exact ⟨rfl, rfl⟩
  by_cases h2 : n = 10
  · subst h2; go_enter Tryz.func31, Tryz.ntmps31; go_wp2; go_ret; exact ⟨rfl, rfl⟩
  have e1 : ((n : Int) == 32) = false := beq_eq_false_iff_ne.2 (by omega)
  have e2 : ((n : Int) == 10) = false := beq_eq_false_iff_ne.2 (by omega)
  have e3 : ((n : Int) != 10) = true := by simp; omega
  by_cases h3 : (9 : Int) ≤ n
  · by_cases h4 : (n : Int) ≤ 13
    · have hb : blankN n = true := by
        have : n = 9 ∨ n = 11 ∨ n = 12 ∨ n = 13 := by omega
        rcases this with rfl | rfl | rfl | rfl <;> rfl
      rw [hb]
      go_enter Tryz.func31, Tryz.ntmps31; go_wp2; go_ret; exact ⟨rfl, rfl⟩
    · have hb : blankN n = false := by unfold blankN; simp; omega
      rw [hb]
      go_enter Tryz.func31, Tryz.ntmps31; go_wp2; go_ret; exact ⟨rfl, rfl⟩
  · have hb : blankN n = false := by unfold blankN; simp; omega
    rw [hb]
    go_enter Tryz.func31, Tryz.ntmps31; go_wp2; go_ret; exact ⟨rfl, rfl⟩

set_option maxHeartbeats 2000000 in
theorem plain_c (q : Bs) (hq : q.length ≤ 4294967296) (w : World) : Calls Tryz.prog 35 #[.string (BA q)] w fun e w' => e = .returned (.bool (plainB q)) ∧ w' = w := by
  obtain ⟨d, hd⟩ : ∃ d, d = stripM q := ⟨_, rfl⟩
  have HP : Hid (plainB q = (!d.isEmpty && !(d.head? == some 48) && d.all digB)) := by show plainB q = _; rw [hd]; rfl
  have hdl : d.length ≤ q.length := by rw [hd]; exact Lib.trimPrefix_le _ _
  have hfirst : (q = [] ∧ d = []) ∨ (0 < (BA q).size ∧ (∀ h, (BA q)[0]'h = 45) ∧ (BA q).extract 1 (BA q).size = BA d) ∨ (0 < (BA q).size ∧ (∃ c : UInt8, ((c.toNat : Int) == 45) = false ∧ ∀ h, (BA q)[0]'h = c) ∧ d = q) := by
    cases q with
    | nil => exact .inl ⟨rfl, by rw [hd]; rfl⟩
    | cons c t =>
      rw [strip_cons] at hd
      by_cases hc : c = 45
      · subst hc; rw [if_pos rfl] at hd; subst hd
        exact .inr (.inl ⟨by rw [BA_size]; simp, fun _ => rfl, BA_drop1 45 _⟩)
      · rw [if_neg hc] at hd
        exact .inr (.inr ⟨by rw [BA_size]; simp, ⟨c, beq_eq_false_iff_ne.2 (fun e => hc (UInt8.toNat_inj.1 (by rw [show (45 : UInt8).toNat = 45 from rfl]; omega))), fun _ => rfl⟩, hd⟩)
  clear hd
  have hqm : (BA q).size ≤ 4294967296 := by rw [BA_size]; exact hq
  have hdm : (BA d).size ≤ 4294967296 := by rw [BA_size]; omega
  rcases hfirst with ⟨rfl, rfl⟩ | hfirst
  · have h0 : ¬ 0 < (BA []).size := by rw [BA_size]; simp
    have h0' : (((BA []).size : Int) == 0) = true := rfl
    go_enter Tryz.func35, Tryz.ntmps35
    go_wp2
    go_ret
    exact ⟨by rw [HP.out]; rfl, rfl⟩
  by_cases hd0 : d = []
  · subst hd0
    rcases hfirst with ⟨h1, h2, h3⟩ | ⟨h1, h2, h4⟩
    · have h1' : (1 : Int) ≤ ((BA q).size : Int) := by omega
      have h0' : (((BA []).size : Int) == 0) = true := rfl
      go_enter Tryz.func35, Tryz.ntmps35
      go_wp2
      go_ret
      exact ⟨by rw [HP.out]; rfl, rfl⟩
    · subst h4; simp [BA_size] at h1
  obtain ⟨c0, hc0, hh0⟩ : ∃ c0 : UInt8, (∀ h, (BA d)[0]'h = c0) ∧ d.head? = some c0 := by
    cases d with
    | nil => simp at hd0
    | cons a r => exact ⟨a, fun _ => rfl, rfl⟩
  have HE : Hid (d.isEmpty = false) := by show d.isEmpty = false; cases d with | nil => exact absurd rfl hd0 | cons a r => rfl
  have hds : 0 < (BA d).size := by rw [BA_size]; exact List.length_pos_iff.2 hd0
  have hd0' : (((BA d).size : Int) == 0) = false := beq_eq_false_iff_ne.2 (by omega)
  have HH0 : Hid _ := hh0
  have HSD : Hid ((BA d).size = d.length) := BA_size d
  have HD0 : Hid _ := hd0
  clear hh0 hd0
  by_cases hz : c0 = 48
  · subst hz
    have HR : Hid (plainB q = false) := by show plainB q = false; rw [HP.out, HH0.out]; simp
    rcases hfirst with ⟨h1, h2, h3⟩ | ⟨h1, ⟨c, h2, h3⟩, rfl⟩
    · have h1' : (1 : Int) ≤ ((BA q).size : Int) := by omega
      go_enter Tryz.func35, Tryz.ntmps35
      go_wp2
      go_ret
      exact ⟨by rw [HR.out]; rfl, rfl⟩
    · clear h3 h2
      go_enter Tryz.func35, Tryz.ntmps35
      go_wp2
      go_ret
      exact ⟨by rw [HR.out]; rfl, rfl⟩
  have hz' : ((c0.toNat : Int) == 48) = false := beq_eq_false_iff_ne.2 (fun e => hz (UInt8.toNat_inj.1 (by rw [show (48 : UInt8).toNat = 48 from rfl]; omega)))
  have HP2 : Hid (plainB q = d.all digB) := by
    show plainB q = _
    rw [HP.out, HH0.out, HE.out, show ((some c0 : Option UInt8) == some 48) = false from beq_eq_false_iff_ne.2 (fun e => hz (by injection e))]
    simp
  clear hz
  rcases hfirst with ⟨h1, h2, h3⟩ | ⟨h1, ⟨c, h2, h3⟩, rfl⟩
  case' inl => have h1' : (1 : Int) ≤ ((BA q).size : Int) := by omega
  case' inr =>
    obtain rfl : c = c0 := by rw [← h3 hds, ← hc0 hds]
    clear h3
  all_goals go_enter Tryz.func35, Tryz.ntmps35
  all_goals go_wp2
  all_goals
    go_loop [3] (fun i => ∃ k : Nat, k ≤ (BA d).size ∧ i = .int .i64 k ∧ Hid (∀ j (h : j < d.length), j < k → digB d[j] = true)) (fun i => (BA d).size - (intOf i).toNat)
    case atStart => exact ⟨0, by omega, rfl, fun j _ hj => absurd hj (by omega)⟩
    case round =>
      obtain ⟨k, hk, rfl, HM⟩ := hrel
      by_cases hlt : k < (BA d).size
      · have hld : k < d.length := by have := HSD.out; omega
        obtain ⟨x, hx, hxd⟩ : ∃ x : UInt8, (∀ h, (BA d)[k]'h = x) ∧ ∀ h, d[k]'h = x := ⟨(BA d)[k]'hlt, fun _ => rfl, fun _ => rfl⟩
        have HX : Hid _ := hxd
        clear hxd
        by_cases h1 : (x.toNat : Int) < 48
        · have HF : Hid (d.all digB = false) := by
            show d.all digB = false
            rw [List.all_eq_false]
            exact ⟨d[k]'hld, List.getElem_mem _, by rw [HX.out]; simp [digB]; omega⟩
          go_wp2
          go_ret
          exact ⟨by rw [HP2.out, HF.out]; rfl, rfl⟩
        by_cases h2 : (57 : Int) < x.toNat
        · have HF : Hid (d.all digB = false) := by
            show d.all digB = false
            rw [List.all_eq_false]
            exact ⟨d[k]'hld, List.getElem_mem _, by rw [HX.out]; simp [digB]; omega⟩
          go_wp2
          go_ret
          exact ⟨by rw [HP2.out, HF.out]; rfl, rfl⟩
        have h1' : (48 : Int) ≤ x.toNat := by omega
        have h2' : (x.toNat : Int) ≤ 57 := by omega
        go_wp2
        go_round
        case rel => exact ⟨k + 1, by omega, by go_num, fun j h hj => by rcases Nat.lt_succ_iff_lt_or_eq.1 hj with h' | h'; exact HM.out j h h'; subst h'; rw [HX.out]; simp [digB]; omega⟩
        case measure => simp [intOf] <;> omega
      · obtain rfl : k = (BA d).size := by omega
        have HF : Hid (d.all digB = true) := by
          show d.all digB = true
          rw [List.all_eq_true]
          intro x hx
          obtain ⟨j, hj, rfl⟩ := List.getElem_of_mem hx
          exact HM.out j hj (by rw [HSD.out]; exact hj)
        go_wp2
        go_ret
        exact ⟨by rw [HP2.out, HF.out]; rfl, rfl⟩

/-- A register's number, as the document reads it: -1 is none. -/
def regR (s : Bs) : Int :=
  if s.length < 2 ∨ s.head? ≠ some 114 then -1
  else match numOf s.tail with
    | none => -1
    | some n => if 0 ≤ n ∧ n ≤ 15 then n else -1
set_option maxHeartbeats 2000000 in
theorem rreg_c (q : Bs) (hq : q.length ≤ 4294967296) (w : World) : Calls Tryz.prog 34 #[.string (BA q)] w fun e w' => e = .returned (.int .i64 (regR q)) ∧ w' = w := by
  by_cases h2 : q.length < 2
  · have h2' : ((BA q).size : Int) < 2 := by rw [BA_size]; omega
    have HR : Hid (regR q = -1) := by show regR q = -1; unfold regR; rw [if_pos (.inl h2)]
    go_enter Tryz.func34, Tryz.ntmps34
    go_wp2
    go_ret
    exact ⟨by rw [HR.out]; rfl, rfl⟩
  obtain ⟨c, t, rfl⟩ : ∃ c t, q = c :: t := by cases q with | nil => simp at h2 | cons c t => exact ⟨c, t, rfl⟩
  obtain ⟨Q, hQ, hs0, h2', h0, hx, hm, hle1⟩ : ∃ Q, BA (c :: t) = Q ∧ 0 < Q.size ∧ ¬ (Q.size : Int) < 2 ∧ (∀ h, Q[0]'h = c) ∧ Q.extract 1 Q.size = BA t ∧ Q.size ≤ 4294967296 ∧ (1 : Int) ≤ (Q.size : Int) :=
    ⟨_, rfl, by rw [BA_size]; simp, by rw [BA_size]; omega, fun _ => rfl, BA_drop1 c t, by rw [BA_size]; exact hq, by rw [BA_size]; simp; omega⟩
  rw [hQ]
  by_cases hc : c = 114
  · subst hc
    have hn := number_c t (by simp at hq; omega)
    have HR : Hid (regR (114 :: t) = match numOf t with | none => -1 | some n => if 0 ≤ n ∧ n ≤ 15 then n else -1) := by
      show regR _ = _
      unfold regR; rw [if_neg (by intro h; rcases h with h | h; exact h2 h; simp at h)]; rfl
    clear hQ
    cases hno : numOf t with
    | none =>
      rw [hno] at hn
      simp only [Option.getD_none, Option.isSome_none] at hn
      replace HR : Hid (regR (114 :: t) = -1) := by show regR _ = _; rw [HR.out, hno]
      go_enter Tryz.func34, Tryz.ntmps34
      go_wp2_with (go_at_call 32; refine (hn _).mono ?_; rintro e w' ⟨rfl, rfl⟩)
      go_ret
      exact ⟨by rw [HR.out]; rfl, rfl⟩
    | some n =>
      rw [hno] at hn
      simp only [Option.getD_some, Option.isSome_some] at hn
      by_cases hlo : n < 0
      · replace HR : Hid (regR (114 :: t) = -1) := by show regR _ = _; rw [HR.out, hno]; exact if_neg (by omega)
        go_enter Tryz.func34, Tryz.ntmps34
        go_wp2_with (go_at_call 32; refine (hn _).mono ?_; rintro e w' ⟨rfl, rfl⟩)
        go_ret
        exact ⟨by rw [HR.out]; rfl, rfl⟩
      by_cases hhi : 15 < n
      · replace HR : Hid (regR (114 :: t) = -1) := by show regR _ = _; rw [HR.out, hno]; exact if_neg (by omega)
        go_enter Tryz.func34, Tryz.ntmps34
        go_wp2_with (go_at_call 32; refine (hn _).mono ?_; rintro e w' ⟨rfl, rfl⟩)
        go_ret
        exact ⟨by rw [HR.out]; rfl, rfl⟩
      replace HR : Hid (regR (114 :: t) = n) := by show regR _ = _; rw [HR.out, hno]; exact if_pos (by omega)
      go_enter Tryz.func34, Tryz.ntmps34
      go_wp2_with (go_at_call 32; refine (hn _).mono ?_; rintro e w' ⟨rfl, rfl⟩)
      go_ret
      exact ⟨by rw [HR.out]; rfl, rfl⟩
  · have hc' : ¬ (c.toNat : Int) = 114 := fun h => hc (UInt8.toNat_inj.1 (by rw [show (114 : UInt8).toNat = 114 from rfl]; omega))
    have HR : Hid (regR (c :: t) = -1) := by show regR _ = -1; unfold regR; rw [if_pos (.inr (by simp [hc]))]
    clear hQ
    go_enter Tryz.func34, Tryz.ntmps34
    go_wp2
    go_ret
    exact ⟨by rw [HR.out]; rfl, rfl⟩
end Go.Proofs.YteacdjakdkdbnaaGreatDoor
