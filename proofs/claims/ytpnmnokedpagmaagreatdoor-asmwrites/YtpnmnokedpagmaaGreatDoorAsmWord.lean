/-
  Package asm's reader: a word's parts.
-/
import Derived.Test.YtpnmnokedpagmaaGreatDoorAsmIns
import Derived.Lib.ParseIntBCases
namespace Go.Proofs.YtpnmnokedpagmaaGreatDoor
open Go.RowKit
set_option linter.unusedVariables false
set_option linter.unusedSimpArgs false
set_option maxRecDepth 20000

def wordB : Bs := [119, 111, 114, 100]
theorem parseU32 {q : Bs} {u : Nat} (h : Lib.parseUintB 32 q = .ok u) : u ≤ 4294967295 := Lib.parseUintB_le h
theorem wordOf_word (L : Labs) (here : Nat) (ps : List Bs) : wordOf L here (wordB :: ps) = (match ps with
       | [q] => if isNum q then (match Lib.parseUintB 32 q with | .ok u => some (u : Int) | _ => none) else none
       | _ => none) := by
  have h : wordOf L here (wordB :: ps) = if wordB = [119, 111, 114, 100] then (match ps with
       | [q] => if isNum q then (match Lib.parseUintB 32 q with | .ok u => some (u : Int) | _ => none) else none
       | _ => none) else insOf L here wordB ps := rfl
  rw [h]
  exact if_pos (show wordB = [119, 111, 114, 100] from rfl)

set_option maxHeartbeats 2000000 in
theorem word_c (b M n here : Nat) (a0 : Option Addr) (c0 : Nat) (L : Labs) (D : DataW Unit) (p : Bs) (ps : List Bs) (bk o c : Nat) (w : World) (R : RdrAt w b M n here a0 c0 L D)
    (hc : ps.length + 1 ≤ c) (hcs : ∀ j x, (p :: ps)[j]? = some x → w.cell? ⟨bk, o + j, none⟩ = some (.string (BA x))) (hln : ∀ x ∈ ps, x.length ≤ 4294967296) (hbk : bk ≠ b) (hn : ps.length ≤ 4294967296) :
    Calls Tryz.prog 29 #[.pointer (some ⟨b, 0, none⟩), .slice (some ⟨bk, o, none⟩) (ps.length + 1) c] w (GotW (wordOf L here (p :: ps)) b w) := by
  have hp0 : w.cell? ⟨bk, o, none⟩ = some (.string (BA p)) := hcs 0 p rfl
  have hbh := R.tab.home
  by_cases hp : p = wordB
  · subst hp
    have hst : ((BA wordB).toList == [119, 111, 114, 100]) = true := by rw [str_lit]; rfl
    have K0 := Keep.refl 0 103 hbh
    have T0 := R.tab
    by_cases hlen : ps.length = 1
    · obtain ⟨q, rfl⟩ : ∃ q, ps = [q] := List.length_eq_one_iff.1 hlen
      have hq1 : w.cell? ⟨bk, o + 1, none⟩ = some (.string (BA q)) := hcs 1 q rfl
      have hql := hln q (by simp)
      clear hlen hcs hln hn
      cases hnum : isNum q with
      | false =>
        have HW : Hid (wordOf L here [wordB, q] = none) := by show wordOf L here [wordB, q] = none; rw [wordOf_word]; simp [hnum]
        go_enter Tryz.func29, Tryz.ntmps29
        go_wp2_with (first
          | (go_at_call 45; refine (isNum_c q hql _).mono ?_; rw [hnum]; rintro e w1 ⟨rfl, rfl⟩)
          | go_in)
        go_ret2
        exact ⟨_, false, rfl, HW.out, T0, K0⟩
      | true =>
        by_cases ho : ∃ u, Lib.parseUintB 32 q = .ok u
        · obtain ⟨u, hpu⟩ := ho
          have hu := parseU32 hpu
          have HW : Hid (wordOf L here [wordB, q] = some (u : Int)) := by show wordOf L here [wordB, q] = some (u : Int); rw [wordOf_word]; simp [hnum, hpu]
          have hpc := Tryz.strconv_ParseUint_10_at32_ok (BA q) (by rw [BA_size]; omega) u hpu
          have hwr : IntKind.u32.wrap (u : Int) = u := by rw [show IntKind.u32.wrap (u : Int) = (u : Int) % 4294967296 from rfl]; omega
          clear R
          go_enter Tryz.func29, Tryz.ntmps29
          go_wp2_with (first
            | (go_at_call 45; refine (isNum_c q hql _).mono ?_; rw [hnum]; rintro e w1 ⟨rfl, rfl⟩)
            | (go_at_call 46; refine (hpc _).mono ?_; rintro e w2 ⟨rfl, hw2⟩)
            | go_in)
          have hb : Below w1.heap.size w1 w2 := by
            rcases hw2 with rfl | rfl
            · exact Below.refl _ _
            · exact Lib.bytesWorld_below _ _ _
          clear hw2
          go_region
          all_goals go_wp2
          all_goals go_ret2
          all_goals exact ⟨_, true, rfl, HW.out, (T0.below hb).drew, (K0.below hb).drew⟩
        · by_cases hpu : Lib.parseUintB 32 q = .range
          · have HW : Hid (wordOf L here [wordB, q] = none) := by show wordOf L here [wordB, q] = none; rw [wordOf_word]; simp [hnum, hpu]
            obtain ⟨-, ev, h1, h2⟩ := R.errs
            have hpc := Tryz.strconv_ParseUint_10_at32_range (BA q) (by rw [BA_size]; omega) hpu ev w h1 h2
            clear R
            go_enter Tryz.func29, Tryz.ntmps29
            go_wp2_with (first
              | (go_at_call 45; refine (isNum_c q hql _).mono ?_; rw [hnum]; rintro e w1 ⟨rfl, rfl⟩)
              | (go_at_call 46; refine hpc.mono ?_; rintro e w2 ⟨N1, rfl, _, _, hb⟩)
              | go_in)
            go_region
            all_goals go_wp2
            all_goals go_ret2
            all_goals exact ⟨_, false, rfl, HW.out, (T0.below hb).drew, (K0.below hb).drew⟩
          · have HW : Hid (wordOf L here [wordB, q] = none) := by show wordOf L here [wordB, q] = none; rw [wordOf_word]; simp only [hnum, if_true]; split; exact absurd ⟨_, by assumption⟩ ho; rfl
            obtain ⟨⟨ev, h1, h2⟩, -⟩ := R.errs
            have hpc := Tryz.strconv_ParseUint_10_at32_bad (BA q) (by rw [BA_size]; omega) (fun v e => ho ⟨v, e⟩) hpu ev w h1 h2
            clear R
            go_enter Tryz.func29, Tryz.ntmps29
            go_wp2_with (first
              | (go_at_call 45; refine (isNum_c q hql _).mono ?_; rw [hnum]; rintro e w1 ⟨rfl, rfl⟩)
              | (go_at_call 46; refine hpc.mono ?_; rintro e w2 ⟨N1, rfl, _, _, hb⟩)
              | go_in)
            go_region
            all_goals go_wp2
            all_goals go_ret2
            all_goals exact ⟨_, false, rfl, HW.out, (T0.below hb).drew, (K0.below hb).drew⟩
    · have HW : Hid (wordOf L here (wordB :: ps) = none) := by
        show wordOf L here (wordB :: ps) = none
        rw [wordOf_word]
        rcases ps with _ | ⟨q, _ | ⟨r, t⟩⟩
        · rfl
        · exact absurd rfl hlen
        · rfl
      have hl' : ((ps.length : Int) + 1 != 2) = true := by simp; omega
      go_enter Tryz.func29, Tryz.ntmps29
      go_wp2
      go_ret2
      exact ⟨_, false, rfl, HW.out, T0, K0⟩
  · have hst : ((BA p).toList == [119, 111, 114, 100]) = false := by rw [str_lit]; exact beq_eq_false_iff_ne.2 hp
    have HW : Hid (wordOf L here (p :: ps) = insOf L here p ps) := if_neg hp
    have hi := ins_c b M n here a0 c0 L D p ps bk o c w R hc hcs hln hbk hn
    clear hcs hln R
    go_enter Tryz.func29, Tryz.ntmps29
    go_wp2_with (first
      | (go_at_call 44; refine hi.mono ?_; rintro e w1 ⟨v, ok, rfl, hr, t1, k1⟩; have HR : Hid _ := hr; clear hr)
      | go_in)
    go_ret2
    exact ⟨_, _, rfl, HW.out.trans HR.out, t1, k1⟩
end Go.Proofs.YtpnmnokedpagmaaGreatDoor
