/-
  Any text of ASCII is read as the words that the document says, or not, from the line on that it says: the law's walk.
-/
import Derived.Test.YteacdjakdkdbnaaGreatDoorAsmAwake
import Derived.Test.YteacdjakdkdbnaaGreatDoorAsmRef6
import Derived.Test.YteacdjakdkdbnaaGreatDoorMem
import Derived.Deep.QuietTactic
import Derived.BigQuiet
import Derived.WalkSpells
import Derived.WalkSmall
namespace Go.Proofs.YteacdjakdkdbnaaGreatDoor
open Go.RowKit
set_option linter.unusedVariables false
set_option linter.unusedSimpArgs false
set_option maxRecDepth 20000

set_option maxHeartbeats 1000000 in
theorem same_c (A B : Option Addr) (n c d : Nat) (xs : List Int) (w : World) (hn : n = xs.length) (hm : n ≤ 100000) (hr : Rd .u32 w 0 w.heap.size A xs) (hs : Rd .u32 w 0 w.heap.size B xs) :
    Calls Tryz.prog 9 #[.slice A n c, .slice B n d] w fun e w' => e = .returned (.bool true) ∧ Below w.heap.size w w' := by
  have HN : Hid (n = xs.length) := hn
  have HR : Hid (Rd .u32 w 0 w.heap.size A xs) := hr
  have HS : Hid (Rd .u32 w 0 w.heap.size B xs) := hs
  clear hn hr hs
  go_enter Tryz.func9, Tryz.ntmps9
  go_wp2
  go_loopw [5] (fun i wr => ∃ m : Nat, m ≤ n ∧ i = .int .i64 m ∧ Below w.heap.size w wr) (fun i _ => n - (intOf i).toNat)
  case atStart => exact ⟨0, Nat.zero_le _, rfl, Below.refl _ _⟩
  case round =>
    obtain ⟨m, hmn, rfl, hbel⟩ := hrel
    by_cases hlt : m < n
    · have hlx : m < xs.length := by have := HN.out; omega
      obtain ⟨b, off, hA, _, hb, hcell⟩ := HR.out.at_ hlx
      obtain ⟨b2, off2, hB, _, hb2, hcell2⟩ := HS.out.at_ hlx
      obtain ⟨q, hq⟩ : ∃ q, q = xs.getD m 0 := ⟨_, rfl⟩
      have hc1 : wr.cell? ⟨b, off + m, none⟩ = some (.int .u32 q) := by rw [hq]; exact (hbel.cell (p := ⟨b, off + m, none⟩) hb).trans (hcell m hlx)
      have hc2 : wr.cell? ⟨b2, off2 + m, none⟩ = some (.int .u32 q) := by rw [hq]; exact (hbel.cell (p := ⟨b2, off2 + m, none⟩) hb2).trans (hcell2 m hlx)
      subst hA
      subst hB
      clear hcell hcell2 hq hlx
      go_wp2
      go_quiet (fail)
      go_wp2
      go_roundw
      case rel => exact ⟨m + 1, by omega, by go_num, below_drewN hbel _⟩
      case measure => simp [intOf] <;> omega
    · obtain rfl : m = n := by omega
      go_wp2
      go_ret
      exact ⟨rfl, hbel⟩

theorem rdFrom_512 (L : Labs) : ∀ (ls : List Bs) (ws : List Int) (k : Nat), ws.length ≤ 512 → (rdFrom L ws k ls).1.length ≤ 512
  | [], ws, k, h => h
  | l :: r, ws, k, h => by
    rw [rdFrom]
    unfold rdStep
    by_cases h0 : (lineOf l).2.length = 0
    · simp only [if_pos h0]; exact rdFrom_512 L r ws (k + 1) h
    · simp only [if_neg h0]
      cases wordOf L ws.length (lineOf l).2 with
      | none => simp
      | some x =>
        simp only []
        by_cases h5 : 512 ≤ ws.length
        · simp only [if_pos h5]; simp
        · simp only [if_neg h5]; exact rdFrom_512 L r _ (k + 1) (by simp; omega)
theorem rdOf_512 (s : Bs) : (rdOf s).1.length ≤ 512 := by
  unfold rdOf
  cases findFrom ([], 0) 0 (linesOf s) with
  | inr k => simp
  | inl L => exact rdFrom_512 L _ [] 0 (by simp)

set_option maxHeartbeats 1000000 in
theorem ascii_c (Q : ByteArray) (hQ : Q.size ≤ maxLen) (w : World) : Calls Tryz.prog 6 #[.string Q, .int .i64 600] w fun e w' => ∃ x : Bs, e = .returned (.string (BA x)) ∧ x.length ≤ 600 ∧ AsciiL x ∧ w' = w := by
  have hQ' : Q.size ≤ 9223372036854775807 := hQ
  clear hQ
  go_enter Tryz.func6, Tryz.ntmps6
  go_wp2
  go_loop [5, 6] (fun t i => ∃ (k : Nat) (x : Bs), k ≤ 600 ∧ k ≤ Q.size ∧ i = .int .i64 k ∧ t = .string (BA x) ∧ x.length ≤ k ∧ Hid (AsciiL x)) (fun _ i => 600 - (intOf i).toNat)
  case atStart => exact ⟨0, [], by omega, by omega, rfl, rfl, by simp, fun c hc => by cases hc⟩
  case round =>
    obtain ⟨k, x, hk, hkq, rfl, rfl, hxk, HA⟩ := hrel
    by_cases hlt : k < Q.size
    · by_cases h6 : k < 600
      · obtain ⟨c, hc⟩ : ∃ c : UInt8, ∀ h, Q[k]'h = c := ⟨Q[k]'hlt, fun _ => rfl⟩
        by_cases hc8 : (c.toNat : Int) < 128
        · have hx : Q.extract k (k + 1) = BA [c] := by
            have : Q = BA Q.data.toList := (BA_of Q).symm
            have hl : k < Q.data.toList.length := by rw [← Lib.size_eq]; exact hlt
            rw [this, BA_extract, show k + 1 - k = 1 by omega, List.drop_eq_getElem_cons hl]
            simp only [List.take_succ_cons, List.take_zero]
            rw [← hc hlt]; rfl
          have happ := append_BA x [c]
          have hsx : (BA x).size ≤ 600 := by rw [BA_size]; omega
          have hs1 : (BA [c]).size = 1 := rfl
          have HA2 : Hid (AsciiL (x ++ [c])) := fun d hd => by
            rcases List.mem_append.1 hd with h | h
            · exact HA.out d h
            · simp at h; subst h; omega
          go_wp2
          go_round
          case rel => exact ⟨k + 1, x ++ [c], by omega, by omega, by go_num, rfl, by simp; omega, HA2⟩
          case measure => simp [intOf] <;> omega
        · go_wp2
          go_round
          case rel => exact ⟨k + 1, x, by omega, by omega, by go_num, rfl, by omega, HA⟩
          case measure => simp [intOf] <;> omega
      · obtain rfl : k = 600 := by omega
        go_wp2
        go_ret
        exact ⟨x, rfl, hxk, HA.out, rfl⟩
    · obtain rfl : k = Q.size := by omega
      go_wp2
      go_ret
      exact ⟨x, rfl, by omega, HA.out, rfl⟩

set_option maxHeartbeats 1000000 in
theorem reads_c (Q : ByteArray) (hQ : Q.size ≤ maxLen) (w : World) (hN : NamesOk w) (hE : ErrsOk w) : Calls Tryz.prog 3 #[.string Q] w fun e w' => e = .returned (.bool true) ∧ Below w.heap.size w w' := by
  have h6 : 6 < w.heap.size := by obtain ⟨-, e, h, -⟩ := hE; exact lt_of_cell h
  have HN : Hid _ := hN
  have HE : Hid _ := hE
  have HQ : Hid _ := hQ
  clear hN hE hQ
  go_enter Tryz.func3, Tryz.ntmps3
  go_wp2_with fail
  refine (ascii_c Q HQ.out _).mono ?_
  rintro e w1 ⟨x, rfl, hxl, hxa, rfl⟩
  have h512 := rdOf_512 x
  have hr0 := read_c x hxa (by omega) w1 HN.out HE.out
  have hr1 := fun W => rread_c x (by omega) W
  obtain ⟨⟨xs, at1, er⟩, hR⟩ : ∃ R, R = rdOf x := ⟨_, rfl⟩
  rw [← hR] at h512 hr1
  have hr : Calls Tryz.prog 7 #[.string (BA x)] w1 fun e w' => ∃ A c, e = .returned (.tuple #[.slice A xs.length c, .int .i64 (at1 : Nat), .int .i64 er]) ∧ Rd .u32 w' 0 w'.heap.size A xs ∧ Below w1.heap.size w1 w' :=
    hr0.mono fun e w' ⟨hb, v, he, ho⟩ => by
      rw [← hR] at he ho
      obtain ⟨A, c, rfl, -, -, -, hrd⟩ := Rd.of_own ho
      exact ⟨A, c, he, hrd.wider (Nat.zero_le _) (Nat.le_refl _), hb⟩
  have hr2 : ∀ W, Calls Tryz.prog 8 #[.string (BA x)] W fun e w' => ∃ A c, e = .returned (.tuple #[.slice A xs.length c, .int .i64 (at1 : Nat), .int .i64 er]) ∧ Rd .u32 w' 0 w'.heap.size A xs ∧ Below W.heap.size W w' := fun W =>
    (hr1 W).mono fun e w' ⟨v, he, ho, hb⟩ => by
      obtain ⟨A, c, rfl, -, -, -, hrd⟩ := Rd.of_own ho
      exact ⟨A, c, he, hrd.wider (Nat.zero_le _) (Nat.le_refl _), hb⟩
  have HR2 : Hid _ := hr2
  clear hr0 hr1 hR hr2 hxa
  go_wp2_with fail
  refine hr.mono ?_
  clear hr
  rintro e w2 ⟨A1, c1, rfl, rd1, hb2⟩
  have HRD1 : Hid _ := rd1
  clear rd1
  go_wp2_with fail
  refine (HR2.out _).mono ?_
  rintro e w3 ⟨A2, c2, rfl, rd2, hb3⟩
  have HRD2 : Hid _ := rd2
  clear rd2
  go_wp2_with fail
  refine (same_c A1 A2 xs.length c1 c2 xs w3 rfl (Nat.le_trans h512 (by decide)) (Rd.wider (Rd.keep HRD1.out hb3) (Nat.le_refl _) hb3.size) HRD2.out).mono ?_
  rintro e w4 ⟨rfl, hb4⟩
  have hb34 : Below w2.heap.size w2 w4 := hb3.trans (hb4.mono hb3.size)
  have hb24 : Below w1.heap.size w1 w4 := hb2.trans (hb34.mono hb2.size)
  go_wp2_with fail
  refine (awake_c w4 (NamesOk.below HN.out hb24 (by omega)) (ErrsOk.below HE.out hb24 h6)).mono ?_
  rintro e w5 ⟨rfl, hb5⟩
  go_wp2
  go_ret
  exact ⟨rfl, hb24.trans (hb5.mono hb24.size)⟩
end Go.Proofs.YteacdjakdkdbnaaGreatDoor
