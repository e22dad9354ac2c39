/-
  Any words are written as the document says, and read again as they were: the law's walk.
-/
import Derived.Test.YtpnmnokedpagmaaGreatDoorAsmAwake
import Derived.Test.YtpnmnokedpagmaaGreatDoorAsmRW
import Derived.Test.YtpnmnokedpagmaaGreatDoorMem
import Derived.Test.YtpnmnokedpagmaaGreatDoorFlat
import Derived.Deep.QuietTactic
import Derived.BigQuiet
import Derived.WalkSpells
import Derived.WalkSmall
namespace Go.Proofs.YtpnmnokedpagmaaGreatDoor
open Go.RowKit
set_option linter.unusedVariables false
set_option linter.unusedSimpArgs false
set_option maxRecDepth 20000

set_option maxHeartbeats 1000000 in
theorem same_c (A B : Option Addr) (n c d : Nat) (xs : List Int) (w : World) (hn : n = xs.length) (hm : n ≤ 100000) (hr : Rd .u32 w 0 w.heap.size A xs) (hs : Rd .u32 w 0 w.heap.size B xs) :
    Calls Tryz.prog 7 #[.slice A n c, .slice B n d] w fun e w' => e = .returned (.bool true) ∧ Below w.heap.size w w' := by
  have HN : Hid (n = xs.length) := hn
  have HR : Hid (Rd .u32 w 0 w.heap.size A xs) := hr
  have HS : Hid (Rd .u32 w 0 w.heap.size B xs) := hs
  clear hn hr hs
  go_enter Tryz.func7, Tryz.ntmps7
  go_wp2
  go_loopw [5] (fun i wr => ∃ m : Nat, m ≤ n ∧ i = .int .i64 m ∧ Below w.heap.size w wr) (fun i _ => n - (intOf i).toNat)
  case atStart => exact ⟨0, Nat.zero_le _, rfl, Below.refl _ _⟩
  case round =>
    obtain ⟨m, hmn, rfl, hbel⟩ := hrel
    by_cases hlt : m < n
    · have hlx : m < xs.length := by have := HN.out; omega
      obtain ⟨b, off, hA, _, hb, hcell⟩ := HR.out.at_ hlx
      obtain ⟨b2, off2, hB, _, hb2, hcell2⟩ := HS.out.at_ hlx
      obtain ⟨q, hq⟩ : ∃ q, q = xs.getD m 0 := ⟨_, rfl⟩
      have hc1 : wr.cell? ⟨b, off + m, none⟩ = some (.int .u32 q) := by rw [hq]; exact (hbel.cell (p := ⟨b, off + m, none⟩) hb).trans (hcell m hlx)
      have hc2 : wr.cell? ⟨b2, off2 + m, none⟩ = some (.int .u32 q) := by rw [hq]; exact (hbel.cell (p := ⟨b2, off2 + m, none⟩) hb2).trans (hcell2 m hlx)
      subst hA
      subst hB
      clear hcell hcell2 hq hlx
      go_wp2
      go_quiet (fail)
      go_wp2
      go_roundw
      case rel => exact ⟨m + 1, by omega, by go_num, below_drewN hbel _⟩
      case measure => simp [intOf] <;> omega
    · obtain rfl : m = n := by omega
      go_wp2
      go_ret
      exact ⟨rfl, hbel⟩

/-! ### what is spelt is ASCII -/
theorem asc_dd (n : Nat) : AsciiL (Lib.decDigits n) := fun c hc => by
  have := dd_digits n c hc
  unfold digB at this
  simp at this
  omega
theorem asc_reg (n : Nat) : AsciiL (regName n) := fun c hc => by
  rcases List.mem_cons.1 hc with rfl | hc
  · decide
  · exact asc_dd n c hc
theorem asc_itoa (i : Int) : AsciiL (Lib.itoa i) := by
  unfold Lib.itoa
  split
  · intro c hc
    rcases List.mem_cons.1 hc with rfl | hc
    · decide
    · exact asc_dd _ c hc
  · exact asc_dd _
theorem asc_op : ∀ k, k < 25 → ∀ c ∈ opNames.getD k [], c.toNat < 128 := by
  have h : ∀ k, k < 25 → (opNames.getD k []).all (fun c => decide (c.toNat < 128)) = true := by decide
  intro k hk c hc
  have := List.all_eq_true.1 (h k hk) c hc
  simpa using this
theorem asc_spell (x : Int) : ∀ p ∈ spell x, AsciiL p := by
  intro p hp
  unfold spell at hp
  split at hp
  · rename_i hd
    obtain ⟨⟨h1, h2⟩, -⟩ := dec_bd hd
    rcases List.mem_cons.1 hp with rfl | hp
    · exact asc_op _ (by omega)
    · rcases List.mem_append.1 hp with hp | hp
      · unfold optR at hp
        split at hp
        · simp only [List.mem_singleton] at hp; subst hp; exact asc_reg _
        · cases hp
      · rcases List.mem_append.1 hp with hp | hp
        · unfold optR at hp
          split at hp
          · simp only [List.mem_singleton] at hp; subst hp; exact asc_reg _
          · cases hp
        · unfold optI at hp
          split at hp
          · simp only [List.mem_singleton] at hp; subst hp; exact asc_itoa _
          · cases hp
  · rcases List.mem_cons.1 hp with rfl | hp
    · intro c hc
      simp only [List.mem_cons, List.not_mem_nil, or_false] at hc
      rcases hc with rfl | rfl | rfl | rfl <;> decide
    · simp only [List.mem_singleton] at hp; subst hp; exact asc_dd _
theorem asc_join : ∀ (ps : List Bs), (∀ p ∈ ps, AsciiL p) → AsciiL (joinB ps)
  | [], _, c, hc => by cases hc
  | [p], h, c, hc => h p (by simp) c hc
  | p :: q :: r, h, c, hc => by
    rw [joinB] at hc
    rcases List.mem_append.1 hc with hc | hc
    · exact h p (by simp) c hc
    · rcases List.mem_cons.1 hc with rfl | hc
      · decide
      · exact asc_join (q :: r) (fun x hx => h x (by simp [hx])) c hc
theorem asc_wr (l : List Int) : AsciiL (wrOf l) := fun c hc => by
  unfold wrOf at hc
  obtain ⟨x, _, hx⟩ := List.mem_flatMap.1 hc
  rcases List.mem_append.1 hx with h | h
  · exact asc_join _ (asc_spell x) c h
  · simp only [List.mem_singleton] at h
    subst h
    decide
theorem eq_str (s : ByteArray) : (s.toList == s.toList) = true := by simp

/-- A slice of words that came in, as numbers. -/
theorem rd_of_row {w : World} {A : Option Addr} {len cap : Nat} (h : RowOf [.int .u32] w A len cap) (m : Nat) (hm : m ≤ len) : ∃ xs : List Int, m = xs.length ∧ Rd .u32 w 0 w.heap.size A xs ∧ ∀ x ∈ xs, 0 ≤ x ∧ x ≤ 4294967295 := by
  obtain ⟨-, -, h0 | ⟨b, off, rfl, hb, hall⟩⟩ := h
  · exact ⟨[], by simp; omega, .inl rfl, fun x hx => by cases hx⟩
  · have key : ∀ i, i < len → ∃ x : Int, w.cell? ⟨b, off + i, none⟩ = some (.int .u32 x) ∧ 0 ≤ x ∧ x ≤ 4294967295 := by
      intro i hi
      obtain ⟨vs, hr, hf⟩ := hall i hi
      obtain ⟨v, l, rfl, ⟨x, rfl, hw⟩, -⟩ := fits_cons hf
      have := hr 0 _ rfl
      rw [show off + i * [Pk.int IntKind.u32].length + 0 = off + i by simp] at this
      refine ⟨x, this, ?_⟩
      simp [Lit.wf, IntKind.min, IntKind.max, IntKind.bits, IntKind.signed] at hw
      omega
    have hf : ∃ f : Nat → Int, ∀ i, i < len → w.cell? ⟨b, off + i, none⟩ = some (.int .u32 (f i)) ∧ 0 ≤ f i ∧ f i ≤ 4294967295 :=
      ⟨fun i => if h : i < len then Classical.choose (key i h) else 0, fun i hi => by simp only [dif_pos hi]; exact Classical.choose_spec (key i hi)⟩
    obtain ⟨f, hf⟩ := hf
    refine ⟨tab m f, by rw [tab_len], .inr ⟨b, off, rfl, Nat.zero_le _, hb, fun j hj => ?_⟩, fun x hx => ?_⟩
    · rw [tab_len] at hj
      rw [tab_get _ _ _ hj]
      exact (hf j (by omega)).1
    · simp only [tab, List.mem_map, List.mem_range] at hx
      obtain ⟨i, hi, rfl⟩ := hx
      exact (hf i (by omega)).2

set_option maxHeartbeats 2000000 in
theorem writes_c (A : Option Addr) (len cap : Nat) (w : World) (r : RowOf [.int .u32] w A len cap) (hN : NamesOk w) (hE : ErrsOk w) (hP : PowOk w) : Calls Tryz.prog 3 #[.slice A len cap] w fun e w' => e = .returned (.bool true) ∧ Below w.heap.size w w' := by
  have h6 : 6 < w.heap.size := by obtain ⟨-, e, h, -⟩ := hE; exact lt_of_cell h
  have HNM : Hid (NamesOk w) := hN
  have HE : Hid (ErrsOk w) := hE
  have HP : Hid (PowOk w) := hP
  have key := rd_of_row r
  obtain ⟨hlc, hcm, -⟩ := r
  unfold maxLen at hcm
  clear hN hE hP
  by_cases hb : 60 < len
  · obtain ⟨xs, hn, hr, hx⟩ := key 60 (by omega)
    have h60i : (60 : Int) < (len : Int) := by omega
    have h60c : ¬ cap = 0 := by omega
    have h60d : (60 : Int) ≤ (cap : Int) := by omega
    have HN : Hid (60 = xs.length) := hn
    have HR : Hid (Rd .u32 w 0 w.heap.size A xs) := hr
    have HX : Hid (∀ x ∈ xs, 0 ≤ x ∧ x ≤ 4294967295) := hx
    have HRD : Hid (∀ W, NamesOk W → ErrsOk W → Calls Tryz.prog 5 #[.string (BA (wrOf xs))] W fun e w' => ∃ A c, e = .returned (.tuple #[.slice A xs.length c, .int .i64 0, .int .i64 0]) ∧ Rd .u32 w' 0 w'.heap.size A xs ∧ Below W.heap.size W w') := by
      show ∀ W, _ → _ → _
      intro W h1 h2
      have hl : (wrOf xs).length ≤ 4294967290 := by
        have h3 := wr_short xs hx
        have h4 : xs.length * 125 ≤ 60 * 125 := Nat.mul_le_mul_right _ (by omega)
        omega
      exact (read_c (wrOf xs) (asc_wr xs) hl W h1 h2).mono fun e w' ⟨hb, v, he, ho⟩ => by
        rw [rd_wr xs hx (by omega)] at he ho
        obtain ⟨A, c, rfl, -, -, -, hrd⟩ := Rd.of_own ho
        exact ⟨A, c, he, hrd.wider (Nat.zero_le _) (Nat.le_refl _), hb⟩
    clear key hn hr hx
    go_enter Tryz.func3, Tryz.ntmps3
    go_wp2_with fail
    refine (write_c A 60 cap xs w HN.out (by omega) HR.out HX.out HNM.out HP.out (by omega)).mono ?_
    rintro e w1 ⟨rfl, k1⟩
    have K1 : Hid (Below w.heap.size w w1) := k1
    have hsz1 := k1.size
    clear k1
    go_wp2_with fail
    refine (HRD.out w1 (HNM.out.below K1.out (by omega)) (HE.out.below K1.out h6)).mono ?_
    rintro e w2 ⟨A1, c1, rfl, rd1, k2⟩
    have RD1 : Hid (Rd .u32 w2 0 w2.heap.size A1 xs) := rd1
    have K2 : Hid (Below w.heap.size w w2) := K1.out.trans (k2.mono hsz1)
    have hsz2 := K2.out.size
    rw [← HN.out]
    clear rd1 k2
    go_wp2_with fail
    refine (rwrite_c A 60 cap xs w2 HN.out (by omega) ((HR.out.keep K2.out).wider (Nat.le_refl _) hsz2) HX.out).mono ?_
    rintro e w3 ⟨rfl, k3⟩
    have K3 : Hid (Below w.heap.size w w3) := K2.out.trans (k3.mono hsz2)
    have RD3 : Hid (Rd .u32 w3 0 w3.heap.size A1 xs) := (RD1.out.keep k3).wider (Nat.le_refl _) k3.size
    have hsz3 := K3.out.size
    obtain ⟨T, hT⟩ : ∃ T, T = BA (wrOf xs) := ⟨_, rfl⟩
    rw [← hT]
    have hTT := eq_str T
    clear k3 hT
    go_wp2_with fail
    refine (same_c A A1 60 cap c1 xs w3 HN.out (by omega) ((HR.out.keep K3.out).wider (Nat.le_refl _) hsz3) RD3.out).mono ?_
    rintro e w4 ⟨rfl, k4⟩
    have K4 : Hid (Below w.heap.size w w4) := K3.out.trans (k4.mono hsz3)
    have hsz4 := K4.out.size
    clear k4
    go_wp2_with fail
    refine (awake_c w4 (HNM.out.below K4.out (by omega)) (HE.out.below K4.out h6)).mono ?_
    rintro e w5 ⟨rfl, k5⟩
    have K5 : Hid (Below w.heap.size w w5) := K4.out.trans (k5.mono hsz4)
    clear k5
    go_wp2
    go_ret
    exact ⟨rfl, K5.out⟩
  · obtain ⟨xs, hn, hr, hx⟩ := key len (Nat.le_refl _)
    have h60i : ¬ (60 : Int) < (len : Int) := by omega
    have HN : Hid (len = xs.length) := hn
    have HR : Hid (Rd .u32 w 0 w.heap.size A xs) := hr
    have HX : Hid (∀ x ∈ xs, 0 ≤ x ∧ x ≤ 4294967295) := hx
    have HRD : Hid (∀ W, NamesOk W → ErrsOk W → Calls Tryz.prog 5 #[.string (BA (wrOf xs))] W fun e w' => ∃ A c, e = .returned (.tuple #[.slice A xs.length c, .int .i64 0, .int .i64 0]) ∧ Rd .u32 w' 0 w'.heap.size A xs ∧ Below W.heap.size W w') := by
      show ∀ W, _ → _ → _
      intro W h1 h2
      have hl : (wrOf xs).length ≤ 4294967290 := by
        have h3 := wr_short xs hx
        have h4 : xs.length * 125 ≤ 60 * 125 := Nat.mul_le_mul_right _ (by omega)
        omega
      exact (read_c (wrOf xs) (asc_wr xs) hl W h1 h2).mono fun e w' ⟨hb, v, he, ho⟩ => by
        rw [rd_wr xs hx (by omega)] at he ho
        obtain ⟨A, c, rfl, -, -, -, hrd⟩ := Rd.of_own ho
        exact ⟨A, c, he, hrd.wider (Nat.zero_le _) (Nat.le_refl _), hb⟩
    clear key hn hr hx
    go_enter Tryz.func3, Tryz.ntmps3
    go_wp2_with fail
    refine (write_c A len cap xs w HN.out (by omega) HR.out HX.out HNM.out HP.out (by omega)).mono ?_
    rintro e w1 ⟨rfl, k1⟩
    have K1 : Hid (Below w.heap.size w w1) := k1
    have hsz1 := k1.size
    clear k1
    go_wp2_with fail
    refine (HRD.out w1 (HNM.out.below K1.out (by omega)) (HE.out.below K1.out h6)).mono ?_
    rintro e w2 ⟨A1, c1, rfl, rd1, k2⟩
    have RD1 : Hid (Rd .u32 w2 0 w2.heap.size A1 xs) := rd1
    have K2 : Hid (Below w.heap.size w w2) := K1.out.trans (k2.mono hsz1)
    have hsz2 := K2.out.size
    rw [← HN.out]
    clear rd1 k2
    go_wp2_with fail
    refine (rwrite_c A len cap xs w2 HN.out (by omega) ((HR.out.keep K2.out).wider (Nat.le_refl _) hsz2) HX.out).mono ?_
    rintro e w3 ⟨rfl, k3⟩
    have K3 : Hid (Below w.heap.size w w3) := K2.out.trans (k3.mono hsz2)
    have RD3 : Hid (Rd .u32 w3 0 w3.heap.size A1 xs) := (RD1.out.keep k3).wider (Nat.le_refl _) k3.size
    have hsz3 := K3.out.size
    obtain ⟨T, hT⟩ : ∃ T, T = BA (wrOf xs) := ⟨_, rfl⟩
    rw [← hT]
    have hTT := eq_str T
    clear k3 hT
    go_wp2_with fail
    refine (same_c A A1 len cap c1 xs w3 HN.out (by omega) ((HR.out.keep K3.out).wider (Nat.le_refl _) hsz3) RD3.out).mono ?_
    rintro e w4 ⟨rfl, k4⟩
    have K4 : Hid (Below w.heap.size w w4) := K3.out.trans (k4.mono hsz3)
    have hsz4 := K4.out.size
    clear k4
    go_wp2_with fail
    refine (awake_c w4 (HNM.out.below K4.out (by omega)) (HE.out.below K4.out h6)).mono ?_
    rintro e w5 ⟨rfl, k5⟩
    have K5 : Hid (Below w.heap.size w w5) := K4.out.trans (k5.mono hsz4)
    clear k5
    go_wp2
    go_ret
    exact ⟨rfl, K5.out⟩
end Go.Proofs.YtpnmnokedpagmaaGreatDoor
