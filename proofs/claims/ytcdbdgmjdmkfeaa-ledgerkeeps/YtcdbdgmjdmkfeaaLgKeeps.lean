/-
  Layer 13 (ledger): the contract of the statement that quotas are kept in sum, over the translated program.
-/
import Derived.Test.YtcdbdgmjdmkfeaaLgFlat
import Derived.Deep.LoopGhost
namespace Go.Proofs.Ytcdbdgmjdmkfeaa.Lg
open Go.ChangeShapes Go.WideShapes Go.ChangeAt Go.RowKit
set_option linter.unusedVariables false
set_option maxRecDepth 20000

theorem sm_mono (q : Tb) (k n : Nat) : ∀ m : Nat, (∀ i, i < m → 0 ≤ q i k) → n ≤ m → sm q k n ≤ sm q k m
  | 0, _, h => by
    obtain rfl : n = 0 := by omega
    exact Int.le_refl _
  | m + 1, hp, h => by
    by_cases hn : n = m + 1
    · subst hn; exact Int.le_refl _
    · have h1 := sm_mono q k n m (fun i hi => hp i (by omega)) (by omega)
      have h2 := hp m (by omega)
      rw [sm_succ]
      omega
set_option maxHeartbeats 2000000 in
theorem keeps_c (a : Nat → Int) (A1 : Option Addr) (len1 cap1 : Nat) (w : World) (r1 : RowOf ks_flatDeed w A1 len1 cap1) :
    Calls Try.prog 4 #[.agg (av a).toArray, .slice A1 len1 cap1] w fun r w' => r = .returned (.bool true) ∧ But [] w w' := by
  obtain ⟨hlc, hcm, hrow⟩ := r1
  have HR : Hid (len1 = 0 ∨ ∃ b off, A1 = some ⟨b, off, none⟩ ∧ b < w.heap.size ∧ ∀ i, i < len1 → ∃ vs, w.rangeAt b (off + i * 5) vs ∧ Fits ks_flatDeed vs) := hrow
  unfold maxLen at hcm
  clear hrow
  obtain ⟨B, hB⟩ : ∃ B, B = w.heap.size := ⟨_, rfl⟩
  have hb := new_range w (av a) 22
  rw [← hB] at hb
  have HB0 := hid hb
  have HK0 : Hid (But [] w (w.alloc (.cells (av a).toArray 22))) := (But.refl [] w).alloc _
  have HBL : Hid (B = w.heap.size ∧ B < (w.alloc (.cells (av a).toArray 22)).heap.size) := by show _ ∧ _; simp; omega
  clear hb
  go_enter Try.func4, Try.ntmps4
  go_upto_region 1 with fail
  rw [← hB]
  clear hB
  generalize w.alloc (.cells (av a).toArray 22) = w0 at *
  go_wp2_with (first
    | (refine wpList_load_mid rfl 22 _ rfl B 0 rfl (av a) _ HB0.out Try.underlying22 rfl infoFour ?_))
  refine (new_c a _).mono ?_
  rintro r w1 ⟨bx, rfl, hbx, hl1, k1⟩
  have HX := hid hbx
  have HL1 := hid hl1
  have HK1 := hid (HK0.out.trans k1)
  have HB1 := hid (range_below HB0.out k1)
  clear hbx hl1 k1
  go_wp2_with (first
    | (refine wpList_load_mid rfl 22 _ rfl B 0 rfl (av a) _ HB1.out Try.underlying22 rfl infoFour ?_))
  refine (rnew_c a _).mono ?_
  rintro r w2 ⟨bl, rfl, hbl, hr2, k2⟩
  have HS2 : Hid (Lw w bx bl B a (q0 a 4) u0 w2) := by
    have h1 := HX.out
    have h2 := HL1.out.lt
    obtain ⟨h3, h4⟩ := HBL.out
    have h5 := HK1.out.size
    exact ⟨HL1.out.keep k2 (by simp), hr2, Ok.first a, range_below HB1.out k2, HK1.out.trans k2, by omega, by omega, by omega, by omega, by omega⟩
  clear hbl hr2 k2 HX HL1 HK1 HB1 HBL HK0 HB0
  go_wp2
  go_loopg [7] 80 (fun g0 iv wx => ∃ (i : Nat) (q u : Tb), i + g0 = 80 ∧ i ≤ len1 ∧ iv = .int .i64 i ∧ Hid (Lw w bx bl B a q u wx))
  case atStart => exact ⟨0, _, _, by omega, Nat.zero_le _, rfl, HS2.out⟩
  case round =>
  obtain ⟨i, q, u, hig, hil, rfl, HS⟩ := hrel
  clear HS2
  rename World => wa
  obtain ⟨z, hz⟩ : ∃ z : Bool, z = decide (i < len1 ∧ i < 80) := ⟨_, rfl⟩
  have HZ := hid hz
  clear hz
  go_upto_region 4 with fail
  go_cut [25] from 18 to 24 (fun s25 wx => s25 = .bool z ∧ wx = wa)
  case first =>
    by_cases hlt : i < len1
    · have hilt : decide ((i : Int) < (len1 : Int)) = true := decide_eq_true (by omega)
      by_cases h80 : i < 80
      · have hi80 : decide ((i : Int) < 80) = true := decide_eq_true (by omega)
        go_wp2_with fail
        go_meet
        exact ⟨by rw [HZ.out, decide_eq_true ⟨hlt, h80⟩], rfl⟩
      · have hi80 : decide ((i : Int) < 80) = false := decide_eq_false (by omega)
        go_wp2_with fail
        go_meet
        exact ⟨by rw [HZ.out, decide_eq_false (fun h => h80 h.2)], rfl⟩
    · have hilt : decide ((i : Int) < (len1 : Int)) = false := decide_eq_false (by omega)
      go_wp2_with fail
      go_meet
      exact ⟨by rw [HZ.out, decide_eq_false (fun h => hlt h.1)], rfl⟩
  case rest =>
  obtain ⟨rfl, hwa⟩ := hcut
  rw [hwa]
  clear hwa
  cases z with
  | false =>
    clear HZ hig hil
    go_wp2_with fail
    refine (awake_c _).mono ?_
    rintro r w7 ⟨rfl, k7⟩
    have HK7 := hid (HS.out.kp.trans k7)
    clear k7
    go_wp2
    go_ret
    exact ⟨rfl, HK7.out⟩
  | true =>
    obtain ⟨hlt, h80⟩ := of_decide_eq_true HZ.out.symm
    obtain ⟨bA, off, rfl, hbl, hall⟩ : ∃ bA off, A1 = some ⟨bA, off, none⟩ ∧ bA < w.heap.size ∧ ∀ i, i < len1 → ∃ vs, w.rangeAt bA (off + i * 5) vs ∧ Fits ks_flatDeed vs := by
      rcases HR.out with h | h
      · omega
      · exact h
    obtain ⟨vs, hr, hfit⟩ := hall i hlt
    obtain ⟨K, e, t, k, n, rfl⟩ := deed_of hfit
    have HRE := hid (range_below hr HS.out.kp)
    clear hall hr hfit
    have hilt : (i : Int) < (len1 : Int) := by omega
    go_wp2_with (first
      | (refine wpList_load_mid rfl 30 _ rfl bA (off + i * 5) rfl [.int .i64 K, .int .i64 e, .int .i64 t, .int .i64 k, .int .i64 n] _ HRE.out Try.underlying30 rfl infoDeed ?_)
      | fail)
    refine (does_c bx bl _ K e t k n wa HS.out.bo HS.out.ne).mono ?_
    rintro r w6 ⟨rfl, hd⟩
    obtain ⟨q', u', hs6⟩ := HS.out.dn hd
    have HS6 := hid hs6
    clear hd hs6 HS HRE
    go_wp2
    go_loopg [8] 5 (fun g1 kv wy => ∃ k : Nat, k + g1 = 5 ∧ k ≤ 4 ∧ kv = .int .i64 k ∧ Hid (Lw w bx bl B a q' u' wy))
    case atStart => exact ⟨0, by omega, by omega, rfl, HS6.out⟩
    case round =>
    clear HS6
    obtain ⟨k, hkg, hk, rfl, HS⟩ := hrel
    rename World => wb
    by_cases hkl : k < 4
    case pos =>
      have hkI : (k : Int) < 4 := by omega
      go_wp2
      go_loopg [9, 10] 17 (fun g2 sv ev wy => ∃ (e : Nat) (s : Int), e + g2 = 17 ∧ e ≤ 16 ∧ sv = .int .i64 s ∧ ev = .int .i64 e ∧ Hid (s = sm q' k e) ∧ Hid (Lw w bx bl B a q' u' wy))
      case atStart => exact ⟨0, 0, by omega, by omega, rfl, rfl, rfl, HS.out⟩
      case round =>
      clear HS
      obtain ⟨e, s, heg, he, rfl, rfl, HSM, HS⟩ := hrel
      rename World => wc
      by_cases hel : e < 16
      case pos =>
        have heI : (e : Int) < 16 := by omega
        go_wp2_with fail
        refine (quota_c bx q' u' e k _ HS.out.ld).mono ?_
        rw [gt_nat _ _ _ hel hkl, gt_nat _ _ _ hel hkl]
        rintro r wd ⟨rfl, hd, kd⟩
        have HS2 := hid (HS.out.ask hd kd)
        clear hd kd
        have hlo := HS.out.ok.low e k hel hkl
        have hsb := sm_pos q' k e (fun i hi => by have := HS.out.ok.low i k (by omega) hkl; omega)
        have HSM2 : Hid (s + q' e k = sm q' k (e + 1)) := by show _ = _; rw [sm_succ, HSM.out]
        have hsm := sm_mono q' k (e + 1) 16 (fun i hi => by have := HS.out.ok.low i k hi hkl; omega) (by omega)
        have hmx := HS.out.ok.most k hkl
        rw [HS.out.ok.sum k hkl] at hsm
        rw [← HSM2.out] at hsm
        rw [← HSM.out] at hsb
        obtain ⟨x, hx⟩ : ∃ x, q' e k = x := ⟨_, rfl⟩
        obtain ⟨y, hy⟩ : ∃ y, u' e k = y := ⟨_, rfl⟩
        rw [hx, hy] at hlo ⊢
        rw [hx] at hsm
        have HSM3 : Hid (s + x = sm q' k (e + 1)) := by show _ = _; rw [← hx]; exact HSM2.out
        obtain ⟨hl1, hl2⟩ := hlo
        have hw : IntKind.i64.wrap (s + x) = s + x := wrap_small _ (by omega) (by omega)
        have h1 : decide (x < y) = false := decide_eq_false (by omega)
        have h2 : decide (y < 0) = false := decide_eq_false (by omega)
        clear hx hy hsm hmx hsb hl1 hl2 HSM HSM2
        go_wp2
        go_roundg (17 - (e + 1))
        case measure => omega
        case rel => exact ⟨e + 1, s + x, by omega, by omega, rfl, by go_num, HSM3, HS2.out⟩
      case neg =>
        obtain rfl : e = 16 := by omega
        have HSC : Hid (s = clm (a k)) := HSM.out.trans (HS.out.ok.sum k hkl)
        have hcx := av_cell HS.out.ra k hkl
        obtain ⟨x, hx⟩ : ∃ x, x = a k := ⟨_, rfl⟩
        rw [← hx] at hcx HSC
        clear hx HSM
        by_cases hx0 : x < 0
        · have HC : Hid (clm x = 0) := if_pos hx0
          rw [HC.out] at HSC
          obtain rfl := HSC.out
          go_wp2
          go_roundg (5 - (k + 1))
          case measure => omega
          case rel => exact ⟨k + 1, by omega, by omega, by go_num, HS.out⟩
        · have hx0' : decide (x < 0) = false := decide_eq_false hx0
          by_cases hx1 : 512 < x
          · have HC : Hid (clm x = 512) := by show _ = _; unfold clm; rw [if_neg hx0, if_pos hx1]
            rw [HC.out] at HSC
            obtain rfl := HSC.out
            go_wp2
            go_roundg (5 - (k + 1))
            case measure => omega
            case rel => exact ⟨k + 1, by omega, by omega, by go_num, HS.out⟩
          · have HC : Hid (clm x = x) := by show _ = _; unfold clm; rw [if_neg hx0, if_neg hx1]
            rw [HC.out] at HSC
            obtain rfl := HSC.out
            have h2 : decide (512 < s) = false := decide_eq_false hx1
            go_wp2
            go_roundg (5 - (k + 1))
            case measure => omega
            case rel => exact ⟨k + 1, by omega, by omega, by go_num, HS.out⟩
    case neg =>
      obtain rfl : k = 4 := by omega
      go_wp2
      go_roundg (80 - (i + 1))
      case measure => omega
      case rel => exact ⟨i + 1, q', u', by omega, by omega, by go_num, HS.out⟩
end Go.Proofs.Ytcdbdgmjdmkfeaa.Lg
