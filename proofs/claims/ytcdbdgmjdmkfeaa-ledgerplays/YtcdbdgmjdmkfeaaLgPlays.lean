/-
  Layer 13 (ledger): the contract of the statement that all is noted as the document says, over the translated program.
-/
import Derived.Test.YtcdbdgmjdmkfeaaLgFlat
import Derived.Deep.LoopGhost
import Derived.Deep.RegionHeld3
namespace Go.Proofs.Ytcdbdgmjdmkfeaa.Lg
open Go.ChangeShapes Go.WideShapes Go.ChangeAt Go.RowKit
set_option linter.unusedVariables false
set_option maxRecDepth 20000

theorem lw_kp {w wx : World} {bx bl B : Nat} {a : Nat → Int} {q u : Tb} (h : Hid (Lw w bx bl B a q u wx)) : But [] w wx := h.out.kp
set_option maxHeartbeats 2000000 in
theorem plays_c (a : Nat → Int) (A1 : Option Addr) (len1 cap1 : Nat) (w : World) (r1 : RowOf ks_flatDeed w A1 len1 cap1) :
    Calls Try.prog 3 #[.agg (av a).toArray, .slice A1 len1 cap1] w fun r w' => r = .returned (.bool true) ∧ But [] w w' := by
  obtain ⟨hlc, hcm, hrow⟩ := r1
  have HR : Hid (len1 = 0 ∨ ∃ b off, A1 = some ⟨b, off, none⟩ ∧ b < w.heap.size ∧ ∀ i, i < len1 → ∃ vs, w.rangeAt b (off + i * 5) vs ∧ Fits ks_flatDeed vs) := hrow
  unfold maxLen at hcm
  clear hrow
  obtain ⟨B, hB⟩ : ∃ B, B = w.heap.size := ⟨_, rfl⟩
  have hb := new_range w (av a) 22
  rw [← hB] at hb
  have HB0 := hid hb
  have HK0 : Hid (But [] w (w.alloc (.cells (av a).toArray 22))) := (But.refl [] w).alloc _
  have HBL : Hid (B = w.heap.size ∧ B < (w.alloc (.cells (av a).toArray 22)).heap.size) := by show _ ∧ _; simp; omega
  clear hb
  go_enter Try.func3, Try.ntmps3
  go_upto_region 1 with fail
  rw [← hB]
  clear hB
  generalize w.alloc (.cells (av a).toArray 22) = w0 at *
  go_wp2_with (first
    | (refine wpList_load_mid rfl 22 _ rfl B 0 rfl (av a) _ HB0.out Try.underlying22 rfl infoFour ?_))
  refine (new_c a _).mono ?_
  rintro r w1 ⟨bx, rfl, hbx, hl1, k1⟩
  have HX := hid hbx
  have HL1 := hid hl1
  have HK1 := hid (HK0.out.trans k1)
  have HB1 := hid (range_below HB0.out k1)
  clear hbx hl1 k1
  go_wp2_with (first
    | (refine wpList_load_mid rfl 22 _ rfl B 0 rfl (av a) _ HB1.out Try.underlying22 rfl infoFour ?_))
  refine (rnew_c a _).mono ?_
  rintro r w2 ⟨bl, rfl, hbl, hr2, k2⟩
  have HS2 : Hid (Lw w bx bl B a (q0 a 4) u0 w2) := by
    have h1 := HX.out
    have h2 := HL1.out.lt
    obtain ⟨h3, h4⟩ := HBL.out
    have h5 := HK1.out.size
    exact ⟨HL1.out.keep k2 (by simp), hr2, Ok.first a, range_below HB1.out k2, HK1.out.trans k2, by omega, by omega, by omega, by omega, by omega⟩
  clear hbl hr2 k2 HX HL1 HK1 HB1 HBL HK0 HB0
  go_wp2
  go_loopg [7] 80 (fun g0 iv wx => ∃ (i : Nat) (q u : Tb), i + g0 = 80 ∧ i ≤ len1 ∧ iv = .int .i64 i ∧ Hid (Lw w bx bl B a q u wx))
  case atStart => exact ⟨0, _, _, by omega, Nat.zero_le _, rfl, HS2.out⟩
  case round =>
  obtain ⟨i, q, u, hig, hil, rfl, HS⟩ := hrel
  clear HS2
  rename World => wa
  obtain ⟨z, hz⟩ : ∃ z : Bool, z = decide (i < len1 ∧ i < 80) := ⟨_, rfl⟩
  have HZ := hid hz
  clear hz
  go_upto_region 4 with fail
  go_cut [23] from 16 to 22 (fun s23 wx => s23 = .bool z ∧ wx = wa)
  case first =>
    by_cases hlt : i < len1
    · have hilt : decide ((i : Int) < (len1 : Int)) = true := decide_eq_true (by omega)
      by_cases h80 : i < 80
      · have hi80 : decide ((i : Int) < 80) = true := decide_eq_true (by omega)
        go_wp2_with fail
        go_meet
        exact ⟨by rw [HZ.out, decide_eq_true ⟨hlt, h80⟩], rfl⟩
      · have hi80 : decide ((i : Int) < 80) = false := decide_eq_false (by omega)
        go_wp2_with fail
        go_meet
        exact ⟨by rw [HZ.out, decide_eq_false (fun h => h80 h.2)], rfl⟩
    · have hilt : decide ((i : Int) < (len1 : Int)) = false := decide_eq_false (by omega)
      go_wp2_with fail
      go_meet
      exact ⟨by rw [HZ.out, decide_eq_false (fun h => hlt h.1)], rfl⟩
  case rest =>
  obtain ⟨rfl, hwa⟩ := hcut
  rw [hwa]
  clear hwa
  cases z with
  | false =>
    clear HZ hig hil
    go_wp2_with fail
    refine (awake_c _).mono ?_
    rintro r w7 ⟨rfl, k7⟩
    have HK7 := hid (HS.out.kp.trans k7)
    clear k7
    go_wp2
    go_ret
    exact ⟨rfl, HK7.out⟩
  | true =>
    obtain ⟨hlt, h80⟩ := of_decide_eq_true HZ.out.symm
    obtain ⟨bA, off, rfl, hbl, hall⟩ : ∃ bA off, A1 = some ⟨bA, off, none⟩ ∧ bA < w.heap.size ∧ ∀ i, i < len1 → ∃ vs, w.rangeAt bA (off + i * 5) vs ∧ Fits ks_flatDeed vs := by
      rcases HR.out with h | h
      · omega
      · exact h
    obtain ⟨vs, hr, hfit⟩ := hall i hlt
    obtain ⟨K, e, t, k, n, rfl⟩ := deed_of hfit
    have HRW := hid hr
    have HRE := hid (range_below hr HS.out.kp)
    clear hall hr hfit
    have hilt : (i : Int) < (len1 : Int) := by omega
    go_wp2_with (first
      | (refine wpList_load_mid rfl 30 _ rfl bA (off + i * 5) rfl [.int .i64 K, .int .i64 e, .int .i64 t, .int .i64 k, .int .i64 n] _ HRE.out Try.underlying30 rfl infoDeed ?_)
      | fail)
    refine (does_c bx bl _ K e t k n wa HS.out.bo HS.out.ne).mono ?_
    rintro r w6 ⟨rfl, hd⟩
    obtain ⟨q', u', hs6⟩ := HS.out.dn hd
    have HS6 := hid hs6
    clear hd hs6 HS HRE
    clear hilt
    go_wp2
    go_loopg [8] 17 (fun g1 ev wy => ∃ e : Nat, e + g1 = 17 ∧ e ≤ 16 ∧ ev = .int .i64 e ∧ Hid (Lw w bx bl B a q' u' wy))
    case atStart => exact ⟨0, by omega, by omega, rfl, HS6.out⟩
    case round =>
    clear HS6
    obtain ⟨x, hxg, hx, rfl, HS⟩ := hrel
    rename World => wb
    by_cases hxl : x < 16
    case pos =>
      have hxI : (x : Int) < 16 := by omega
      go_wp2
      go_loopg [9] 5 (fun g2 kv wy => ∃ y : Nat, y + g2 = 5 ∧ y ≤ 4 ∧ kv = .int .i64 y ∧ Hid (Lw w bx bl B a q' u' wy))
      case atStart => exact ⟨0, by omega, by omega, rfl, HS.out⟩
      case round =>
      clear HS
      obtain ⟨y, hyg, hy, rfl, HS⟩ := hrel
      rename World => wc
      by_cases hyl : y < 4
      case pos =>
        have hyI : (y : Int) < 4 := by omega
        go_wp2_with fail
        refine (quota_c bx q' u' x y _ HS.out.ld).mono ?_
        rw [gt_nat _ _ _ hxl hyl, gt_nat _ _ _ hxl hyl]
        rintro r wd ⟨rfl, hd, kd⟩
        have HS2 := hid (HS.out.ask hd kd)
        clear hd kd HS
        have hcq := (HS2.out.rf.q x y hxl hyl).1
        have hcu := (HS2.out.rf.u x y hxl hyl).1
        obtain ⟨m, hm⟩ : ∃ m, q' x y = m := ⟨_, rfl⟩
        obtain ⟨v, hv⟩ : ∃ v, u' x y = v := ⟨_, rfl⟩
        rw [hm] at hcq ⊢
        rw [hv] at hcu ⊢
        have HM := hid hm
        have HVV := hid hv
        clear hm hv
        go_wp2_with fail
        refine (left_c bx q' u' _ x y _ HS2.out.ld HS2.out.ok).mono ?_
        rw [gt_nat _ _ _ hxl hyl, gt_nat _ _ _ hxl hyl, HM.out, HVV.out]
        rintro r we ⟨rfl, he, ke⟩
        have HS3 := hid (HS2.out.ask he ke)
        clear he ke HS2 hcq hcu
        go_wp2_with fail
        refine (dleft_c bl q' u' _ x y _ HS3.out.rf HS3.out.ok).mono ?_
        rw [gt_nat _ _ _ hxl hyl, gt_nat _ _ _ hxl hyl, HM.out, HVV.out]
        rintro r wf ⟨rfl, kf⟩
        have HS4 := hid (HS3.out.keep0 kf)
        clear kf HS3 HM HVV
        go_wp2
        go_roundg (5 - (y + 1))
        case measure => omega
        case rel => exact ⟨y + 1, by omega, by omega, by go_num, HS4.out⟩
      case neg =>
        obtain rfl : y = 4 := by omega
        go_wp2
        go_roundg (17 - (x + 1))
        case measure => omega
        case rel => exact ⟨x + 1, by omega, by omega, by go_num, HS.out⟩
    case neg =>
      obtain rfl : x = 16 := by omega
      have hilt : (i : Int) < (len1 : Int) := by omega
      have HDR : Hid (∀ wy, But [] w wy → wy.cell? ⟨bA, off + i * 5 + 1, none⟩ = some (.int .i64 e) ∧ wy.cell? ⟨bA, off + i * 5 + 3, none⟩ = some (.int .i64 k)) := fun wy hy =>
        ⟨range_cells (range_below HRW.out hy) 1 _ rfl, range_cells (range_below HRW.out hy) 3 _ rfl⟩
      have HSd : Hid (Lw w bx bl B a q' u' wb.drew) := HS.out.keep0 (But.refl [] _).drew
      have S0 := HDR.out _ HSd.out.kp
      obtain ⟨m, hm⟩ : ∃ m, gt q' e k - gt u' e k = m := ⟨_, rfl⟩
      have HM := hid hm
      clear hm
      go_wp2
      go_region_held3 (fun w' => w'.cell? ⟨bA, off + i * 5 + 1, none⟩ = some (.int .i64 e) ∧ w'.cell? ⟨bA, off + i * 5 + 3, none⟩ = some (.int .i64 k))
        (first | assumption | exact HDR.out _ (lw_kp (by assumption)))
        (first
          | (go_at_call 10; refine (left_c bx q' u' _ e k _ HSd.out.ld HSd.out.ok).mono ?_; rw [HM.out]; rintro r w7 ⟨rfl, h7, k7⟩; have HS7 : Hid (Lw w bx bl B a q' u' w7) := HSd.out.ask h7 k7; clear h7 k7)
          | (go_at_call 11; refine (dleft_c bl q' u' _ e k _ HS7.out.rf HS7.out.ok).mono ?_; rw [HM.out]; rintro r w8 ⟨rfl, k8⟩; have HS8 : Hid (Lw w bx bl B a q' u' w8) := HS7.out.keep0 k8; clear k8))
      go_wp2
      go_roundg (80 - (i + 1))
      case measure => omega
      case rel => exact ⟨i + 1, q', u', by omega, by omega, by go_num, HS8.out⟩
end Go.Proofs.Ytcdbdgmjdmkfeaa.Lg
