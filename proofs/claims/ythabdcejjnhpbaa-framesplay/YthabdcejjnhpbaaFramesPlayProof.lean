/-
  Whatever the input, the Go function FramesPlay answers true, and its arguments read behind the call as they read before. No condition.
-/
import Derived.Test.YthabdcejjnhpbaaRows
import Derived.Test.YthabdcejjnhpbaaFrHeld
import Derived.WalkKit
import Derived.Deep.LoopGhost
import Derived.ProofKit
import Derived.OpenShut
import Derived.ShutString
import Derived.ChangeOld
import Derived.Below
import Derived.Carry
namespace Go.Proofs.Ythabdcejjnhpbaa.framesPlay
open Go.ChangeShapes Go.WideShapes Go.ChangeAt Go.RowKit
open Go.ChangeMaps (open_string shut_string)
set_option linter.unusedVariables false

theorem own : ownKnob Try.prog.godebug = none := by kernel_rfl
theorem laidOut : laidOutB Try.prog = true := by kernel_rfl

set_option maxHeartbeats 4000000 in
set_option maxRecDepth 100000 in
theorem walk (w : World) (a0 : Int) (w0 : (Lit.int .i64 a0).wf = true) (A1 : Option Addr) (len1 cap1 : Nat) (r1 : RowOf ks_flatDeed w A1 len1 cap1) :
    Calls Try.prog 3 #[.int .i64 a0, .slice A1 len1 cap1] w fun e w' => e = .returned (.bool true) ∧ Below w.heap.size w w' := by
  obtain ⟨hlc, hcm, hrow⟩ := r1
  have HR : Hid (len1 = 0 ∨ ∃ b off, A1 = some ⟨b, off, none⟩ ∧ b < w.heap.size ∧ ∀ i, i < len1 → ∃ vs, w.rangeAt b (off + i * 4) vs ∧ Fits ks_flatDeed vs) := hrow
  unfold maxLen at hcm
  clear hrow w0
  by_cases hn : 1 ≤ a0 ∧ a0 ≤ 256
  · obtain ⟨n0, rfl⟩ : ∃ n : Nat, a0 = n := ⟨a0.toNat, by omega⟩
    obtain ⟨hn1, hn2⟩ := hn
    by_cases h6 : (6 : Int) < (n0 : Int)
    · go_enter Try.func3, Try.ntmps3
      go_wp2_with fail
      refine (new_c 6 _ (by omega) (by omega)).mono ?_
      rintro e w1 ⟨bm, bp, rfl, hbm, hbp, hM, k1⟩
      have HM1 : Hid (MemAt w1 bm bp 6 (List.replicate (16 * 6) 0)) := hM
      have HK1 : Hid (But [] w w1) := k1
      clear hM k1
      go_wp2_with fail
      refine (rnew_c 6 _ (by omega) (by omega)).mono ?_
      rintro e w2 ⟨bx, cx, rfl, hbx, hX, k2⟩
      have hz := HK1.out.size
      obtain ⟨hl1, hl2⟩ := HM1.out.lt
      have h1 : bx ≠ bp := by omega
      have h2 : bx ≠ bm := by omega
      have HB : Hid (Both w bm bp bx 6 (List.replicate (16 * 6) 0) w2) := ⟨HM1.out.keep k2 (by simp) (by simp), hX, ((HK1.out.trans k2).wider (by simp))⟩
      clear hX k2
      go_wp2
      go_loopg [7] 40 (fun g i wx => ∃ (m : Nat) (xs : List Int), m + g = 40 ∧ m ≤ len1 ∧ i = .int .i64 m ∧ Both w bm bp bx 6 xs wx)
      case atStart => exact ⟨0, _, by omega, Nat.zero_le _, rfl, HB.out⟩
      case round =>
        obtain ⟨m, xs, hmg, hml, rfl, hb⟩ := hrel
        have HX : Hid (Both w bm bp bx 6 xs wr) := hb
        clear hb HB
        by_cases hlt : m < len1
        · by_cases h40 : m < 40
          · have hex : ∃ b off, A1 = some ⟨b, off, none⟩ ∧ b < w.heap.size ∧ ∀ i, i < len1 → ∃ vs, w.rangeAt b (off + i * 4) vs ∧ Fits ks_flatDeed vs := by
              rcases HR.out with h | h
              · omega
              · exact h
            obtain ⟨b, off, hA, hbl, hall⟩ := hex
            obtain ⟨vs, hr, hfit⟩ := hall m hlt
            obtain ⟨K, F, A, V, rfl⟩ := deed_of hfit
            have HRa : Hid (wr.rangeAt b (off + m * 4) [.int .i64 K, .int .i64 F, .int .i64 A, .int .u32 V]) := range_keep hr HX.out.but (by simp; omega)
            subst hA
            clear hall hr hfit
            have hmlt : (m : Int) < (len1 : Int) := by omega
            go_wp2_with (first
              | (refine wpList_load_mid rfl 30 _ rfl b (off + m * 4) rfl [.int .i64 K, .int .i64 F, .int .i64 A, .int .u32 V] _ HRa.out Try.underlying30 rfl infoDeed ?_))
            refine (does_c bm bp bx 6 cx xs K F A V _ HX.out.mem HX.out.blk h1 h2).mono ?_
            rintro e w3 ⟨rfl, h3⟩
            have H3 : Hid (Both w bm bp bx 6 (dd 6 xs K F A V) w3) := ⟨h3.mem, h3.blk, HX.out.but.trans h3.but⟩
            clear h3
            go_wp2_with fail
            refine (same_c bm bp 6 bx cx _ _ H3.out.mem H3.out.blk).mono ?_
            rintro e w4 ⟨rfl, k4⟩
            have H4 : Hid (Both w bm bp bx 6 (dd 6 xs K F A V) w4) := H3.out.keep k4
            clear k4
            go_wp2
            go_roundg (40 - (m + 1))
            case measure => omega
            case rel => exact ⟨m + 1, _, by omega, by omega, by go_num, H4.out⟩
          · obtain rfl : m = 40 := by omega
            go_wp2_with fail
            refine (awake_c _).mono ?_
            rintro e w8 ⟨rfl, k8⟩
            have hE8 : Hid (But [bp, bx] w w8) := HX.out.but.trans (k8.wider (by simp))
            clear k8
            go_wp2
            go_ret
            exact ⟨rfl, hE8.out.below (Nat.le_refl _) (by simp; omega)⟩
        · obtain rfl : m = len1 := by omega
          go_wp2_with fail
          refine (awake_c _).mono ?_
          rintro e w8 ⟨rfl, k8⟩
          have hE8 : Hid (But [bp, bx] w w8) := HX.out.but.trans (k8.wider (by simp))
          clear k8
          go_wp2
          go_ret
          exact ⟨rfl, hE8.out.below (Nat.le_refl _) (by simp; omega)⟩
    · go_enter Try.func3, Try.ntmps3
      go_wp2_with fail
      refine (new_c n0 _ (by omega) (by omega)).mono ?_
      rintro e w1 ⟨bm, bp, rfl, hbm, hbp, hM, k1⟩
      have HM1 : Hid (MemAt w1 bm bp n0 (List.replicate (16 * n0) 0)) := hM
      have HK1 : Hid (But [] w w1) := k1
      clear hM k1
      go_wp2_with fail
      refine (rnew_c n0 _ (by omega) (by omega)).mono ?_
      rintro e w2 ⟨bx, cx, rfl, hbx, hX, k2⟩
      have hz := HK1.out.size
      obtain ⟨hl1, hl2⟩ := HM1.out.lt
      have h1 : bx ≠ bp := by omega
      have h2 : bx ≠ bm := by omega
      have HB : Hid (Both w bm bp bx n0 (List.replicate (16 * n0) 0) w2) := ⟨HM1.out.keep k2 (by simp) (by simp), hX, ((HK1.out.trans k2).wider (by simp))⟩
      clear hX k2
      have hpos : ((16 : Int) * (n0 : Int) == 0) = false := by simp; omega
      go_wp2
      go_loopg [7] 40 (fun g i wx => ∃ (m : Nat) (xs : List Int), m + g = 40 ∧ m ≤ len1 ∧ i = .int .i64 m ∧ Both w bm bp bx n0 xs wx)
      case atStart => exact ⟨0, _, by omega, Nat.zero_le _, rfl, HB.out⟩
      case round =>
        obtain ⟨m, xs, hmg, hml, rfl, hb⟩ := hrel
        have HX : Hid (Both w bm bp bx n0 xs wr) := hb
        clear hb HB
        by_cases hlt : m < len1
        · by_cases h40 : m < 40
          · have hex : ∃ b off, A1 = some ⟨b, off, none⟩ ∧ b < w.heap.size ∧ ∀ i, i < len1 → ∃ vs, w.rangeAt b (off + i * 4) vs ∧ Fits ks_flatDeed vs := by
              rcases HR.out with h | h
              · omega
              · exact h
            obtain ⟨b, off, hA, hbl, hall⟩ := hex
            obtain ⟨vs, hr, hfit⟩ := hall m hlt
            obtain ⟨K, F, A, V, rfl⟩ := deed_of hfit
            have HRa : Hid (wr.rangeAt b (off + m * 4) [.int .i64 K, .int .i64 F, .int .i64 A, .int .u32 V]) := range_keep hr HX.out.but (by simp; omega)
            subst hA
            clear hall hr hfit
            have hmlt : (m : Int) < (len1 : Int) := by omega
            go_wp2_with (first
              | (refine wpList_load_mid rfl 30 _ rfl b (off + m * 4) rfl [.int .i64 K, .int .i64 F, .int .i64 A, .int .u32 V] _ HRa.out Try.underlying30 rfl infoDeed ?_))
            refine (does_c bm bp bx n0 cx xs K F A V _ HX.out.mem HX.out.blk h1 h2).mono ?_
            rintro e w3 ⟨rfl, h3⟩
            have H3 : Hid (Both w bm bp bx n0 (dd n0 xs K F A V) w3) := ⟨h3.mem, h3.blk, HX.out.but.trans h3.but⟩
            clear h3
            go_wp2_with fail
            refine (same_c bm bp n0 bx cx _ _ H3.out.mem H3.out.blk).mono ?_
            rintro e w4 ⟨rfl, k4⟩
            have H4 : Hid (Both w bm bp bx n0 (dd n0 xs K F A V) w4) := H3.out.keep k4
            clear k4
            go_wp2
            go_roundg (40 - (m + 1))
            case measure => omega
            case rel => exact ⟨m + 1, _, by omega, by omega, by go_num, H4.out⟩
          · obtain rfl : m = 40 := by omega
            go_wp2_with fail
            refine (awake_c _).mono ?_
            rintro e w8 ⟨rfl, k8⟩
            have hE8 : Hid (But [bp, bx] w w8) := HX.out.but.trans (k8.wider (by simp))
            clear k8
            go_wp2
            go_ret
            exact ⟨rfl, hE8.out.below (Nat.le_refl _) (by simp; omega)⟩
        · obtain rfl : m = len1 := by omega
          go_wp2_with fail
          refine (awake_c _).mono ?_
          rintro e w8 ⟨rfl, k8⟩
          have hE8 : Hid (But [bp, bx] w w8) := HX.out.but.trans (k8.wider (by simp))
          clear k8
          go_wp2
          go_ret
          exact ⟨rfl, hE8.out.below (Nat.le_refl _) (by simp; omega)⟩
  · by_cases h0 : a0 < 1
    · go_enter Try.func3, Try.ntmps3
      go_wp2_with fail
      refine (new_no a0 _ (by omega)).mono ?_
      rintro e w1 ⟨rfl, rfl⟩
      go_wp2_with fail
      refine (rnew_no a0 _ (by omega)).mono ?_
      rintro e w2 ⟨rfl, rfl⟩
      go_wp2
      go_loopg [7] 40 (fun g i wx => ∃ (m : Nat), m + g = 40 ∧ m ≤ len1 ∧ i = .int .i64 m ∧ But [] w wx)
      case atStart => exact ⟨0, by omega, Nat.zero_le _, rfl, But.refl _ _⟩
      case round =>
        obtain ⟨m, hmg, hml, rfl, hb⟩ := hrel
        have HX : Hid (But [] w wr) := hb
        clear hb
        by_cases hlt : m < len1
        · by_cases h40 : m < 40
          · have hex : ∃ b off, A1 = some ⟨b, off, none⟩ ∧ b < w.heap.size ∧ ∀ i, i < len1 → ∃ vs, w.rangeAt b (off + i * 4) vs ∧ Fits ks_flatDeed vs := by
              rcases HR.out with h | h
              · omega
              · exact h
            obtain ⟨b, off, hA, hbl, hall⟩ := hex
            obtain ⟨vs, hr, hfit⟩ := hall m hlt
            obtain ⟨K, F, A, V, rfl⟩ := deed_of hfit
            have HRa : Hid (wr.rangeAt b (off + m * 4) [.int .i64 K, .int .i64 F, .int .i64 A, .int .u32 V]) := range_keep hr HX.out (by simp)
            subst hA
            clear hall hr hfit
            have hmlt : (m : Int) < (len1 : Int) := by omega
            go_wp2_with (first
              | (refine wpList_load_mid rfl 30 _ rfl b (off + m * 4) rfl [.int .i64 K, .int .i64 F, .int .i64 A, .int .u32 V] _ HRa.out Try.underlying30 rfl infoDeed ?_))
            refine (does_nil K F A V _).mono ?_
            rintro e w3 ⟨rfl, h3⟩
            have H3 : Hid (But [] w w3) := HX.out.trans h3
            clear h3
            go_wp2_with fail
            refine (same_nil _).mono ?_
            rintro e w4 ⟨rfl, rfl⟩
            go_wp2
            go_roundg (40 - (m + 1))
            case measure => omega
            case rel => exact ⟨m + 1, by omega, by omega, by go_num, H3.out⟩
          · obtain rfl : m = 40 := by omega
            go_wp2_with fail
            refine (awake_c _).mono ?_
            rintro e w8 ⟨rfl, k8⟩
            have hE8 : Hid (But [] w w8) := HX.out.trans k8
            clear k8
            go_wp2
            go_ret
            exact ⟨rfl, hE8.out.below (Nat.le_refl _) (by simp)⟩
        · obtain rfl : m = len1 := by omega
          go_wp2_with fail
          refine (awake_c _).mono ?_
          rintro e w8 ⟨rfl, k8⟩
          have hE8 : Hid (But [] w w8) := HX.out.trans k8
          clear k8
          go_wp2
          go_ret
          exact ⟨rfl, hE8.out.below (Nat.le_refl _) (by simp)⟩
    · have h256 : 256 < a0 := by omega
      go_enter Try.func3, Try.ntmps3
      go_wp2_with fail
      refine (new_no a0 _ (by omega)).mono ?_
      rintro e w1 ⟨rfl, rfl⟩
      go_wp2_with fail
      refine (rnew_no a0 _ (by omega)).mono ?_
      rintro e w2 ⟨rfl, rfl⟩
      go_wp2
      go_loopg [7] 40 (fun g i wx => ∃ (m : Nat), m + g = 40 ∧ m ≤ len1 ∧ i = .int .i64 m ∧ But [] w wx)
      case atStart => exact ⟨0, by omega, Nat.zero_le _, rfl, But.refl _ _⟩
      case round =>
        obtain ⟨m, hmg, hml, rfl, hb⟩ := hrel
        have HX : Hid (But [] w wr) := hb
        clear hb
        by_cases hlt : m < len1
        · by_cases h40 : m < 40
          · have hex : ∃ b off, A1 = some ⟨b, off, none⟩ ∧ b < w.heap.size ∧ ∀ i, i < len1 → ∃ vs, w.rangeAt b (off + i * 4) vs ∧ Fits ks_flatDeed vs := by
              rcases HR.out with h | h
              · omega
              · exact h
            obtain ⟨b, off, hA, hbl, hall⟩ := hex
            obtain ⟨vs, hr, hfit⟩ := hall m hlt
            obtain ⟨K, F, A, V, rfl⟩ := deed_of hfit
            have HRa : Hid (wr.rangeAt b (off + m * 4) [.int .i64 K, .int .i64 F, .int .i64 A, .int .u32 V]) := range_keep hr HX.out (by simp)
            subst hA
            clear hall hr hfit
            have hmlt : (m : Int) < (len1 : Int) := by omega
            go_wp2_with (first
              | (refine wpList_load_mid rfl 30 _ rfl b (off + m * 4) rfl [.int .i64 K, .int .i64 F, .int .i64 A, .int .u32 V] _ HRa.out Try.underlying30 rfl infoDeed ?_))
            refine (does_nil K F A V _).mono ?_
            rintro e w3 ⟨rfl, h3⟩
            have H3 : Hid (But [] w w3) := HX.out.trans h3
            clear h3
            go_wp2_with fail
            refine (same_nil _).mono ?_
            rintro e w4 ⟨rfl, rfl⟩
            go_wp2
            go_roundg (40 - (m + 1))
            case measure => omega
            case rel => exact ⟨m + 1, by omega, by omega, by go_num, H3.out⟩
          · obtain rfl : m = 40 := by omega
            go_wp2_with fail
            refine (awake_c _).mono ?_
            rintro e w8 ⟨rfl, k8⟩
            have hE8 : Hid (But [] w w8) := HX.out.trans k8
            clear k8
            go_wp2
            go_ret
            exact ⟨rfl, hE8.out.below (Nat.le_refl _) (by simp)⟩
        · obtain rfl : m = len1 := by omega
          go_wp2_with fail
          refine (awake_c _).mono ?_
          rintro e w8 ⟨rfl, k8⟩
          have hE8 : Hid (But [] w w8) := HX.out.trans k8
          clear k8
          go_wp2
          go_ret
          exact ⟨rfl, hE8.out.below (Nat.le_refl _) (by simp)⟩

set_option maxRecDepth 100000 in
theorem lifted (os : Os) (started : os.Started) (H : Type) (enc : TypeId × Value → H) :
    ReturnsInHanded {} Try.checked os 3 .any (Rows.framesPlaySpec.pre6 enc Try.prog Try.f3 Rows.framesPlayRow.domain false) (Rows.framesPlaySpec.post enc Try.prog Try.f3 false true false false) := by
  refine returnsInHanded_of_change (C := Try.checked) own started (by kernel_rfl) Try.func3
    (ChangeSpec.witness6 (enc := enc) (C := Try.checked) false ⟨#[], #[.int .i64 0, .slice none 0 0], []⟩ 8 (by kernel_rfl) (by kernel_rfl) (by kernel_rfl) (by kernel_rfl)) ?_
  intro W base args ds gs before hval0 hW hcnd _
  have hval : ∀ (j : Nat) t v, Try.f3.params[j]? = some t → args[j]? = some v → Value.okWide Try.prog W .any base t v := hval0
  have hW' := hW
  obtain ⟨p, q, hA0, hV, rfl, hfz, hnd⟩ := hW
  have hA : DataW.TrodAll enc Try.prog W 0 (fun _ => true) true Try.f3.params.toList args.toList ds p := hA0
  rw [Try.params3] at hA hval
  obtain ⟨v0, vs0, d0, ds0, p0, q0, hargs, rfl, rfl, h0, t0⟩ := trodAll_cons hA
  obtain ⟨v1, vs1, d1, ds1, p1, q1, rfl, rfl, rfl, h1, t1⟩ := trodAll_cons t0
  obtain ⟨rfl, rfl, rfl⟩ := trodAll_nil t1
  obtain rfl : args = #[v0, v1] := by cases args; simp_all
  obtain ⟨rfl, rfl⟩ := trodVars_none hV
  have k0 := h0
  have lt0 : ∀ x ∈ p0, x.block < W.heap.size := by obtain ⟨m, hm⟩ := k0; exact DataW.trod_lt m _ _ _ hm
  have k1 := h1
  have lt1 : ∀ x ∈ p1, x.block < W.heap.size := by obtain ⟨m, hm⟩ := k1; exact DataW.trod_lt m _ _ _ hm
  obtain ⟨a0, rfl, rfl, rfl, w0⟩ := open_int Try.underlying3 (hval 0 3 v0 rfl rfl) h0
  obtain ⟨A1, len1, cap1, rfl⟩ := okWide_slice Try.underlying22 (hval 1 22 v1 rfl rfl)
  have r1 := rowOf_open Try.underlying22 flatDeed (by decide) h1
  clear hA0 hval0
  refine (walk W a0 w0 A1 len1 cap1 r1).mono fun e W' ⟨he, hg⟩ => ?_
  subst he
  exact ⟨_, rfl, _, _, _, [], _, [], hW', (trodAll_cons_mk (shut_bool Try.underlying4 _) trodAll_mk0), (trodAll_cons_mk (Below.trod laidOut (by kernel_rfl) (of_decide_eq_true (by kernel_rfl)) k0 hg lt0) (trodAll_cons_mk (Below.trod laidOut (by kernel_rfl) (of_decide_eq_true (by kernel_rfl)) k1 hg lt1) trodAll_mk0)), rfl, hg.frame _, (fun h => by cases h)⟩

theorem over : Rows.framesPlayRow.holds Try.pinned (OpenSpec.ofChange Rows.framesPlaySpec) :=
  OpenClaim.holds_of_wide 3 Try.f3 rfl rfl rfl rfl rfl rfl rfl ⟨rfl, rfl, rfl, rfl, rfl⟩ rfl rfl rfl rfl rfl (by kernel_rfl) Try.func3 (by kernel_rfl)
    (of_decide_eq_true (by kernel_rfl)) (by unfold Func.isWrapper; first | (rw [if_pos (by decide +kernel)]; kernel_rfl) | (rw [if_neg (by decide +kernel)]; exact ⟨rfl, rfl⟩))
    (fun os started H enc _ => lifted os started H enc)
end Go.Proofs.Ythabdcejjnhpbaa.framesPlay
namespace Go.Proofs.Ythabdcejjnhpbaa
/-- The statement, by its short name. -/
theorem framesPlay_holds : Rows.FramesPlaySaid := framesPlay.over
#print axioms framesPlay_holds
end Go.Proofs.Ythabdcejjnhpbaa
