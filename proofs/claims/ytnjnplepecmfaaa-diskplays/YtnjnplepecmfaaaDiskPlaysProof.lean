/-
  Whatever the input, the Go function DiskPlays answers true, and its arguments read behind the call as they read before. No condition.
-/
import Derived.Test.YtnjnplepecmfaaaRows
import Derived.Test.YtnjnplepecmfaaaDkHead
import Derived.WalkKit
import Derived.Deep.LoopGhost
import Derived.Deep.CutBlock
import Derived.Deep.CutRange
import Derived.Deep.DeepCutAuto
import Derived.Deep.RegionHeld3
import Derived.ProofKit
import Derived.OpenShut
import Derived.ShutString
import Derived.ChangeOld
import Derived.Below
import Derived.Carry
namespace Go.Proofs.Ytnjnplepecmfaaa.diskPlays
open Go.ChangeShapes Go.WideShapes Go.ChangeAt Go.RowKit
open Go.ChangeMaps (open_string shut_string)
set_option linter.unusedVariables false

theorem own : ownKnob Try.prog.godebug = none := by kernel_rfl
theorem laidOut : laidOutB Try.prog = true := by kernel_rfl

set_option maxHeartbeats 4000000 in
set_option maxRecDepth 100000 in
theorem walk (w : World) (a0 : Int) (w0 : (Lit.int .i64 a0).wf = true) (A1 : Option Addr) (len1 cap1 : Nat) (r1 : Dk.Deeds w A1 len1 cap1) :
    Calls Try.prog 3 #[.int .i64 a0, .slice A1 len1 cap1] w fun e w' => e = .returned (.bool true) ∧ Below w.heap.size w w' := by
  obtain ⟨hlc1, hcm1, hrow1⟩ := r1
  have HR1 : Hid (len1 = 0 ∨ ∃ b off, A1 = some ⟨b, off, none⟩ ∧ b < w.heap.size ∧ ∀ i, i < len1 → ∃ vs, w.rangeAt b (off + i * 4) vs ∧ Dk.DeedOk w vs) := hrow1
  unfold maxLen at hcm1
  clear hrow1
  obtain ⟨nn, hnn⟩ : ∃ nn : Nat, wrap64 (1 + bits .and .i64 a0 7) = nn ∧ 1 ≤ nn ∧ nn ≤ 8 := by
    refine ⟨(1 + a0 % 8).toNat, ?_, by omega, by omega⟩
    rw [Dk.and7]
    unfold wrap64
    omega
  have HNN : Hid (wrap64 (1 + bits .and .i64 a0 7) = nn) := hnn.1
  obtain ⟨-, hn1, hn2⟩ := hnn
  obtain ⟨lo, hlo⟩ : ∃ lo, lo = w.heap.size := ⟨_, rfl⟩
  have HLO : Hid (lo = w.heap.size) := hlo
  have HLW : Hid (w.heap.size ≤ lo) := by show _ ≤ lo; omega
  clear hlo w0
  go_enter Try.func3, Try.ntmps3
  go_upto_region 2 with fail
  rw [HNN.out]
  go_wp2_with fail
  refine (Dk.new_c nn _ (by omega) (by omega)).mono ?_
  rintro e w1 ⟨b, bl, rfl, D1, k1⟩
  have HD1 : Hid (Dk.DkAt Dk.tP w1 lo b bl nn nn (.slice none 0 0) Dk.L0 []) := by show Dk.DkAt _ _ _ _ _ _ _ _ _ _; rw [HLO.out]; exact D1
  have HK1 : Hid (Below w.heap.size w w1) := k1.below (Nat.le_refl _) (by simp)
  clear D1 k1
  go_wp2_with fail
  refine (Dk.rnew_c nn _ (by omega) (by omega)).mono ?_
  rintro e w2 ⟨b', bl', cl', rfl, X2, k2⟩
  have hs1 := HK1.out.size
  have hlo1 : lo ≤ w1.heap.size := by have h1 := HD1.out.lob; have h2 := HD1.out.lt Dk.fp_b; omega
  have HS0 : Hid (Dk.St w2 lo b bl nn (.slice none 0 0) b' bl' cl' (.slice none 0 0) nn Dk.L0 []) := Dk.st_new HD1.out X2 k2 hlo1
  have HB0 : Hid (Below w.heap.size w w2) := HK1.out.trans (k2.below hs1 (by simp))
  clear X2 k2 hs1
  go_wp2
  go_loopg [7] 60 (fun g0 iv wx => ∃ (j : Nat) (v v' : Value) (L : Nat → Dk.Dat) (W : List Dk.Wr), j + g0 = 60 ∧ j ≤ len1 ∧ iv = .int .i64 j ∧ W.length ≤ j ∧ Hid (Dk.St wx lo b bl nn v b' bl' cl' v' nn L W) ∧ Hid (Below w.heap.size w wx))
  case atStart => exact ⟨0, _, _, _, [], by omega, Nat.zero_le _, rfl, by simp, HS0, HB0⟩
  case round =>
    obtain ⟨j, v, v', L, W, hjg, hjl0, rfl, hWj, HS, HB⟩ := hrel
    clear HS0 HB0
    by_cases hgo : j < len1 ∧ j < 60
    · obtain ⟨hlt, hN⟩ := hgo
      obtain ⟨bA, oA, K, B, AX, cX, xs, AK, cK, ks, hA, hr, hX, hxl, hK, hkl⟩ := Dk.deed_at HLW.out HR1.out HB.out hlt
      have HRA : Hid (wr.rangeAt bA (oA + j * 4) [.int .i64 K, .int .i64 B, .slice AX xs.length cX, .slice AK ks.length cK]) := hr
      have HDD : Hid (Rd .u8 wr 0 lo AX xs ∧ xs.length ≤ 9223372036854775807 ∧ Dk.BlL wr lo AK ks ∧ ks.length ≤ maxLen) := ⟨hX, hxl, hK, hkl⟩
      subst hA
      clear hr hX hxl hK hkl
      have hjl : (j : Int) < (len1 : Int) := by omega
      go_wp2_with (first | (refine wpList_load_mid rfl 31 _ rfl bA (oA + j * 4) rfl [.int .i64 K, .int .i64 B, .slice AX xs.length cX, .slice AK ks.length cK] _ HRA.out Try.underlying31 rfl Dk.infoDeed ?_))
      refine (Dk.does_c K B AX cX xs AK cK ks HS.out (by omega) HDD.out.1 HDD.out.2.1 HDD.out.2.2.1 HDD.out.2.2.2).mono ?_
      rintro e w3 ⟨rfl, v3, v3', L3, W3, hS3, hW3, hb3⟩
      have HS3 : Hid (Dk.St w3 lo b bl nn v3 b' bl' cl' v3' nn L3 W3) := hS3
      have HB3 : Hid (Below w.heap.size w w3) := HB.out.trans (hb3.mono HLW.out)
      have HLT : Hid (bA < w.heap.size) := Dk.deed_lt HR1.out hlt
      have HR3 : Hid (Below w.heap.size wr w3) := hb3.mono HLW.out
      clear hS3 hb3
      go_wp2_with fail
      refine (Dk.same_c HS3.out (by omega)).mono ?_
      rintro e w4 ⟨rfl, k4⟩
      have HS4 : Hid (Dk.St w4 lo b bl nn v3 b' bl' cl' v3' nn L3 W3) := HS3.out.keep0 k4
      have HB4 : Hid (Below w.heap.size w w4) := HB3.out.trans (k4.below HB3.out.size (by simp))
      have HR4 : Hid (Below w.heap.size wr w4) := HR3.out.trans (k4.below HB3.out.size (by simp))
      clear k4
      have hcB := (HR4.out.cell (p := ⟨bA, oA + j * 4 + 1, none⟩) HLT.out).trans (range_cells HRA.out 1 _ rfl)
      go_wp2_with fail
      refine (Dk.read_any B HS4.out.d (by omega)).mono ?_
      rintro e w5 ⟨y, rfl, k5⟩
      have hzd := Dk.zData
      have HS5 : Hid (Dk.St (w5.alloc (.cells (Dk.dv y).toArray 34)) lo b bl nn v3 b' bl' cl' v3' nn L3 W3) := (HS4.out.keep0 k5).keep0 ((But.refl [] w5).alloc _)
      have hb5 : Below w.heap.size w4 (w5.alloc (.cells (Dk.dv y).toArray 34)) := (k5.alloc _).below HB4.out.size (by simp)
      have HB5 : Hid (Below w.heap.size w (w5.alloc (.cells (Dk.dv y).toArray 34))) := HB4.out.trans hb5
      have HR5 : Hid (Below w.heap.size wr (w5.alloc (.cells (Dk.dv y).toArray 34))) := HR4.out.trans hb5
      clear k5 hb5 hcB
      go_upto_region 10 with (refine Dk.wpList_store_new rfl 34 _ _ rfl (Dk.dv Dk.d0).toArray (Dk.dv y).toArray rfl rfl (Dk.iData' _) (by rw [Dk.dvs, Dk.dvs]) (Dk.dv_all _) ?_)
      obtain ⟨g5, hg5⟩ : ∃ g5, g5 = w5.heap.size := ⟨_, rfl⟩
      rw [← hg5]
      generalize w5.alloc (.cells (Dk.dv y).toArray 34) = w6 at HS5 HB5 HR5 ⊢
      clear hg5 hzd
      have hcB := (HR5.out.cell (p := ⟨bA, oA + j * 4 + 1, none⟩) HLT.out).trans (range_cells HRA.out 1 _ rfl)
      go_wp2_with fail
      refine (Dk.rin_c B HS5.out.x).mono ?_
      rintro e w7 ⟨rfl, rfl⟩
      go_wp2
      go_roundg (60 - (j + 1))
      case measure => omega
      case rel => exact ⟨j + 1, v3, v3', L3, W3, by omega, by omega, by go_num, by omega, HS5, HB5⟩
    · by_cases hlt : j < len1
      · obtain rfl : j = 60 := by omega
        go_wp2_with fail
        refine (Dk.awake_c _).mono ?_
        rintro e w9 ⟨rfl, k9⟩
        have HB9 : Hid (Below w.heap.size w w9) := HB.out.trans (k9.below HB.out.size (by simp))
        clear k9
        go_wp2
        go_ret
        exact ⟨rfl, HB9.out⟩
      · go_wp2_with fail
        refine (Dk.awake_c _).mono ?_
        rintro e w9 ⟨rfl, k9⟩
        have HB9 : Hid (Below w.heap.size w w9) := HB.out.trans (k9.below HB.out.size (by simp))
        clear k9
        go_wp2
        go_ret
        exact ⟨rfl, HB9.out⟩

set_option maxRecDepth 100000 in
theorem lifted (os : Os) (started : os.Started) (H : Type) (enc : TypeId × Value → H) :
    ReturnsInHanded {} Try.checked os 3 .any (Rows.diskPlaysSpec.pre6 enc Try.prog Try.f3 Rows.diskPlaysRow.domain false) (Rows.diskPlaysSpec.post enc Try.prog Try.f3 false true false false) := by
  refine returnsInHanded_of_change (C := Try.checked) own started (by kernel_rfl) Try.func3
    (ChangeSpec.witness6 (enc := enc) (C := Try.checked) false ⟨#[], #[.int .i64 0, .slice none 0 0], []⟩ 8 (by kernel_rfl) (by kernel_rfl) (by kernel_rfl) (by kernel_rfl)) ?_
  intro W base args ds gs before hval0 hW hcnd _
  have hval : ∀ (j : Nat) t v, Try.f3.params[j]? = some t → args[j]? = some v → Value.okWide Try.prog W .any base t v := hval0
  have hW' := hW
  obtain ⟨p, q, hA0, hV, rfl, hfz, hnd⟩ := hW
  have hA : DataW.TrodAll enc Try.prog W 0 (fun _ => true) true Try.f3.params.toList args.toList ds p := hA0
  rw [Try.params3] at hA hval
  obtain ⟨v0, vs0, d0, ds0, p0, q0, hargs, rfl, rfl, h0, t0⟩ := trodAll_cons hA
  obtain ⟨v1, vs1, d1, ds1, p1, q1, rfl, rfl, rfl, h1, t1⟩ := trodAll_cons t0
  obtain ⟨rfl, rfl, rfl⟩ := trodAll_nil t1
  obtain rfl : args = #[v0, v1] := by cases args; simp_all
  obtain ⟨rfl, rfl⟩ := trodVars_none hV
  have k0 := h0
  have lt0 : ∀ x ∈ p0, x.block < W.heap.size := by obtain ⟨m, hm⟩ := k0; exact DataW.trod_lt m _ _ _ hm
  have k1 := h1
  have lt1 : ∀ x ∈ p1, x.block < W.heap.size := by obtain ⟨m, hm⟩ := k1; exact DataW.trod_lt m _ _ _ hm
  obtain ⟨a0, rfl, rfl, rfl, w0⟩ := open_int Try.underlying3 (hval 0 3 v0 rfl rfl) h0
  obtain ⟨A1, len1, cap1, rfl⟩ := okWide_slice Try.underlying22 (hval 1 22 v1 rfl rfl)
  have r1 := Dk.deeds_open h1
  clear hA0 hval0
  refine (walk W a0 w0 A1 len1 cap1 r1).mono fun e W' ⟨he, hg⟩ => ?_
  subst he
  exact ⟨_, rfl, _, _, _, [], _, [], hW', (trodAll_cons_mk (shut_bool Try.underlying4 _) trodAll_mk0), (trodAll_cons_mk (Below.trod laidOut (by kernel_rfl) (of_decide_eq_true (by kernel_rfl)) k0 hg lt0) (trodAll_cons_mk (Below.trod laidOut (by kernel_rfl) (of_decide_eq_true (by kernel_rfl)) k1 hg lt1) trodAll_mk0)), rfl, hg.frame _, (fun h => by cases h)⟩

theorem over : Rows.diskPlaysRow.holds Try.pinned (OpenSpec.ofChange Rows.diskPlaysSpec) :=
  OpenClaim.holds_of_wide 3 Try.f3 rfl rfl rfl rfl rfl rfl rfl ⟨rfl, rfl, rfl, rfl, rfl⟩ rfl rfl rfl rfl rfl (by kernel_rfl) Try.func3 (by kernel_rfl)
    (of_decide_eq_true (by kernel_rfl)) (by unfold Func.isWrapper; first | (rw [if_pos (by decide +kernel)]; kernel_rfl) | (rw [if_neg (by decide +kernel)]; exact ⟨rfl, rfl⟩))
    (fun os started H enc _ => lifted os started H enc)
end Go.Proofs.Ytnjnplepecmfaaa.diskPlays
namespace Go.Proofs.Ytnjnplepecmfaaa
/-- The statement, by its short name. -/
theorem diskPlays_holds : Rows.DiskPlaysSaid := diskPlays.over
#print axioms diskPlays_holds
end Go.Proofs.Ytnjnplepecmfaaa
