/-
  Whatever the input, the Go function DiskTwins answers true, and its arguments read behind the call as they read before. No condition.
-/
import Derived.Test.YtnjnplepecmfaaaRows
import Derived.Test.YtnjnplepecmfaaaDkHead
import Derived.WalkKit
import Derived.Deep.LoopGhost
import Derived.Deep.CutBlock
import Derived.Deep.CutRange
import Derived.Deep.DeepCutAuto
import Derived.Deep.RegionHeld3
import Derived.ProofKit
import Derived.OpenShut
import Derived.ShutString
import Derived.ChangeOld
import Derived.Below
import Derived.Carry
namespace Go.Proofs.Ytnjnplepecmfaaa.diskTwins
open Go.ChangeShapes Go.WideShapes Go.ChangeAt Go.RowKit
open Go.ChangeMaps (open_string shut_string)
set_option linter.unusedVariables false

theorem own : ownKnob Try.prog.godebug = none := by kernel_rfl
theorem laidOut : laidOutB Try.prog = true := by kernel_rfl

set_option maxHeartbeats 4000000 in
set_option maxRecDepth 100000 in
theorem walk (w : World) (A0 : Option Addr) (len0 cap0 : Nat) (r0 : Dk.Deeds w A0 len0 cap0) (c1 : Array Value) (f1 : Dk.DeedAgg w c1) :
    Calls Try.prog 5 #[.slice A0 len0 cap0, .agg c1] w fun e w' => e = .returned (.bool true) ∧ Below w.heap.size w w' := by
  obtain ⟨hlc0, hcm0, hrow0⟩ := r0
  have HR0 : Hid (len0 = 0 ∨ ∃ b off, A0 = some ⟨b, off, none⟩ ∧ b < w.heap.size ∧ ∀ i, i < len0 → ∃ vs, w.rangeAt b (off + i * 4) vs ∧ Dk.DeedOk w vs) := hrow0
  unfold maxLen at hcm0
  clear hrow0
  obtain ⟨Ke, Be, AXe, cXe, xse, AKe, cKe, kse, hce, hXe, hxle, hKe, hkle⟩ := f1
  obtain rfl : c1 = (Dk.deedL Ke Be AXe xse.length cXe AKe kse.length cKe).toArray := by rw [← hce]
  clear hce hKe hkle
  obtain ⟨lxe, hlxe⟩ : ∃ l, l = xse.length := ⟨_, rfl⟩
  obtain ⟨lke, hlke⟩ : ∃ l, l = kse.length := ⟨_, rfl⟩
  have HLE : Hid (lxe = xse.length) := hlxe
  have HXE : Hid (Rd .u8 w 0 w.heap.size AXe xse) := hXe
  have HXLE : Hid (xse.length ≤ 9223372036854775807) := hxle
  unfold Dk.deedL
  rw [← hlxe, ← hlke]
  obtain ⟨g, hg⟩ : ∃ g, g = w.heap.size := ⟨_, rfl⟩
  obtain ⟨lo, hlo⟩ : ∃ lo, lo = w.heap.size + 1 := ⟨_, rfl⟩
  have HLW : Hid (w.heap.size ≤ lo) := by show _ ≤ lo; omega
  have HGL : Hid (g < lo ∧ g = w.heap.size) := ⟨by omega, hg⟩
  have hbx := Dk.Box.new w Ke Be AXe lxe cXe AKe lke cKe
  have hbl0 : Below w.heap.size w (w.alloc (.cells #[.int .i64 Ke, .int .i64 Be, .slice AXe lxe cXe, .slice AKe lke cKe] 31)) := (Below.refl _ _).alloc (Nat.le_refl _) _
  have hsz : (w.alloc (.cells #[.int .i64 Ke, .int .i64 Be, .slice AXe lxe cXe, .slice AKe lke cKe] 31)).heap.size = lo := by rw [hlo]; simp
  clear hXe hxle hlxe hlke hlo
  go_enter Try.func5, Try.ntmps5
  go_upto_region 1 with fail
  rw [← hg] at hbx ⊢
  generalize w.alloc (.cells #[.int .i64 Ke, .int .i64 Be, .slice AXe lxe cXe, .slice AKe lke cKe] 31) = wq at hbx hbl0 hsz ⊢
  have HBQ : Hid (Dk.Box wq g Ke Be AXe lxe cXe AKe lke cKe) := hbx
  have HBL0 : Hid (Below w.heap.size w wq) := hbl0
  have HSZ : Hid (wq.heap.size = lo) := hsz
  clear hbx hbl0 hsz hg
  go_wp2_with fail
  refine (Dk.new_c 5 _ (by omega) (by omega)).mono ?_
  rintro e w1 ⟨b, bl, rfl, D1, k1⟩
  have HD1 : Hid (Dk.DkAt Dk.tP w1 lo b bl 5 5 (.slice none 0 0) Dk.L0 []) := by show Dk.DkAt _ _ _ _ _ _ _ _ _ _; rw [← HSZ.out]; exact D1
  have HQ1 : Hid (Below lo wq w1) := k1.below (by have := HSZ.out; omega) (by simp)
  have HK1 : Hid (Below w.heap.size w w1) := HBL0.out.trans (k1.below HBL0.out.size (by simp))
  clear D1 k1
  go_wp2_with fail
  refine (Dk.rnew_c 5 _ (by omega) (by omega)).mono ?_
  rintro e w2 ⟨b', bl', cl', rfl, X2, k2⟩
  have hs1 := HK1.out.size
  have hlo1 : lo ≤ w1.heap.size := by have h1 := HD1.out.lob; have h2 := HD1.out.lt Dk.fp_b; omega
  have HS0 : Hid (Dk.St w2 lo b bl 5 (.slice none 0 0) b' bl' cl' (.slice none 0 0) 5 Dk.L0 []) := Dk.st_new HD1.out X2 k2 hlo1
  have HQ0 : Hid (Below lo wq w2) := HQ1.out.trans (k2.below hlo1 (by simp))
  have HB0 : Hid (Below w.heap.size w w2) := HK1.out.trans (k2.below hs1 (by simp))
  clear X2 k2 hs1
  go_upto_block 0 with fail
  go_cut [7] (fun s7 wx => ∃ (v v' : Value) (L : Nat → Dk.Dat) (W : List Dk.Wr), Hid (Dk.St wx lo b bl 5 v b' bl' cl' v' 5 L W) ∧ W.length ≤ 30 ∧ Hid (Below w.heap.size w wx) ∧ Hid (Below lo wq wx))
  case first =>
    go_wp2_with fail
    go_loopg [7] 30 (fun g0 iv wx => ∃ (j : Nat) (v v' : Value) (L : Nat → Dk.Dat) (W : List Dk.Wr), j + g0 = 30 ∧ j ≤ len0 ∧ iv = .int .i64 j ∧ W.length ≤ j ∧ Hid (Dk.St wx lo b bl 5 v b' bl' cl' v' 5 L W) ∧ Hid (Below w.heap.size w wx) ∧ Hid (Below lo wq wx))
    case atStart => exact ⟨0, _, _, _, [], by omega, Nat.zero_le _, rfl, by simp, HS0, HB0, HQ0⟩
    case round =>
      obtain ⟨j, v, v', L, W, hjg, hjl0, rfl, hWj, HS, HB, HQ⟩ := hrel
      clear HS0 HB0 HQ0
      by_cases hgo : j < len0 ∧ j < 30
      · obtain ⟨hlt, hN⟩ := hgo
        obtain ⟨bA, oA, K, B, AX, cX, xs, AK, cK, ks, hA, hr, hX, hxl, hK, hkl⟩ := Dk.deed_at HLW.out HR0.out HB.out hlt
        have HRA : Hid (wr.rangeAt bA (oA + j * 4) [.int .i64 K, .int .i64 B, .slice AX xs.length cX, .slice AK ks.length cK]) := hr
        have HDD : Hid (Rd .u8 wr 0 lo AX xs ∧ xs.length ≤ 9223372036854775807 ∧ Dk.BlL wr lo AK ks ∧ ks.length ≤ maxLen) := ⟨hX, hxl, hK, hkl⟩
        subst hA
        clear hr hX hxl hK hkl
        have hjl : (j : Int) < (len0 : Int) := by omega
        go_wp2_with (first | (refine wpList_load_mid rfl 31 _ rfl bA (oA + j * 4) rfl [.int .i64 K, .int .i64 B, .slice AX xs.length cX, .slice AK ks.length cK] _ HRA.out Try.underlying31 rfl Dk.infoDeed ?_))
        refine (Dk.does_c K B AX cX xs AK cK ks HS.out (by omega) HDD.out.1 HDD.out.2.1 HDD.out.2.2.1 HDD.out.2.2.2).mono ?_
        rintro e w3 ⟨rfl, v3, v3', L3, W3, hS3, hW3, hb3⟩
        have HS3 : Hid (Dk.St w3 lo b bl 5 v3 b' bl' cl' v3' 5 L3 W3) := hS3
        have HB3 : Hid (Below w.heap.size w w3) := HB.out.trans (hb3.mono HLW.out)
        have HQ3 : Hid (Below lo wq w3) := HQ.out.trans hb3
        clear hS3 hb3
        go_wp2
        go_roundg (30 - (j + 1))
        case measure => omega
        case rel => exact ⟨j + 1, v3, v3', L3, W3, by omega, by omega, by go_num, by omega, HS3, HB3, HQ3⟩
      · by_cases hlt : j < len0
        · obtain rfl : j = 30 := by omega
          go_wp2
          go_meet
          case rel => exact ⟨v, v', L, W, HS, by omega, HB, HQ⟩
        · go_wp2
          go_meet
          case rel => exact ⟨v, v', L, W, HS, by omega, HB, HQ⟩
  case rest =>
    obtain ⟨v, v', L, W, HS, hWl, HB, HQ⟩ := hcut
    clear HS0 HB0 HQ0
    have HD : Hid (Dk.DkAt Dk.tP wc lo b bl 5 5 v L W) := HS.out.d
    have hloc : lo ≤ wc.heap.size := HS.out.lo_le
    have HLOC : Hid (lo ≤ wc.heap.size) := hloc
    go_wp2_with fail
    refine (Dk.twin_c HD.out (by omega)).mono ?_
    rintro e w3 ⟨bt, blt, clt, vt, rfl, DT, k3⟩
    have HT3 : Hid (Dk.St w3 lo bt blt clt vt b' bl' cl' v' 5 L W) := ⟨DT.lower HLOC.out, HS.out.x.keep0 k3, fun i hi hm => by have h1 := DT.low hi; have h2 := HS.out.x.lt hm; omega⟩
    have HTD : Hid (∀ i ∈ Dk.fp bt blt vt, wc.heap.size ≤ i) := fun i hi => DT.low hi
    have HD3 : Hid (Dk.DkAt Dk.tP w3 lo b bl 5 5 v L W) := HD.out.keep0 k3
    have HB3 : Hid (Below w.heap.size w w3) := HB.out.trans (k3.below HB.out.size (by simp))
    have HQ3 : Hid (Below lo wq w3) := HQ.out.trans (k3.below HLOC.out (by simp))
    have HDL : Hid (∀ i ∈ Dk.fp b bl v, i < wc.heap.size) := fun i hi => HD.out.lt hi
    clear DT k3 hloc
    go_wp2_with fail
    refine (Dk.same_c HT3.out (by omega)).mono ?_
    rintro e w4 ⟨rfl, k4⟩
    have HT4 : Hid (Dk.St w4 lo bt blt clt vt b' bl' cl' v' 5 L W) := HT3.out.keep0 k4
    have HD4 : Hid (Dk.DkAt Dk.tP w4 lo b bl 5 5 v L W) := HD3.out.keep0 k4
    have HB4 : Hid (Below w.heap.size w w4) := HB3.out.trans (k4.below HB3.out.size (by simp))
    have HQ4 : Hid (Below lo wq w4) := HQ3.out.trans (k4.below (by have h1 := HLOC.out; have h2 := HT3.out.lo_le; omega) (by simp))
    clear k4 HT3 HD3 HB3 HQ3
    have hcc : w4.cell? ⟨g, 1, none⟩ = some (.int .i64 Be) ∧ w4.cell? ⟨g, 2, none⟩ = some (.slice AXe lxe cXe) := ⟨(HQ4.out.cell (p := ⟨g, 1, none⟩) HGL.out.1).trans HBQ.out.b, (HQ4.out.cell (p := ⟨g, 2, none⟩) HGL.out.1).trans HBQ.out.x⟩
    have HRX : Hid (Rd .u8 w4.drew 0 w4.drew.heap.size AXe xse) := (HXE.out.keep HB4.out.drew).wider (Nat.le_refl _) HB4.out.drew.size
    have HGN : Hid (g ∉ Dk.fp b bl v) := fun hm => by have h1 := HD4.out.low hm; have h2 := HGL.out.1; omega
    go_wp2
    go_region_held3 (fun w' => w'.cell? ⟨g, 1, none⟩ = some (.int .i64 Be) ∧ w'.cell? ⟨g, 2, none⟩ = some (.slice AXe lxe cXe))
      (first | assumption | exact Dk.s2_keep (l := []) hcc (But.refl [] w4).drew (by simp) | exact hS5 | exact hS6)
      (first
        | (go_at_call 18
           rw [HLE.out]
           refine (Dk.of_c AXe cXe xse _ HRX.out HXLE.out).mono ?_
           rw [← HLE.out]
           rintro e w5 ⟨rfl, hb5⟩
           have HB5 : Hid (But [] w4 w5) := (But.refl [] w4).drew.trans hb5
           have hS5 := Dk.s2_keep (l := []) hcc HB5.out (by simp)
           clear hb5)
        | (go_at_call 17
           refine (Dk.write_any Be _ (HD4.out.keep0 HB5.out) (by omega) (by have h1 := HD4.out.lob; have h2 := HD4.out.lt Dk.fp_b; have h3 := HB5.out.size; omega)).mono ?_
           rintro e w6 ⟨rfl, u, W6, hD6, hk6, hf6, hW6⟩
           have hl6 : W6.length ≤ W.length + 1 := by rw [hW6]; exact Dk.wany_len
           have HD6 : Hid (Dk.DkAt Dk.tP w6 lo b bl 5 5 u L W6) := hD6
           have HK6 : Hid (But (Dk.fp b bl v) w5 w6) := hk6
           have hS6 := Dk.s2_keep hS5 hk6 HGN.out
           clear hD6 hk6 hf6 hW6))
    clear hS5 hS6 hcc
    have HAP : Hid (∀ i ∈ Dk.fp bt blt vt, i ∉ Dk.fp b bl v) := fun i hi hm => by have h1 := HTD.out i hi; have h2 := HDL.out i hm; omega
    have HT6 : Hid (Dk.St w6 lo bt blt clt vt b' bl' cl' v' 5 L W) := ⟨(HT4.out.d.keep0 HB5.out).keep HK6.out HAP.out, (HT4.out.x.keep0 HB5.out).keep HK6.out HS.out.pa, HT4.out.ap⟩
    have HB6 : Hid (Below w.heap.size w w6) := (HB4.out.trans (HB5.out.below HB4.out.size (by simp))).trans (HK6.out.below (by have h1 := HB4.out.size; have h2 := HB5.out.size; omega) (fun i hi => by have h1 := HD4.out.low hi; have h2 := HLW.out; omega))
    go_wp2_with fail
    refine (Dk.flush_c HD6.out (by omega)).mono ?_
    rintro e w7 ⟨rfl, -, k7⟩
    have hbb : ∀ i ∈ [b, bl], i ∈ Dk.fp b bl v := fun i hi => by simp at hi; rcases hi with rfl | rfl; exact Dk.fp_b; exact Dk.fp_bl
    have HT7 : Hid (Dk.St w7 lo bt blt clt vt b' bl' cl' v' 5 L W) := ⟨HT6.out.d.keep k7 (fun i hi hm => HAP.out i hi (hbb i hm)), HT6.out.x.keep k7 (fun i hi hm => HS.out.pa i hi (hbb i hm)), HT6.out.ap⟩
    have HB7 : Hid (Below w.heap.size w w7) := HB6.out.trans (k7.below HB6.out.size (fun i hi => by have h1 := HD4.out.low (hbb i hi); have h2 := HLW.out; omega))
    clear k7 hbb
    go_wp2_with fail
    refine (Dk.same_c HT7.out (by omega)).mono ?_
    rintro e w8 ⟨rfl, k8⟩
    have HB8 : Hid (Below w.heap.size w w8) := HB7.out.trans (k8.below HB7.out.size (by simp))
    clear k8
    go_wp2_with fail
    refine (Dk.awake_c _).mono ?_
    rintro e w9 ⟨rfl, k9⟩
    have HB9 : Hid (Below w.heap.size w w9) := HB8.out.trans (k9.below HB8.out.size (by simp))
    clear k9
    go_wp2
    go_ret
    exact ⟨rfl, HB9.out⟩

set_option maxRecDepth 100000 in
theorem lifted (os : Os) (started : os.Started) (H : Type) (enc : TypeId × Value → H) :
    ReturnsInHanded {} Try.checked os 5 .any (Rows.diskTwinsSpec.pre6 enc Try.prog Try.f5 Rows.diskTwinsRow.domain false) (Rows.diskTwinsSpec.post enc Try.prog Try.f5 false true false false) := by
  refine returnsInHanded_of_change (C := Try.checked) own started (by kernel_rfl) Try.func5
    (ChangeSpec.witness6 (enc := enc) (C := Try.checked) false ⟨#[], #[.slice none 0 0, .agg #[.int .i64 0, .int .i64 0, .slice none 0 0, .slice none 0 0]], []⟩ 8 (by kernel_rfl) (by kernel_rfl) (by kernel_rfl) (by kernel_rfl)) ?_
  intro W base args ds gs before hval0 hW hcnd _
  have hval : ∀ (j : Nat) t v, Try.f5.params[j]? = some t → args[j]? = some v → Value.okWide Try.prog W .any base t v := hval0
  have hW' := hW
  obtain ⟨p, q, hA0, hV, rfl, hfz, hnd⟩ := hW
  have hA : DataW.TrodAll enc Try.prog W 0 (fun _ => true) true Try.f5.params.toList args.toList ds p := hA0
  rw [Try.params5] at hA hval
  obtain ⟨v0, vs0, d0, ds0, p0, q0, hargs, rfl, rfl, h0, t0⟩ := trodAll_cons hA
  obtain ⟨v1, vs1, d1, ds1, p1, q1, rfl, rfl, rfl, h1, t1⟩ := trodAll_cons t0
  obtain ⟨rfl, rfl, rfl⟩ := trodAll_nil t1
  obtain rfl : args = #[v0, v1] := by cases args; simp_all
  obtain ⟨rfl, rfl⟩ := trodVars_none hV
  have k0 := h0
  have lt0 : ∀ x ∈ p0, x.block < W.heap.size := by obtain ⟨m, hm⟩ := k0; exact DataW.trod_lt m _ _ _ hm
  have k1 := h1
  have lt1 : ∀ x ∈ p1, x.block < W.heap.size := by obtain ⟨m, hm⟩ := k1; exact DataW.trod_lt m _ _ _ hm
  obtain ⟨A0, len0, cap0, rfl⟩ := okWide_slice Try.underlying22 (hval 0 22 v0 rfl rfl)
  have r0 := Dk.deeds_open h0
  obtain ⟨c1, rfl, -⟩ := okWide_struct Try.underlying31 (hval 1 31 v1 rfl rfl)
  have f1 := Dk.deed_open h1
  clear hA0 hval0
  refine (walk W A0 len0 cap0 r0 c1 f1).mono fun e W' ⟨he, hg⟩ => ?_
  subst he
  exact ⟨_, rfl, _, _, _, [], _, [], hW', (trodAll_cons_mk (shut_bool Try.underlying4 _) trodAll_mk0), (trodAll_cons_mk (Below.trod laidOut (by kernel_rfl) (of_decide_eq_true (by kernel_rfl)) k0 hg lt0) (trodAll_cons_mk (Below.trod laidOut (by kernel_rfl) (of_decide_eq_true (by kernel_rfl)) k1 hg lt1) trodAll_mk0)), rfl, hg.frame _, (fun h => by cases h)⟩

theorem over : Rows.diskTwinsRow.holds Try.pinned (OpenSpec.ofChange Rows.diskTwinsSpec) :=
  OpenClaim.holds_of_wide 5 Try.f5 rfl rfl rfl rfl rfl rfl rfl ⟨rfl, rfl, rfl, rfl, rfl⟩ rfl rfl rfl rfl rfl (by kernel_rfl) Try.func5 (by kernel_rfl)
    (of_decide_eq_true (by kernel_rfl)) (by unfold Func.isWrapper; first | (rw [if_pos (by decide +kernel)]; kernel_rfl) | (rw [if_neg (by decide +kernel)]; exact ⟨rfl, rfl⟩))
    (fun os started H enc _ => lifted os started H enc)
end Go.Proofs.Ytnjnplepecmfaaa.diskTwins
namespace Go.Proofs.Ytnjnplepecmfaaa
/-- The statement, by its short name. -/
theorem diskTwins_holds : Rows.DiskTwinsSaid := diskTwins.over
#print axioms diskTwins_holds
end Go.Proofs.Ytnjnplepecmfaaa
