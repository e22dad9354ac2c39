/-
  Whatever the input, the Go function DiskSettles answers true, and its arguments read behind the call as they read before. No condition.
-/
import Derived.Test.YtnjnplepecmfaaaRows
import Derived.Test.YtnjnplepecmfaaaDkHead
import Derived.Test.YtnjnplepecmfaaaDkSet
import Derived.WalkKit
import Derived.Deep.LoopGhost
import Derived.Deep.CutBlock
import Derived.Deep.CutRange
import Derived.Deep.DeepCutAuto
import Derived.Deep.RegionHeld3
import Derived.ProofKit
import Derived.OpenShut
import Derived.ShutString
import Derived.ChangeOld
import Derived.Below
import Derived.Carry
namespace Go.Proofs.Ytnjnplepecmfaaa.diskSettles
open Go.ChangeShapes Go.WideShapes Go.ChangeAt Go.RowKit
open Go.ChangeMaps (open_string shut_string)
set_option linter.unusedVariables false

theorem own : ownKnob Try.prog.godebug = none := by kernel_rfl
theorem laidOut : laidOutB Try.prog = true := by kernel_rfl

set_option maxHeartbeats 4000000 in
set_option maxRecDepth 100000 in
theorem walk (w : World) (A0 : Option Addr) (len0 cap0 : Nat) (r0 : Dk.Deeds w A0 len0 cap0) (a1 : Int) (w1 : (Lit.int .i64 a1).wf = true) (A2 : Option Addr) (len2 cap2 : Nat) (r2 : Dk.Bools w A2 len2 cap2) :
    Calls Try.prog 7 #[.slice A0 len0 cap0, .int .i64 a1, .slice A2 len2 cap2] w fun e w' => e = .returned (.bool true) ∧ Below w.heap.size w w' := by
  obtain ⟨hlc0, hcm0, hrow0⟩ := r0
  have HR0 : Hid (len0 = 0 ∨ ∃ b off, A0 = some ⟨b, off, none⟩ ∧ b < w.heap.size ∧ ∀ i, i < len0 → ∃ vs, w.rangeAt b (off + i * 4) vs ∧ Dk.DeedOk w vs) := hrow0
  unfold maxLen at hcm0
  clear hrow0
  obtain ⟨ksz, hksl, hbk, hkl⟩ := r2
  have HBK : Hid (Dk.Bl w A2 ksz) := hbk
  have HKL : Hid (ksz.length ≤ maxLen) := by show _ ≤ _; rw [hksl]; exact hkl
  have HKZ : Hid (ksz.length = len2) := hksl
  obtain ⟨g, hg⟩ : ∃ g, g = w.heap.size := ⟨_, rfl⟩
  obtain ⟨lo, hlo⟩ : ∃ lo, lo = w.heap.size + 1 := ⟨_, rfl⟩
  have HLW : Hid (w.heap.size ≤ lo) := by show _ ≤ lo; omega
  have HGL : Hid (g < lo ∧ g = w.heap.size) := ⟨by omega, hg⟩
  have hbx : (w.alloc (.cells #[.int .i64 a1] 3)).cell? ⟨w.heap.size, 0, none⟩ = some (.int .i64 a1) := cell_one_new w (.int .i64 a1) 3 0 _ rfl
  have hbl0 : Below w.heap.size w (w.alloc (.cells #[.int .i64 a1] 3)) := (Below.refl _ _).alloc (Nat.le_refl _) _
  have hsz : (w.alloc (.cells #[.int .i64 a1] 3)).heap.size = lo := by rw [hlo]; simp
  have hmf : ∀ (fn : Fn) (first cap : Array Value) (w : World), (Instr.makeFunc fn first cap).run Try.prog w = .ok (.func fn first cap) w := fun _ _ _ _ => rfl
  clear hlo w1 hksl hbk hkl
  go_enter Try.func7, Try.ntmps7
  go_upto_region 1 with fail
  rw [← hg] at hbx ⊢
  generalize w.alloc (.cells #[.int .i64 a1] 3) = wq at hbx hbl0 hsz ⊢
  have HBQ : Hid (wq.cell? ⟨g, 0, none⟩ = some (.int .i64 a1)) := hbx
  have HBL0 : Hid (Below w.heap.size w wq) := hbl0
  have HSZ : Hid (wq.heap.size = lo) := hsz
  clear hbx hbl0 hsz hg
  go_wp2_with fail
  refine (Dk.new_c 6 _ (by omega) (by omega)).mono ?_
  rintro e w1 ⟨b, bl, rfl, D1, k1⟩
  have HD1 : Hid (Dk.DkAt Dk.tP w1 lo b bl 6 6 (.slice none 0 0) Dk.L0 []) := by show Dk.DkAt _ _ _ _ _ _ _ _ _ _; rw [← HSZ.out]; exact D1
  have HQ1 : Hid (Below lo wq w1) := k1.below (by have := HSZ.out; omega) (by simp)
  have HK1 : Hid (Below w.heap.size w w1) := HBL0.out.trans (k1.below HBL0.out.size (by simp))
  clear D1 k1
  go_wp2_with fail
  refine (Dk.rnew_c 6 _ (by omega) (by omega)).mono ?_
  rintro e w2 ⟨b', bl', cl', rfl, X2, k2⟩
  have hs1 := HK1.out.size
  have hlo1 : lo ≤ w1.heap.size := by have h1 := HD1.out.lob; have h2 := HD1.out.lt Dk.fp_b; omega
  have HS0 : Hid (Dk.St w2 lo b bl 6 (.slice none 0 0) b' bl' cl' (.slice none 0 0) 6 Dk.L0 []) := Dk.st_new HD1.out X2 k2 hlo1
  have HQ0 : Hid (Below lo wq w2) := HQ1.out.trans (k2.below hlo1 (by simp))
  have HB0 : Hid (Below w.heap.size w w2) := HK1.out.trans (k2.below hs1 (by simp))
  clear X2 k2 hs1
  go_upto_block 0 with fail
  go_cut [9] (fun s9 wx => ∃ (v v' : Value) (L : Nat → Dk.Dat) (W : List Dk.Wr), Hid (Dk.St wx lo b bl 6 v b' bl' cl' v' 6 L W) ∧ W.length ≤ 30 ∧ Hid (Below w.heap.size w wx) ∧ Hid (Below lo wq wx))
  case first =>
    go_wp2_with fail
    go_loopg [9] 30 (fun g0 iv wx => ∃ (j : Nat) (v v' : Value) (L : Nat → Dk.Dat) (W : List Dk.Wr), j + g0 = 30 ∧ j ≤ len0 ∧ iv = .int .i64 j ∧ W.length ≤ j ∧ Hid (Dk.St wx lo b bl 6 v b' bl' cl' v' 6 L W) ∧ Hid (Below w.heap.size w wx) ∧ Hid (Below lo wq wx))
    case atStart => exact ⟨0, _, _, _, [], by omega, Nat.zero_le _, rfl, by simp, HS0, HB0, HQ0⟩
    case round =>
      obtain ⟨j, v, v', L, W, hjg, hjl0, rfl, hWj, HS, HB, HQ⟩ := hrel
      clear HS0 HB0 HQ0
      by_cases hgo : j < len0 ∧ j < 30
      · obtain ⟨hlt, hN⟩ := hgo
        obtain ⟨bA, oA, K, B, AX, cX, xs, AK, cK, ks, hA, hr, hX, hxl, hK, hkl⟩ := Dk.deed_at HLW.out HR0.out HB.out hlt
        have HRA : Hid (wr.rangeAt bA (oA + j * 4) [.int .i64 K, .int .i64 B, .slice AX xs.length cX, .slice AK ks.length cK]) := hr
        have HDD : Hid (Rd .u8 wr 0 lo AX xs ∧ xs.length ≤ 9223372036854775807 ∧ Dk.BlL wr lo AK ks ∧ ks.length ≤ maxLen) := ⟨hX, hxl, hK, hkl⟩
        subst hA
        clear hr hX hxl hK hkl
        have hjl : (j : Int) < (len0 : Int) := by omega
        go_wp2_with (first | (refine wpList_load_mid rfl 31 _ rfl bA (oA + j * 4) rfl [.int .i64 K, .int .i64 B, .slice AX xs.length cX, .slice AK ks.length cK] _ HRA.out Try.underlying31 rfl Dk.infoDeed ?_))
        refine (Dk.does_c K B AX cX xs AK cK ks HS.out (by omega) HDD.out.1 HDD.out.2.1 HDD.out.2.2.1 HDD.out.2.2.2).mono ?_
        rintro e w3 ⟨rfl, v3, v3', L3, W3, hS3, hW3, hb3⟩
        have HS3 : Hid (Dk.St w3 lo b bl 6 v3 b' bl' cl' v3' 6 L3 W3) := hS3
        have HB3 : Hid (Below w.heap.size w w3) := HB.out.trans (hb3.mono HLW.out)
        have HQ3 : Hid (Below lo wq w3) := HQ.out.trans hb3
        clear hS3 hb3
        go_wp2
        go_roundg (30 - (j + 1))
        case measure => omega
        case rel => exact ⟨j + 1, v3, v3', L3, W3, by omega, by omega, by go_num, by omega, HS3, HB3, HQ3⟩
      · by_cases hlt : j < len0
        · obtain rfl : j = 30 := by omega
          go_wp2
          go_meet
          case rel => exact ⟨v, v', L, W, HS, by omega, HB, HQ⟩
        · go_wp2
          go_meet
          case rel => exact ⟨v, v', L, W, HS, by omega, HB, HQ⟩
  case rest =>
    obtain ⟨v, v', L, W, HS, hWl, HB, HQ⟩ := hcut
    clear HS0 HB0 HQ0
    have HGC : Hid (wc.cell? ⟨g, 0, none⟩ = some (.int .i64 a1)) := (HQ.out.cell (p := ⟨g, 0, none⟩) HGL.out.1).trans HBQ.out
    have hloc : lo ≤ wc.heap.size := HS.out.lo_le
    have HLOC : Hid (lo ≤ wc.heap.size) := hloc
    clear hloc
    go_wp2_with fail
    refine (Dk.dsettle_c g a1 HS.out.d (by omega) HGC.out HLOC.out).mono ?_
    rintro e w3 ⟨rfl, u3, hD3, k3, f3⟩
    have hsub : ∀ i ∈ [b, bl], i ∈ Dk.fp b bl v := fun i hi => by simp at hi; rcases hi with rfl | rfl; exact Dk.fp_b; exact Dk.fp_bl
    have hsub' : ∀ i ∈ [b', bl'], i ∈ Dk.fp b' bl' v' := fun i hi => by simp at hi; rcases hi with rfl | rfl; exact Dk.fp_b; exact Dk.fp_bl
    have HSB : Hid ((∀ i ∈ [b, bl], i ∈ Dk.fp b bl v) ∧ ∀ i ∈ [b', bl'], i ∈ Dk.fp b' bl' v') := ⟨hsub, hsub'⟩
    obtain ⟨Y, hY⟩ : ∃ Y, Y = Dk.yes a1 W := ⟨_, rfl⟩
    obtain ⟨N, hN⟩ : ∃ N, N = Dk.nay a1 W := ⟨_, rfl⟩
    have HYN : Hid (Y = Dk.yes a1 W ∧ N = Dk.nay a1 W) := ⟨hY, hN⟩
    have hNl : N.length ≤ 30 := by rw [hN]; exact Nat.le_trans (Dk.nay_le _ _) hWl
    rw [← hY, ← hN] at hD3
    rw [← hY]
    have HD3 : Hid (Dk.DkAt Dk.tP w3 lo b bl 6 6 u3 (Dk.setAll L Y) N) := hD3
    have HX3 : Hid (Dk.DkAt Dk.tR w3 lo b' bl' cl' 6 v' L W) := HS.out.x.keep k3 (fun i hi hm => HS.out.pa i hi (hsub i hm))
    have HF3 : Hid (∀ q, u3.ownBlock = some q → wc.heap.size ≤ q) := f3
    have HK3 : Hid (But [b, bl] wc w3) := k3
    have e3 : Below lo wc w3 := k3.below HLOC.out (fun i hi => HS.out.d.low (hsub i hi))
    have HQ3 : Hid (Below lo wq w3) := HQ.out.trans e3
    have HB3 : Hid (Below w.heap.size w w3) := HB.out.trans (e3.mono HLW.out)
    have hcg := (HQ3.out.cell (p := ⟨g, 0, none⟩) HGL.out.1).trans HBQ.out
    have HL3 : Hid (lo ≤ w3.heap.size) := Nat.le_trans HLOC.out k3.size
    obtain ⟨my, hmy⟩ : ∃ my, my = Y.length := ⟨_, rfl⟩
    have HMY : Hid (my = Y.length) := hmy
    rw [← hmy]
    clear hD3 k3 f3 hsub hsub' e3 hY hN hmy
    go_wp2_with fail
    refine (Dk.rsettle_c a1 HX3.out (by omega) HL3.out).mono ?_
    rintro e w4 ⟨rfl, u4, hX4, k4, f4⟩
    rw [← HYN.out.1, ← HYN.out.2] at hX4
    rw [← HYN.out.1, ← HMY.out]
    have HS4 : Hid (Dk.St w4 lo b bl 6 u3 b' bl' cl' u4 6 (Dk.setAll L Y) N) := ⟨HD3.out.keep k4 (fun i hi hm => by
      rcases Dk.mem_fp hi with rfl | rfl | e
      · exact HS.out.ap i Dk.fp_b (HSB.out.2 i hm)
      · exact HS.out.ap i Dk.fp_bl (HSB.out.2 i hm)
      · have h1 := HF3.out i e
        have h2 := HS.out.x.lt (HSB.out.2 i hm)
        omega), hX4, fun i hi hm => by
      rcases Dk.mem_fp hm with rfl | rfl | e
      · rcases Dk.mem_fp hi with h | h | h
        · exact HS.out.ap b (Dk.fp_b) (h ▸ Dk.fp_b)
        · exact HS.out.ap bl (Dk.fp_bl) (h ▸ Dk.fp_b)
        · have h1 := HF3.out _ h
          have h2 := HS.out.x.lt (k := i) Dk.fp_b
          omega
      · rcases Dk.mem_fp hi with h | h | h
        · exact HS.out.ap b (Dk.fp_b) (h ▸ Dk.fp_bl)
        · exact HS.out.ap bl (Dk.fp_bl) (h ▸ Dk.fp_bl)
        · have h1 := HF3.out _ h
          have h2 := HS.out.x.lt (k := i) Dk.fp_bl
          omega
      · have h1 := f4 i e
        have h2 := HD3.out.lt hi
        omega⟩
    have HB4 : Hid (Below w.heap.size w w4) := HB3.out.trans (k4.below HB3.out.size (fun i hi => by have h1 := HS.out.x.low (HSB.out.2 i hi); have h2 := HLW.out; omega))
    clear hX4 k4 f4 hcg
    go_wp2_with fail
    refine (Dk.same_c HS4.out (by omega)).mono ?_
    rintro e w5 ⟨rfl, k5⟩
    have HS5 : Hid (Dk.St w5 lo b bl 6 u3 b' bl' cl' u4 6 (Dk.setAll L Y) N) := HS4.out.keep0 k5
    have HB5 : Hid (Below w.heap.size w w5) := HB4.out.trans (k5.below HB4.out.size (by simp))
    clear k5
    go_wp2_with fail
    rw [← HKZ.out]
    refine (Dk.crash_c A2 cap2 ksz HS5.out.d (by omega) (HBK.out.below HB5.out) HKL.out HS5.out.lo_le).mono ?_
    rw [HKZ.out]
    rintro e w6 ⟨rfl, hD6, k6⟩
    obtain ⟨fk, hfk⟩ : ∃ fk : Nat → Bool, fk = fun j => ksz.getD j false := ⟨_, rfl⟩
    rw [← hfk] at hD6 ⊢
    have HFK : Hid (fk = fun j => ksz.getD j false) := hfk
    have HD6 : Hid (Dk.DkAt Dk.tP w6 lo b bl 6 6 (.slice none 0 0) (Dk.setAll (Dk.setAll L Y) (Dk.kp fk N)) []) := hD6
    have hs6 : ∀ i ∈ [b, bl], i ∈ Dk.fp b bl u3 := fun i hi => by simp at hi; rcases hi with rfl | rfl; exact Dk.fp_b; exact Dk.fp_bl
    have HX6 : Hid (Dk.DkAt Dk.tR w6 lo b' bl' cl' 6 u4 (Dk.setAll L Y) N) := HS5.out.x.keep k6 (fun i hi hm => HS5.out.pa i hi (hs6 i hm))
    have HB6 : Hid (Below w.heap.size w w6) := HB5.out.trans (k6.below HB5.out.size (fun i hi => by have h1 := HS5.out.d.low (hs6 i hi); have h2 := HLW.out; omega))
    obtain ⟨mk, hmk⟩ : ∃ mk, mk = (Dk.kp fk N).length := ⟨_, rfl⟩
    have HMK : Hid (mk = (Dk.kp fk N).length) := hmk
    rw [← hmk]
    clear hD6 k6 hs6 hfk hmk
    go_wp2_with fail
    rw [← HKZ.out]
    refine (Dk.rcrash_c A2 cap2 ksz HX6.out (by omega) (HBK.out.below HB6.out) HKL.out (fun q off e hn => by have h1 := HBK.out.far q off e hn; have h2 := HX6.out.lol; have h3 := HLW.out; omega)).mono ?_
    rw [HKZ.out]
    rintro e w7 ⟨rfl, hX7, k7⟩
    rw [← HFK.out] at hX7 ⊢
    rw [← HMK.out]
    have HS7 : Hid (Dk.St w7 lo b bl 6 (.slice none 0 0) b' bl' cl' (.slice none 0 0) 6 (Dk.setAll (Dk.setAll L Y) (Dk.kp fk N)) []) := ⟨HD6.out.keep k7 (fun i hi hm => by
      have h1 : i ∈ Dk.fp b bl u3 := by rcases Dk.mem_fp hi with rfl | rfl | e; exact Dk.fp_b; exact Dk.fp_bl; cases e
      exact HS5.out.ap i h1 (by simp at hm; rcases hm with rfl | rfl; exact Dk.fp_b; exact Dk.fp_bl)), hX7, Dk.nil_apart HS5.out⟩
    have HB7 : Hid (Below w.heap.size w w7) := HB6.out.trans (k7.below HB6.out.size (fun i hi => by have h1 := HX6.out.lob; have h2 := HX6.out.lol; have h3 := HLW.out; simp at hi; omega))
    clear hX7 k7
    go_wp2_with fail
    refine (Dk.same_c HS7.out (by simp)).mono ?_
    rintro e w8 ⟨rfl, k8⟩
    have HB8 : Hid (Below w.heap.size w w8) := HB7.out.trans (k8.below HB7.out.size (by simp))
    clear k8
    go_wp2_with fail
    refine (Dk.awake_c _).mono ?_
    rintro e w9 ⟨rfl, k9⟩
    have HB9 : Hid (Below w.heap.size w w9) := HB8.out.trans (k9.below HB8.out.size (by simp))
    clear k9
    go_wp2
    go_ret
    exact ⟨rfl, HB9.out⟩

set_option maxRecDepth 100000 in
theorem lifted (os : Os) (started : os.Started) (H : Type) (enc : TypeId × Value → H) :
    ReturnsInHanded {} Try.checked os 7 .any (Rows.diskSettlesSpec.pre6 enc Try.prog Try.f7 Rows.diskSettlesRow.domain false) (Rows.diskSettlesSpec.post enc Try.prog Try.f7 false true false false) := by
  refine returnsInHanded_of_change (C := Try.checked) own started (by kernel_rfl) Try.func7
    (ChangeSpec.witness6 (enc := enc) (C := Try.checked) false ⟨#[], #[.slice none 0 0, .int .i64 0, .slice none 0 0], []⟩ 8 (by kernel_rfl) (by kernel_rfl) (by kernel_rfl) (by kernel_rfl)) ?_
  intro W base args ds gs before hval0 hW hcnd _
  have hval : ∀ (j : Nat) t v, Try.f7.params[j]? = some t → args[j]? = some v → Value.okWide Try.prog W .any base t v := hval0
  have hW' := hW
  obtain ⟨p, q, hA0, hV, rfl, hfz, hnd⟩ := hW
  have hA : DataW.TrodAll enc Try.prog W 0 (fun _ => true) true Try.f7.params.toList args.toList ds p := hA0
  rw [Try.params7] at hA hval
  obtain ⟨v0, vs0, d0, ds0, p0, q0, hargs, rfl, rfl, h0, t0⟩ := trodAll_cons hA
  obtain ⟨v1, vs1, d1, ds1, p1, q1, rfl, rfl, rfl, h1, t1⟩ := trodAll_cons t0
  obtain ⟨v2, vs2, d2, ds2, p2, q2, rfl, rfl, rfl, h2, t2⟩ := trodAll_cons t1
  obtain ⟨rfl, rfl, rfl⟩ := trodAll_nil t2
  obtain rfl : args = #[v0, v1, v2] := by cases args; simp_all
  obtain ⟨rfl, rfl⟩ := trodVars_none hV
  have k0 := h0
  have lt0 : ∀ x ∈ p0, x.block < W.heap.size := by obtain ⟨m, hm⟩ := k0; exact DataW.trod_lt m _ _ _ hm
  have k1 := h1
  have lt1 : ∀ x ∈ p1, x.block < W.heap.size := by obtain ⟨m, hm⟩ := k1; exact DataW.trod_lt m _ _ _ hm
  have k2 := h2
  have lt2 : ∀ x ∈ p2, x.block < W.heap.size := by obtain ⟨m, hm⟩ := k2; exact DataW.trod_lt m _ _ _ hm
  obtain ⟨A0, len0, cap0, rfl⟩ := okWide_slice Try.underlying22 (hval 0 22 v0 rfl rfl)
  have r0 := Dk.deeds_open h0
  obtain ⟨a1, rfl, rfl, rfl, w1⟩ := open_int Try.underlying3 (hval 1 3 v1 rfl rfl) h1
  obtain ⟨A2, len2, cap2, rfl⟩ := okWide_slice Try.underlying29 (hval 2 29 v2 rfl rfl)
  have r2 := Dk.bools_open h2
  clear hA0 hval0
  refine (walk W A0 len0 cap0 r0 a1 w1 A2 len2 cap2 r2).mono fun e W' ⟨he, hg⟩ => ?_
  subst he
  exact ⟨_, rfl, _, _, _, [], _, [], hW', (trodAll_cons_mk (shut_bool Try.underlying4 _) trodAll_mk0), (trodAll_cons_mk (Below.trod laidOut (by kernel_rfl) (of_decide_eq_true (by kernel_rfl)) k0 hg lt0) (trodAll_cons_mk (Below.trod laidOut (by kernel_rfl) (of_decide_eq_true (by kernel_rfl)) k1 hg lt1) (trodAll_cons_mk (Below.trod laidOut (by kernel_rfl) (of_decide_eq_true (by kernel_rfl)) k2 hg lt2) trodAll_mk0))), rfl, hg.frame _, (fun h => by cases h)⟩

theorem over : Rows.diskSettlesRow.holds Try.pinned (OpenSpec.ofChange Rows.diskSettlesSpec) :=
  OpenClaim.holds_of_wide 7 Try.f7 rfl rfl rfl rfl rfl rfl rfl ⟨rfl, rfl, rfl, rfl, rfl⟩ rfl rfl rfl rfl rfl (by kernel_rfl) Try.func7 (by kernel_rfl)
    (of_decide_eq_true (by kernel_rfl)) (by unfold Func.isWrapper; first | (rw [if_pos (by decide +kernel)]; kernel_rfl) | (rw [if_neg (by decide +kernel)]; exact ⟨rfl, rfl⟩))
    (fun os started H enc _ => lifted os started H enc)
end Go.Proofs.Ytnjnplepecmfaaa.diskSettles
namespace Go.Proofs.Ytnjnplepecmfaaa
/-- The statement, by its short name. -/
theorem diskSettles_holds : Rows.DiskSettlesSaid := diskSettles.over
#print axioms diskSettles_holds
end Go.Proofs.Ytnjnplepecmfaaa
