/-
  Whatever the input, the Go function DiskKeeps answers true, and its arguments read behind the call as they read before. No condition.
-/
import Derived.Test.YtnjnplepecmfaaaRows
import Derived.Test.YtnjnplepecmfaaaDkKeep
import Derived.WalkKit
import Derived.Deep.LoopGhost
import Derived.Deep.CutBlock
import Derived.Deep.CutRange
import Derived.Deep.DeepCutAuto
import Derived.Deep.RegionHeld3
import Derived.ProofKit
import Derived.OpenShut
import Derived.ShutString
import Derived.ChangeOld
import Derived.Below
import Derived.Carry
namespace Go.Proofs.Ytnjnplepecmfaaa.diskKeeps
open Go.ChangeShapes Go.WideShapes Go.ChangeAt Go.RowKit
open Go.ChangeMaps (open_string shut_string)
set_option linter.unusedVariables false

theorem own : ownKnob Try.prog.godebug = none := by kernel_rfl
theorem laidOut : laidOutB Try.prog = true := by kernel_rfl

set_option maxHeartbeats 4000000 in
set_option maxRecDepth 100000 in
theorem walk (w : World) (A0 : Option Addr) (len0 cap0 : Nat) (r0 : Dk.Deeds w A0 len0 cap0) (A1 : Option Addr) (len1 cap1 : Nat) (r1 : Dk.Deeds w A1 len1 cap1) (A2 : Option Addr) (len2 cap2 : Nat) (r2 : Dk.Bools w A2 len2 cap2) :
    Calls Try.prog 4 #[.slice A0 len0 cap0, .slice A1 len1 cap1, .slice A2 len2 cap2] w fun e w' => e = .returned (.bool true) ∧ Below w.heap.size w w' := by
  obtain ⟨hlc0, hcm0, hrow0⟩ := r0
  have HR0 : Hid (len0 = 0 ∨ ∃ b off, A0 = some ⟨b, off, none⟩ ∧ b < w.heap.size ∧ ∀ i, i < len0 → ∃ vs, w.rangeAt b (off + i * 4) vs ∧ Dk.DeedOk w vs) := hrow0
  unfold maxLen at hcm0
  clear hrow0
  obtain ⟨hlc1, hcm1, hrow1⟩ := r1
  obtain ⟨fd, hfd⟩ := Dk.deeds_fun hrow1
  have HFD : Hid (len1 = 0 ∨ ∃ b off, A1 = some ⟨b, off, none⟩ ∧ b < w.heap.size ∧ ∀ i, i < len1 → Dk.DdAt w w.heap.size b off i (fd i)) := hfd
  unfold maxLen at hcm1
  obtain ⟨ksz, hksl, hbk, hkl⟩ := r2
  have HBK : Hid (Dk.Bl w A2 ksz) := hbk
  have HKL : Hid (ksz.length ≤ maxLen) := by show _ ≤ _; rw [hksl]; exact hkl
  have HKZ : Hid (ksz.length = len2) := hksl
  obtain ⟨i0, hi, hz0, hz1, hz2⟩ := Dk.info_parts Dk.infPair
  have HI : Hid (Try.prog.info? 44 = some i0) := hi
  have HZ0 : Hid (i0.zero = some (.agg #[.int .i64 0, .int .i64 0])) := hz0
  have HZ1 : Hid (i0.size = 2) := hz1
  have HZ2 : Hid (i0.bytes = 16) := hz2
  obtain ⟨lo, hlo⟩ : ∃ lo, lo = w.heap.size := ⟨_, rfl⟩
  have HLO : Hid (lo = w.heap.size) := hlo
  have HLW : Hid (w.heap.size ≤ lo) := by show _ ≤ lo; omega
  clear hlo hrow1 hfd hksl hbk hkl hi hz0 hz1 hz2
  go_enter Try.func4, Try.ntmps4
  go_wp2_with fail
  refine (Dk.new_c 6 _ (by omega) (by omega)).mono ?_
  rintro e w1 ⟨b, bl, rfl, D1, k1⟩
  have HD1 : Hid (Dk.DkAt Dk.tP w1 lo b bl 6 6 (.slice none 0 0) Dk.L0 []) := by show Dk.DkAt _ _ _ _ _ _ _ _ _ _; rw [HLO.out]; exact D1
  have HK1 : Hid (Below w.heap.size w w1) := k1.below (Nat.le_refl _) (by simp)
  clear D1 k1
  go_wp2_with fail
  refine (Dk.rnew_c 6 _ (by omega) (by omega)).mono ?_
  rintro e w2 ⟨b', bl', cl', rfl, X2, k2⟩
  have hs1 := HK1.out.size
  have hlo1 : lo ≤ w1.heap.size := by have h1 := HD1.out.lob; have h2 := HD1.out.lt Dk.fp_b; omega
  have HS0 : Hid (Dk.St w2 lo b bl 6 (.slice none 0 0) b' bl' cl' (.slice none 0 0) 6 Dk.L0 []) := Dk.st_new HD1.out X2 k2 hlo1
  have HB0 : Hid (Below w.heap.size w w2) := HK1.out.trans (k2.below hs1 (by simp))
  clear X2 k2 hs1
  go_upto_block 0 with fail
  go_cut [9] (fun s9 wx => ∃ (v v' : Value) (L : Nat → Dk.Dat) (W : List Dk.Wr), Hid (Dk.St wx lo b bl 6 v b' bl' cl' v' 6 L W) ∧ W.length ≤ 30 ∧ Hid (Below w.heap.size w wx))
  case first =>
    go_wp2_with fail
    go_loopg [9] 30 (fun g0 iv wx => ∃ (j : Nat) (v v' : Value) (L : Nat → Dk.Dat) (W : List Dk.Wr), j + g0 = 30 ∧ j ≤ len0 ∧ iv = .int .i64 j ∧ W.length ≤ j ∧ Hid (Dk.St wx lo b bl 6 v b' bl' cl' v' 6 L W) ∧ Hid (Below w.heap.size w wx))
    case atStart => exact ⟨0, _, _, _, [], by omega, Nat.zero_le _, rfl, by simp, HS0, HB0⟩
    case round =>
      obtain ⟨j, v, v', L, W, hjg, hjl0, rfl, hWj, HS, HB⟩ := hrel
      clear HS0 HB0
      by_cases hgo : j < len0 ∧ j < 30
      · obtain ⟨hlt, hN⟩ := hgo
        obtain ⟨bA, oA, K, B, AX, cX, xs, AK, cK, ks, hA, hr, hX, hxl, hK, hkl⟩ := Dk.deed_at HLW.out HR0.out HB.out hlt
        have HRA : Hid (wr.rangeAt bA (oA + j * 4) [.int .i64 K, .int .i64 B, .slice AX xs.length cX, .slice AK ks.length cK]) := hr
        have HDD : Hid (Rd .u8 wr 0 lo AX xs ∧ xs.length ≤ 9223372036854775807 ∧ Dk.BlL wr lo AK ks ∧ ks.length ≤ maxLen) := ⟨hX, hxl, hK, hkl⟩
        subst hA
        clear hr hX hxl hK hkl
        have hjl : (j : Int) < (len0 : Int) := by omega
        go_wp2_with (first | (refine wpList_load_mid rfl 31 _ rfl bA (oA + j * 4) rfl [.int .i64 K, .int .i64 B, .slice AX xs.length cX, .slice AK ks.length cK] _ HRA.out Try.underlying31 rfl Dk.infoDeed ?_))
        refine (Dk.does_c K B AX cX xs AK cK ks HS.out (by omega) HDD.out.1 HDD.out.2.1 HDD.out.2.2.1 HDD.out.2.2.2).mono ?_
        rintro e w3 ⟨rfl, v3, v3', L3, W3, hS3, hW3, hb3⟩
        have HS3 : Hid (Dk.St w3 lo b bl 6 v3 b' bl' cl' v3' 6 L3 W3) := hS3
        have HB3 : Hid (Below w.heap.size w w3) := HB.out.trans (hb3.mono HLW.out)
        clear hS3 hb3
        go_wp2
        go_roundg (30 - (j + 1))
        case measure => omega
        case rel => exact ⟨j + 1, v3, v3', L3, W3, by omega, by omega, by go_num, by omega, HS3, HB3⟩
      · by_cases hlt : j < len0
        · obtain rfl : j = 30 := by omega
          go_wp2
          go_meet
          case rel => exact ⟨v, v', L, W, HS, by omega, HB⟩
        · go_wp2
          go_meet
          case rel => exact ⟨v, v', L, W, HS, by omega, HB⟩
  case rest =>
    obtain ⟨v, v', L, W, HS, hWl, HB⟩ := hcut
    clear HS0 HB0
    go_wp2_with fail
    refine (Dk.flush_c HS.out.d (by omega)).mono ?_
    rintro e w3 ⟨rfl, hD3, k3⟩
    obtain ⟨L1, hL1⟩ : ∃ L1, L1 = Dk.setAll L W := ⟨_, rfl⟩
    rw [← hL1] at hD3
    have HD3 : Hid (Dk.DkAt Dk.tP w3 lo b bl 6 6 (.slice none 0 0) L1 []) := hD3
    have HB3 : Hid (Below w.heap.size w w3) := HB.out.trans (k3.below HB.out.size (fun i hi => by have h1 := HS.out.d.lob; have h2 := HS.out.d.lol; have h3 := HLW.out; simp at hi; omega))
    clear hD3 k3 hL1 HS HB hWl
    go_wp2_with fail
    refine (Dk.twin_c HD3.out (by simp)).mono ?_
    rintro e w4 ⟨bt, blt, clt, vt, rfl, DT, k4⟩
    have hlo3 : lo ≤ w3.heap.size := by have h1 := HD3.out.lob; have h2 := HD3.out.lt Dk.fp_b; omega
    have HK4 : Hid (Dk.K2 w4 lo b bl (.slice none 0 0) bt blt clt vt (.slice none 0 0) L1 fd []) := ⟨HD3.out.keep0 k4, DT.lower hlo3, fun i hi hm => by have h1 := HD3.out.lt hi; have h2 := DT.low hm; omega, by simpa [Dk.catP] using World.ownsRow_nil w4 lo 44 2, fun g e => by cases e⟩
    have HB4 : Hid (Below w.heap.size w w4) := HB3.out.trans (k4.below HB3.out.size (by simp))
    clear DT k4 HD3 HB3 hlo3
    go_upto_block 2 with fail
    go_cut [11] (fun s11 wx => ∃ (v u : Value) (ws : List Dk.Nt), s11 = u ∧ Hid (Dk.K2 wx lo b bl v bt blt clt vt u L1 fd ws) ∧ ws.length ≤ 30 ∧ Hid (∀ p ∈ ws, p.2 < len1) ∧ Hid (Below w.heap.size w wx))
    case first =>
      go_wp2_with fail
      go_loopg [11, 12] 30 (fun g0 uv iv wx => ∃ (j : Nat) (v u : Value) (ws : List Dk.Nt), u = uv ∧ j + g0 = 30 ∧ j ≤ len1 ∧ iv = .int .i64 j ∧ ws.length ≤ j ∧ Hid (Dk.K2 wx lo b bl v bt blt clt vt u L1 fd ws) ∧ Hid (∀ p ∈ ws, p.2 < len1) ∧ Hid (Below w.heap.size w wx))
      case atStart => exact ⟨0, _, _, [], rfl, by omega, Nat.zero_le _, rfl, by simp, HK4, (fun p hp => by cases hp), HB4⟩
      case round =>
        obtain ⟨j, v, u, ws, rfl, hjg, hjl0, rfl, hWj, HS, HP, HB⟩ := hrel
        clear HK4 HB4
        by_cases hgo : j < len1 ∧ j < 30
        · obtain ⟨hlt, hN⟩ := hgo
          obtain ⟨bA, oA, hA, hbl, hall⟩ : ∃ b off, A1 = some ⟨b, off, none⟩ ∧ b < w.heap.size ∧ ∀ i, i < len1 → Dk.DdAt w w.heap.size b off i (fd i) := by
            rcases HFD.out with h | h
            · omega
            · exact h
          have hd := (hall j hlt).keep HB.out hbl
          rcases hdd : fd j with ⟨K, B, AX, cX, xs, AK, cK, ks⟩
          rw [hdd] at hd
          have HDJ : Hid (fd j = ⟨K, B, AX, cX, xs, AK, cK, ks⟩) := hdd
          have HDD : Hid (Rd .u8 wr 0 w.heap.size AX xs ∧ xs.length ≤ 9223372036854775807) := ⟨hd.x, hd.xl⟩
          obtain ⟨lx, hlx⟩ : ∃ lx, lx = xs.length := ⟨_, rfl⟩
          have HLX : Hid (lx = xs.length) := hlx
          have hcc : wr.cell? ⟨bA, oA + j * 4, none⟩ = some (.int .i64 K) ∧ wr.cell? ⟨bA, oA + j * 4 + 1, none⟩ = some (.int .i64 B) ∧ wr.cell? ⟨bA, oA + j * 4 + 2, none⟩ = some (.slice AX lx cX) := by
            rw [hlx]
            exact ⟨range_cells hd.row 0 _ rfl, range_cells hd.row 1 _ rfl, range_cells hd.row 2 _ rfl⟩
          have HBA : Hid (bA < w.heap.size) := hbl
          subst hA
          have hjl : (j : Int) < (len1 : Int) := by omega
          clear hall hd hdd hlx hbl
          by_cases hK0 : 0 ≤ K
          · by_cases hK4 : K ≤ 4
            · go_wp2_with fail
              go_region_held3 (fun w' => w'.cell? ⟨bA, oA + j * 4, none⟩ = some (.int .i64 K) ∧ w'.cell? ⟨bA, oA + j * 4 + 1, none⟩ = some (.int .i64 B) ∧ w'.cell? ⟨bA, oA + j * 4 + 2, none⟩ = some (.slice AX lx cX))
                (first | assumption | exact Dk.d3_keep (l := []) hcc (But.refl [] wr).drew (by simp) | exact hS5 | exact hS6)
                (first
                  | (go_at_call 18
                     rw [HLX.out]
                     refine (Dk.of_c AX cX xs _ ((HDD.out.1.keep (Below.refl _ wr).drew).wider (Nat.le_refl _) HB.out.size) HDD.out.2).mono ?_
                     rw [← HLX.out]
                     rintro e w5 ⟨rfl, hb5⟩
                     have HB5 : Hid (But [] wr w5) := (But.refl [] wr).drew.trans hb5
                     have hS5 := Dk.d3_keep (l := []) hcc HB5.out (by simp)
                     clear hb5)
                  | (go_at_call 17
                     refine (Dk.write_any B _ (HS.out.keep0 HB5.out).d (by rw [Dk.wrs_len]; omega) (HS.out.keep0 HB5.out).lo_le).mono ?_
                     rintro e w6 ⟨rfl, v6, W6, hD6, hk6, hf6, hW6⟩
                     have HD6 : Hid (Dk.DkAt Dk.tP w6 lo b bl 6 6 v6 L1 W6 ∧ But (Dk.fp b bl v) w5 w6 ∧ (∀ g ∈ Dk.fp b bl v6, g ∈ Dk.fp b bl v ∨ w5.heap.size ≤ g)) := ⟨hD6, hk6, hf6⟩
                     have HW6 : Hid (W6 = if Dk.inB 6 B then Dk.wrs fd ws ++ [(B.toNat, Dk.ofD xs)] else Dk.wrs fd ws) := hW6
                     have hS6 := Dk.d3_keep hS5 hk6 (fun hm => by have h1 := HS.out.d.low hm; have h2 := HBA.out; have h3 := HLW.out; omega)
                     clear hD6 hk6 hf6 hW6))
              obtain ⟨q1, q2, q3, q4⟩ := (HS.out.keep0 HB5.out).wrote HD6.out.2.1 HD6.out.2.2
              have HB6 : Hid (Below w.heap.size w w6) := (HB.out.trans (HB5.out.below HB.out.size (by simp))).trans (HD6.out.2.1.below (by have h1 := HB.out.size; have h2 := HB5.out.size; omega) (fun i hi => by have h1 := HS.out.d.low hi; have h2 := HLW.out; omega))
              cases hin : Dk.inB 6 B with
              | true =>
                obtain ⟨k, rfl, hk⟩ := Dk.inB_of hin
                have hwe : W6 = Dk.wrs fd (ws ++ [(k, j)]) := by
                  rw [HW6.out, hin, Dk.wrs_snoc, HDJ.out]
                  simp
                have HQ : Hid (Dk.DkAt Dk.tP w6 lo b bl 6 6 v6 L1 (Dk.wrs fd (ws ++ [(k, j)])) ∧ Dk.DkAt Dk.tP w6 lo bt blt clt 6 vt L1 [] ∧ (∀ i ∈ Dk.fp b bl v6, i ∉ Dk.fp bt blt vt) ∧ w6.ownsRow lo 44 2 u ws.length (Dk.catP ws) ∧ (∀ g, u.ownBlock = some g → g ∉ Dk.fp b bl v6 ∧ g ∉ Dk.fp bt blt vt)) := ⟨by rw [← hwe]; exact HD6.out.1, q1, q2, q3, q4⟩
                have hcb := hS6.2.1
                clear hcc hS5 hS6 q1 q2 q3 q4 hwe hin
                have HO7 : Hid ((w6.alloc (.cells #[.int .i64 k, .int .i64 j] 44)).ownsRow lo 44 2 u ws.length (Dk.catP ws)) := Dk.own_keep HQ.out.2.2.2.1 ((But.refl [] w6).alloc _) (by simp)
                have HNW : Hid (∀ (q : Nat) (y : Value), [Value.int .i64 k, .int .i64 j][q]? = some y → (w6.alloc (.cells #[.int .i64 k, .int .i64 j] 44)).cell? ((⟨w6.heap.size, 0, none⟩ : Addr).add q) = some y) := fun q y hy => by rw [Addr.add_mid]; exact new_range w6 [.int .i64 k, .int .i64 j] 44 q y hy
                go_wp2_with (first
                  | (at_builtin; refine wpList_append_lies _ rfl _ _ 41 rfl lo 44 i0 (.agg #[.int .i64 0, .int .i64 0]) 2 16 Try.underlying41 HI.out HZ0.out HZ1.out HZ2.out rfl (by decide) _ _ _ rfl HO7.out ⟨w6.heap.size, 0, none⟩ 1 1 [.int .i64 k, .int .i64 j] rfl rfl HNW.out (Dk.two_one _ _) (by decide) ?c3 ?c4 ?c5 _ rfl ?_))
                case c3 => unfold maxLen; omega
                case c4 => omega
                case c5 => have h1 := HB6.out.size; have h2 := HLO.out; simp; omega
                intro g7 cap7 w7 hown hgrow hat hlt7
                have hgr : But u.ownBlock.toList w6 w7 := ((But.refl _ w6).alloc _).trans (Dk.But.of_grown hgrow)
                have hgg : g7 ∉ Dk.fp b bl v6 ∧ g7 ∉ Dk.fp bt blt vt := by
                  rcases hat with h | h
                  · exact HQ.out.2.2.2.2 g7 h
                  · have h' : g7 = w6.heap.size + 1 := by simpa using h
                    exact ⟨fun hm => by have := HQ.out.1.lt hm; omega, fun hm => by have := HQ.out.2.1.lt hm; omega⟩
                have HS7 : Hid (Dk.K2 w7 lo b bl v6 bt blt clt vt (.slice (some ⟨g7, 0, none⟩) (ws.length + 1) cap7) L1 fd (ws ++ [(k, j)])) :=
                  ⟨HQ.out.1.keep hgr (fun i hi hm => (HQ.out.2.2.2.2 i (by simpa using hm)).1 hi), HQ.out.2.1.keep hgr (fun i hi hm => (HQ.out.2.2.2.2 i (by simpa using hm)).2 hi), HQ.out.2.2.1, by rw [Dk.catP_snoc, List.length_append]; exact hown, fun g e => by
                    obtain rfl : g7 = g := by simpa [Value.ownBlock] using e
                    exact hgg⟩
                have HB7 : Hid (Below w.heap.size w w7) := HB6.out.trans (hgr.below HB6.out.size (fun i hm => by have h1 := (Dk.own_lt HQ.out.2.2.2.1 (g := i) (by simpa using hm)).1; have h2 := HLW.out; omega))
                have HP7 : Hid (∀ p ∈ ws ++ [(k, j)], p.2 < len1) := fun p hp => by
                  rcases List.mem_append.1 hp with h | h
                  · exact HP.out p h
                  · obtain rfl : p = (k, j) := by simpa using h
                    exact hlt
                clear hown hgrow hat hlt7 hgr hgg hcb
                go_wp2
                go_roundg (30 - (j + 1))
                case measure => omega
                case rel => exact ⟨j + 1, v6, _, ws ++ [(k, j)], rfl, by omega, by omega, by go_num, by simp; omega, HS7, HP7, HB7⟩
              | false =>
                have hwe : W6 = Dk.wrs fd ws := by rw [HW6.out, hin]; simp
                have HS7 : Hid (Dk.K2 w6 lo b bl v6 bt blt clt vt u L1 fd ws) := ⟨by rw [← hwe]; exact HD6.out.1, q1, q2, q3, q4⟩
                clear hcc hS5 hS6 q1 q2 q3 q4 hwe hin
                go_wp2
                go_roundg (30 - (j + 1))
                case measure => omega
                case rel => exact ⟨j + 1, v6, u, ws, rfl, by omega, by omega, by go_num, by omega, HS7, HP, HB6⟩
            · have hK4' : decide (K ≤ 4) = false := decide_eq_false hK4
              obtain ⟨hc0, hc1, hc2⟩ := hcc
              go_wp2_with fail
              go_quiet (fail)
              go_wp2
              go_roundg (30 - (j + 1))
              case measure => omega
              case rel => exact ⟨j + 1, v, u, ws, rfl, by omega, by omega, by go_num, by omega, HS.out.keep0 ((But.refl [] wr).drewN _), HP, HB.out.trans (((But.refl [] wr).drewN _).below HB.out.size (by simp))⟩
          · have hK0' : decide (0 ≤ K) = false := decide_eq_false hK0
            obtain ⟨hc0, hc1, hc2⟩ := hcc
            go_wp2_with fail
            go_quiet (fail)
            go_wp2
            go_roundg (30 - (j + 1))
            case measure => omega
            case rel => exact ⟨j + 1, v, u, ws, rfl, by omega, by omega, by go_num, by omega, HS.out.keep0 ((But.refl [] wr).drewN _), HP, HB.out.trans (((But.refl [] wr).drewN _).below HB.out.size (by simp))⟩
        · by_cases hlt : j < len1
          · obtain rfl : j = 30 := by omega
            go_wp2
            go_meet
            case rel => exact ⟨v, u, ws, rfl, HS, by omega, HP, HB⟩
          · go_wp2
            go_meet
            case rel => exact ⟨v, u, ws, rfl, HS, by omega, HP, HB⟩
    case rest =>
      obtain ⟨v, u, ws, hu, HS, hWl, HP, HB⟩ := hcut
      rw [hu]
      clear HK4 HB4 hu
      go_wp2_with fail
      rw [← HKZ.out]
      refine (Dk.crash_c A2 cap2 ksz HS.out.d (by rw [Dk.wrs_len]; omega) (HBK.out.below HB.out) HKL.out HS.out.lo_le).mono ?_
      rw [HKZ.out]
      rintro e w5 ⟨rfl, hD5, k5⟩
      obtain ⟨fk, hfk⟩ : ∃ fk : Nat → Bool, fk = fun j => ksz.getD j false := ⟨_, rfl⟩
      rw [← hfk] at hD5 ⊢
      have HD5 : Hid (Dk.DkAt Dk.tP w5 lo b bl 6 6 (.slice none 0 0) (Dk.setAll L1 (Dk.kp fk (Dk.wrs fd ws))) []) := hD5
      have hsub : ∀ i ∈ [b, bl], i ∈ Dk.fp b bl v := fun i hi => by simp at hi; rcases hi with rfl | rfl; exact Dk.fp_b; exact Dk.fp_bl
      have HT5 : Hid (Dk.DkAt Dk.tP w5 lo bt blt clt 6 vt L1 []) := HS.out.t.keep k5 (fun i hi hm => HS.out.ap i (hsub i hm) hi)
      have HO5 : Hid (w5.ownsRow lo 44 2 u ws.length (Dk.catP ws)) := Dk.own_keep HS.out.row k5 (fun g hg hm => (HS.out.far g hg).1 (hsub g hm))
      have HB5 : Hid (Below w.heap.size w w5) := HB.out.trans (k5.below HB.out.size (fun i hi => by have h1 := HS.out.d.low (hsub i hi); have h2 := HLW.out; omega))
      clear hD5 k5 hfk hsub HS HB
      go_wp2_with fail
      refine (Dk.waiting_c HD5.out (by simp)).mono ?_
      rintro e w6 ⟨u6, rfl, ho6, k6⟩
      obtain ⟨A6, c6, hu6, -⟩ := Rd.of_own ho6
      subst hu6
      have HD6 : Hid (Dk.DkAt Dk.tP w6 lo b bl 6 6 (.slice none 0 0) (Dk.setAll L1 (Dk.kp fk (Dk.wrs fd ws))) []) := HD5.out.keep0 k6
      have HT6 : Hid (Dk.DkAt Dk.tP w6 lo bt blt clt 6 vt L1 []) := HT5.out.keep0 k6
      have ho7 := Dk.own_keep HO5.out k6 (by simp)
      have HB6 : Hid (Below w.heap.size w w6) := HB5.out.trans (k6.below HB5.out.size (by simp))
      obtain ⟨AN, cN, hun, hnt⟩ := Dk.notes_of ho7
      obtain ⟨mm, hmm⟩ : ∃ mm, mm = ws.length := ⟨_, rfl⟩
      rw [← hmm] at hun hWl
      subst hun
      have HMM : Hid (mm = ws.length) := hmm
      have HNT : Hid (ws = [] ∨ ∃ g, AN = some ⟨g, 0, none⟩ ∧ ∀ i, i < ws.length → w6.cell? ⟨g, i * 2, none⟩ = some (.int .i64 (ws.getD i (0, 0)).1) ∧ w6.cell? ⟨g, i * 2 + 1, none⟩ = some (.int .i64 (ws.getD i (0, 0)).2)) := hnt
      clear ho6 ho7 k6 hnt hmm HD5 HT5 HO5 HB5
      have hzd := Dk.zData
      go_wp2
      go_loopg [13] 6 (fun g0 iv wx => ∃ q : Nat, q + g0 = 6 ∧ iv = .int .i64 q ∧ Hid (But [] w6 wx))
      case atStart => exact ⟨0, by omega, rfl, But.refl _ _⟩
      case round =>
        obtain ⟨q, hqg, rfl, HX⟩ := hrel
        by_cases hq6 : q < 6
        · have hq6' : (q : Int) < 6 := by omega
          go_wp2_with fail
          refine (Dk.read_c q (HD6.out.keep0 HX.out) hq6 (by simp)).mono ?_
          rintro e w7 ⟨rfl, k7⟩
          rw [Dk.setAll_nil]
          obtain ⟨y, hy⟩ : ∃ y, y = Dk.setAll L1 (Dk.kp fk (Dk.wrs fd ws)) q := ⟨_, rfl⟩
          rw [← hy]
          have HY : Hid (y = Dk.setAll L1 (Dk.kp fk (Dk.wrs fd ws)) q) := hy
          obtain ⟨gy, hgy⟩ : ∃ gy, gy = w7.heap.size := ⟨_, rfl⟩
          have hny := new_range w7 (Dk.dv y) 34
          have HX8 : Hid (But [] w6 (w7.alloc (.cells (Dk.dv y).toArray 34))) := (HX.out.trans k7).alloc _
          rw [← hgy] at hny
          clear hy k7 HX
          go_upto_region 24 with (refine Dk.wpList_store_new rfl 34 _ _ rfl (Dk.dv Dk.d0).toArray (Dk.dv y).toArray rfl rfl (Dk.iData' _) (by rw [Dk.dvs, Dk.dvs]) (Dk.dv_all _) ?_)
          rw [← hgy]
          generalize w7.alloc (.cells (Dk.dv y).toArray 34) = w8 at hny HX8 ⊢
          have HNY : Hid (w8.rangeAt gy 0 (Dk.dv y)) := hny
          clear hny hgy
          go_wp2_with fail
          refine (Dk.read_c q (HT6.out.keep0 HX8.out) hq6 (by simp)).mono ?_
          rintro e w9 ⟨rfl, k9⟩
          rw [Dk.setAll_nil]
          obtain ⟨o, ho⟩ : ∃ o, o = L1 q := ⟨_, rfl⟩
          rw [← ho]
          have HO : Hid (o = L1 q) := ho
          obtain ⟨go, hgo⟩ : ∃ go, go = w9.heap.size := ⟨_, rfl⟩
          have hno := new_range w9 (Dk.dv o) 34
          have hny := range_keep (range_keep HNY.out k9 (by simp)) ((But.refl [] w9).alloc (.cells (Dk.dv o).toArray 34)) (by simp)
          have HXA : Hid (But [] w6 (w9.alloc (.cells (Dk.dv o).toArray 34))) := (HX8.out.trans k9).alloc _
          rw [← hgo] at hno
          clear ho k9 HX8 HNY
          go_upto_region 25 with (refine Dk.wpList_store_new rfl 34 _ _ rfl (Dk.dv Dk.d0).toArray (Dk.dv o).toArray rfl rfl (Dk.iData' _) (by rw [Dk.dvs, Dk.dvs]) (Dk.dv_all _) ?_)
          rw [← hgo]
          generalize w9.alloc (.cells (Dk.dv o).toArray 34) = wA at hny hno HXA ⊢
          have HNY : Hid (wA.rangeAt gy 0 (Dk.dv y)) := hny
          have HNO : Hid (wA.rangeAt go 0 (Dk.dv o)) := hno
          clear hny hno hgo
          have heq := Dk.eqData y o
          go_wp2_with (first
            | (refine wpList_load_mid rfl 34 _ rfl gy 0 rfl (Dk.dv y) _ HNY.out Try.underlying34 rfl (Dk.iData _) ?_)
            | (refine wpList_load_mid rfl 34 _ rfl go 0 rfl (Dk.dv o) _ HNO.out Try.underlying34 rfl (Dk.iData _) ?_))
          clear heq
          go_loopg [18, 19] mm (fun g0 fv iv wx => ∃ t : Nat, t + g0 = mm ∧ iv = .int .i64 t ∧ fv = .bool (Dk.fnd fd q y o (ws.take t)) ∧ Hid (But [] wA wx))
          case atStart => exact ⟨0, by omega, rfl, by rw [List.take_zero, Dk.fnd_nil], But.refl _ _⟩
          case round =>
            obtain ⟨t, htg, rfl, rfl, HXB⟩ := hrel
            by_cases htm : t < mm
            · have htw : t < ws.length := by have := HMM.out; omega
              obtain ⟨gn, hAN, hcn⟩ : ∃ g, AN = some ⟨g, 0, none⟩ ∧ ∀ i, i < ws.length → w6.cell? ⟨g, i * 2, none⟩ = some (.int .i64 (ws.getD i (0, 0)).1) ∧ w6.cell? ⟨g, i * 2 + 1, none⟩ = some (.int .i64 (ws.getD i (0, 0)).2) := by
                rcases HNT.out with h | h
                · rw [h] at htw; simp at htw
                · exact h
              obtain ⟨hn0, hn1⟩ := hcn t htw
              rcases hpt : ws.getD t (0, 0) with ⟨pk, pi⟩
              have hpl : pi < len1 := by
                have hm : ws.getD t (0, 0) ∈ ws := by rw [List.getD_eq_getElem?_getD, List.getElem?_eq_getElem htw]; exact List.getElem_mem htw
                have := HP.out _ hm
                rw [hpt] at this
                exact this
              have hft := Dk.fnd_take fd q y o ws t htw
              rw [hpt] at hn0 hn1 hft
              have hn0' := cell_keep (cell_keep hn0 HXA.out (by simp)) HXB.out (by simp)
              have hn1' := cell_keep (cell_keep hn1 HXA.out (by simp)) HXB.out (by simp)
              have HFT : Hid (Dk.fnd fd q y o (ws.take (t + 1)) = (Dk.fnd fd q y o (ws.take t) || (pk == q && Dk.eqD y (Dk.ofD (fd pi).xs)))) := hft
              subst hAN
              have htm' : (t : Int) < (mm : Int) := by omega
              clear hcn hn0 hn1 hpt hft
              cases hfo : Dk.fnd fd q y o (ws.take t) with
              | true =>
                have HF2 : Hid (Dk.fnd fd q y o (ws.take (t + 1)) = true) := by show _ = _; rw [HFT.out, hfo]; simp
                clear hfo
                go_wp2_with fail
                go_quiet (fail)
                go_wp2
                go_roundg (mm - (t + 1))
                case measure => omega
                case rel => exact ⟨t + 1, by omega, by go_num, by rw [HF2.out], HXB.out.drewN _⟩
              | false =>
                by_cases hpq : pk = q
                · obtain ⟨bA, oA, hA, hbl, hall⟩ : ∃ b off, A1 = some ⟨b, off, none⟩ ∧ b < w.heap.size ∧ ∀ i, i < len1 → Dk.DdAt w w.heap.size b off i (fd i) := by
                    rcases HFD.out with h | h
                    · omega
                    · exact h
                  have HBR : Hid (Below w.heap.size w wr) := HB6.out.trans ((HXA.out.trans HXB.out).below HB6.out.size (by simp))
                  have hd := (hall pi hpl).keep HBR.out hbl
                  rcases hdd : fd pi with ⟨K, B, AX, cX, xs, AK, cK, ks⟩
                  rw [hdd] at hd
                  have HDD : Hid (Rd .u8 wr 0 w.heap.size AX xs ∧ xs.length ≤ 9223372036854775807) := ⟨hd.x, hd.xl⟩
                  obtain ⟨lx, hlx⟩ : ∃ lx, lx = xs.length := ⟨_, rfl⟩
                  have HLX : Hid (lx = xs.length) := hlx
                  have hc2 : wr.cell? ⟨bA, oA + pi * 4 + 2, none⟩ = some (.slice AX lx cX) := by rw [hlx]; exact range_cells hd.row 2 _ rfl
                  have hny := range_keep HNY.out HXB.out (by simp)
                  have HF2 : Hid (Dk.fnd fd q y o (ws.take (t + 1)) = Dk.eqD y (Dk.ofD xs)) := by show _ = _; rw [HFT.out, hfo, hpq, hdd]; simp
                  have hpq' : (pk : Int) = (q : Int) := by omega
                  have hpl' : (pi : Int) < (len1 : Int) := by omega
                  subst hA
                  clear hall hd hdd hlx hfo hbl
                  have hcc : wr.cell? ⟨gn, t * 2, none⟩ = some (.int .i64 pk) ∧ wr.cell? ⟨gn, t * 2 + 1, none⟩ = some (.int .i64 pi) ∧ wr.cell? ⟨bA, oA + pi * 4 + 2, none⟩ = some (.slice AX lx cX) ∧ wr.rangeAt gy 0 (Dk.dv y) := ⟨hn0', hn1', hc2, hny⟩
                  have hu34 := Try.underlying34
                  have hi34 := Dk.iData y
                  have heq := Dk.eqData y (Dk.ofD xs)
                  go_wp2_with fail
                  go_region_held3 (fun w' => w'.cell? ⟨gn, t * 2, none⟩ = some (.int .i64 pk) ∧ w'.cell? ⟨gn, t * 2 + 1, none⟩ = some (.int .i64 pi) ∧ w'.cell? ⟨bA, oA + pi * 4 + 2, none⟩ = some (.slice AX lx cX) ∧ w'.rangeAt gy 0 (Dk.dv y))
                    (first | assumption | exact Dk.d4_keep hcc (But.refl [] wr).drew | exact hS5)
                    (first
                      | (go_at_call 18
                         rw [HLX.out]
                         refine (Dk.of_c AX cX xs _ ((HDD.out.1.keep (Below.refl _ wr).drew).wider (Nat.le_refl _) HBR.out.size) HDD.out.2).mono ?_
                         rw [← HLX.out]
                         rintro e wB ⟨rfl, hb5⟩
                         have HB5 : Hid (But [] wr wB) := (But.refl [] wr).drew.trans hb5
                         have hS5 := Dk.d4_keep hcc HB5.out
                         clear hb5))
                  clear hcc hS5 hu34 hi34 heq
                  go_wp2
                  go_roundg (mm - (t + 1))
                  case measure => omega
                  case rel => exact ⟨t + 1, by omega, by go_num, by rw [HF2.out], HXB.out.trans HB5.out⟩
                · have HF2 : Hid (Dk.fnd fd q y o (ws.take (t + 1)) = false) := by show _ = _; rw [HFT.out, hfo]; simp [hpq]
                  have hpq' : ¬ (pk : Int) = (q : Int) := by omega
                  have hpq2 : ((pk : Int) == (q : Int)) = false := by simpa using hpq'
                  have hpq3 : decide ((pk : Int) = (q : Int)) = false := decide_eq_false hpq'
                  clear hfo
                  go_wp2_with fail
                  go_quiet (fail)
                  go_wp2
                  go_roundg (mm - (t + 1))
                  case measure => omega
                  case rel => exact ⟨t + 1, by omega, by go_num, by rw [HF2.out], HXB.out.drewN _⟩
            · obtain rfl : t = mm := by omega
              have HFF : Hid (Dk.fnd fd q y o (ws.take t) = true) := by
                show _ = _
                rw [List.take_of_length_le (by have := HMM.out; omega), HY.out, HO.out]
                exact Dk.fnd_all fd q L1 fk ws
              rw [HFF.out]
              go_wp2
              go_roundg (6 - (q + 1))
              case measure => omega
              case rel => exact ⟨q + 1, by omega, by go_num, HXA.out.trans HXB.out⟩
        · obtain rfl : q = 6 := by omega
          go_wp2_with fail
          refine (Dk.awake_c _).mono ?_
          rintro e w9 ⟨rfl, k9⟩
          have HB9 : Hid (Below w.heap.size w w9) := HB6.out.trans ((HX.out.trans k9).below HB6.out.size (by simp))
          clear k9
          go_wp2
          go_ret
          exact ⟨rfl, HB9.out⟩

set_option maxRecDepth 100000 in
theorem lifted (os : Os) (started : os.Started) (H : Type) (enc : TypeId × Value → H) :
    ReturnsInHanded {} Try.checked os 4 .any (Rows.diskKeepsSpec.pre6 enc Try.prog Try.f4 Rows.diskKeepsRow.domain false) (Rows.diskKeepsSpec.post enc Try.prog Try.f4 false true false false) := by
  refine returnsInHanded_of_change (C := Try.checked) own started (by kernel_rfl) Try.func4
    (ChangeSpec.witness6 (enc := enc) (C := Try.checked) false ⟨#[], #[.slice none 0 0, .slice none 0 0, .slice none 0 0], []⟩ 8 (by kernel_rfl) (by kernel_rfl) (by kernel_rfl) (by kernel_rfl)) ?_
  intro W base args ds gs before hval0 hW hcnd _
  have hval : ∀ (j : Nat) t v, Try.f4.params[j]? = some t → args[j]? = some v → Value.okWide Try.prog W .any base t v := hval0
  have hW' := hW
  obtain ⟨p, q, hA0, hV, rfl, hfz, hnd⟩ := hW
  have hA : DataW.TrodAll enc Try.prog W 0 (fun _ => true) true Try.f4.params.toList args.toList ds p := hA0
  rw [Try.params4] at hA hval
  obtain ⟨v0, vs0, d0, ds0, p0, q0, hargs, rfl, rfl, h0, t0⟩ := trodAll_cons hA
  obtain ⟨v1, vs1, d1, ds1, p1, q1, rfl, rfl, rfl, h1, t1⟩ := trodAll_cons t0
  obtain ⟨v2, vs2, d2, ds2, p2, q2, rfl, rfl, rfl, h2, t2⟩ := trodAll_cons t1
  obtain ⟨rfl, rfl, rfl⟩ := trodAll_nil t2
  obtain rfl : args = #[v0, v1, v2] := by cases args; simp_all
  obtain ⟨rfl, rfl⟩ := trodVars_none hV
  have k0 := h0
  have lt0 : ∀ x ∈ p0, x.block < W.heap.size := by obtain ⟨m, hm⟩ := k0; exact DataW.trod_lt m _ _ _ hm
  have k1 := h1
  have lt1 : ∀ x ∈ p1, x.block < W.heap.size := by obtain ⟨m, hm⟩ := k1; exact DataW.trod_lt m _ _ _ hm
  have k2 := h2
  have lt2 : ∀ x ∈ p2, x.block < W.heap.size := by obtain ⟨m, hm⟩ := k2; exact DataW.trod_lt m _ _ _ hm
  obtain ⟨A0, len0, cap0, rfl⟩ := okWide_slice Try.underlying22 (hval 0 22 v0 rfl rfl)
  have r0 := Dk.deeds_open h0
  obtain ⟨A1, len1, cap1, rfl⟩ := okWide_slice Try.underlying22 (hval 1 22 v1 rfl rfl)
  have r1 := Dk.deeds_open h1
  obtain ⟨A2, len2, cap2, rfl⟩ := okWide_slice Try.underlying29 (hval 2 29 v2 rfl rfl)
  have r2 := Dk.bools_open h2
  clear hA0 hval0
  refine (walk W A0 len0 cap0 r0 A1 len1 cap1 r1 A2 len2 cap2 r2).mono fun e W' ⟨he, hg⟩ => ?_
  subst he
  exact ⟨_, rfl, _, _, _, [], _, [], hW', (trodAll_cons_mk (shut_bool Try.underlying4 _) trodAll_mk0), (trodAll_cons_mk (Below.trod laidOut (by kernel_rfl) (of_decide_eq_true (by kernel_rfl)) k0 hg lt0) (trodAll_cons_mk (Below.trod laidOut (by kernel_rfl) (of_decide_eq_true (by kernel_rfl)) k1 hg lt1) (trodAll_cons_mk (Below.trod laidOut (by kernel_rfl) (of_decide_eq_true (by kernel_rfl)) k2 hg lt2) trodAll_mk0))), rfl, hg.frame _, (fun h => by cases h)⟩

theorem over : Rows.diskKeepsRow.holds Try.pinned (OpenSpec.ofChange Rows.diskKeepsSpec) :=
  OpenClaim.holds_of_wide 4 Try.f4 rfl rfl rfl rfl rfl rfl rfl ⟨rfl, rfl, rfl, rfl, rfl⟩ rfl rfl rfl rfl rfl (by kernel_rfl) Try.func4 (by kernel_rfl)
    (of_decide_eq_true (by kernel_rfl)) (by unfold Func.isWrapper; first | (rw [if_pos (by decide +kernel)]; kernel_rfl) | (rw [if_neg (by decide +kernel)]; exact ⟨rfl, rfl⟩))
    (fun os started H enc _ => lifted os started H enc)
end Go.Proofs.Ytnjnplepecmfaaa.diskKeeps
namespace Go.Proofs.Ytnjnplepecmfaaa
/-- The statement, by its short name. -/
theorem diskKeeps_holds : Rows.DiskKeepsSaid := diskKeeps.over
#print axioms diskKeeps_holds
end Go.Proofs.Ytnjnplepecmfaaa
