/-
  Whatever the input, the Go function FramesApart answers true, and its arguments read behind the call as they read before. No condition.
-/
import Derived.Test.YthabdcejjnhpbaaRows
import Derived.Test.YthabdcejjnhpbaaFrApart
import Derived.WalkKit
import Derived.Deep.LoopGhost
import Derived.Deep.CutBlock
import Derived.Deep.DeepCutAuto
import Derived.ProofKit
import Derived.OpenShut
import Derived.ShutString
import Derived.ChangeOld
import Derived.Below
import Derived.Carry
namespace Go.Proofs.Ythabdcejjnhpbaa.framesApart
open Go.ChangeShapes Go.WideShapes Go.ChangeAt Go.RowKit
open Go.ChangeMaps (open_string shut_string)
set_option linter.unusedVariables false

theorem own : ownKnob Try.prog.godebug = none := by kernel_rfl
theorem laidOut : laidOutB Try.prog = true := by kernel_rfl

set_option maxHeartbeats 4000000 in
set_option maxRecDepth 100000 in
theorem walk (w : World) (A0 : Option Addr) (len0 cap0 : Nat) (r0 : RowOf ks_flatDeed w A0 len0 cap0) (c1 : Array Value) (f1 : Fits ks_flatDeed c1.toList) (a2 : Int) (w2 : (Lit.int .i64 a2).wf = true) :
    Calls Try.prog 4 #[.slice A0 len0 cap0, .agg c1, .int .i64 a2] w fun e w' => e = .returned (.bool true) ∧ Below w.heap.size w w' := by
  obtain ⟨hlc, hcm, hrow⟩ := r0
  have HR : Hid (len0 = 0 ∨ ∃ b off, A0 = some ⟨b, off, none⟩ ∧ b < w.heap.size ∧ ∀ i, i < len0 → ∃ vs, w.rangeAt b (off + i * 4) vs ∧ Fits ks_flatDeed vs) := hrow
  unfold maxLen at hcm
  clear hrow w2
  obtain ⟨cl⟩ := c1
  obtain ⟨K, F, A, V, rfl⟩ := deed_of f1
  clear f1
  obtain ⟨i0, hi, hz0, hz1, hz2⟩ := info_parts Try.infoU32
  have HI : Hid (Try.prog.info? 28 = some i0) := hi
  have HZ0 : Hid (i0.zero = some (.int .u32 0)) := hz0
  have HZ1 : Hid (i0.size = 1) := hz1
  have HZ2 : Hid (i0.bytes = 4) := hz2
  clear hi hz0 hz1 hz2
  have HX : Hid (Box w w.heap.size K F A V (w.alloc (.cells #[.int .i64 K, .int .i64 F, .int .i64 A, .int .u32 V] 30))) := box_new _ _ _ _ _ _
  have HB0 : Hid (But [] w (w.alloc (.cells #[.int .i64 K, .int .i64 F, .int .i64 A, .int .u32 V] 30))) := (But.refl [] w).alloc _
  obtain ⟨g, hg⟩ : ∃ g, g = w.heap.size := ⟨_, rfl⟩
  have hgw : w.heap.size ≤ g := by omega
  go_enter Try.func4, Try.ntmps4
  go_wp2_with fail
  refine (new_c 5 _ (by omega) (by omega)).mono ?_
  rintro e w1 ⟨bm, bp, rfl, hbm, hbp, hM, k1⟩
  have HX1 : Hid (Box w g K F A V w1) := by rw [hg]; exact HX.out.keep k1 (by simp)
  have hbm' : g < bm := by rw [hg]; have h := hbm; simp at h; omega
  have hbp' : g < bp := by rw [hg]; have h := hbp; simp at h; omega
  have HM1 : Hid (MemAt w1 bm bp 5 (List.replicate (16 * 5) 0)) := hM
  have HK1 : Hid (But [] w w1) := HB0.out.trans k1
  rw [← hg]
  clear hM k1 HX HB0 hg hbm hbp
  go_wp2_with fail
  refine (rnew_c 5 _ (by omega) (by omega)).mono ?_
  rintro e w2 ⟨bx, cx, rfl, hbx, hX, k2⟩
  have hz := HK1.out.size
  obtain ⟨hl1, hl2⟩ := HM1.out.lt
  have h1 : bx ≠ bp := by omega
  have h2 : bx ≠ bm := by omega
  have hbx' : g < bx := by omega
  have HB : Hid (Both w bm bp bx 5 (List.replicate (16 * 5) 0) w2 ∧ Box w g K F A V w2) := ⟨⟨HM1.out.keep k2 (by simp) (by simp), hX, ((HK1.out.trans k2).wider (by simp))⟩, HX1.out.keep k2 (by simp)⟩
  clear hX k2 HX1 HM1 HK1 hz hl1 hl2 hbx
  go_upto_block 0 with fail
  go_cut [9] (fun s9 wx => ∃ (xs : List Int), Both w bm bp bx 5 xs wx ∧ Box w g K F A V wx)
  case first =>
    go_wp2_with fail
    go_loopg [9] 20 (fun g2 i wx => ∃ (m : Nat) (xs : List Int), m + g2 = 20 ∧ m ≤ len0 ∧ i = .int .i64 m ∧ Both w bm bp bx 5 xs wx ∧ Box w g K F A V wx)
    case atStart => exact ⟨0, _, by omega, Nat.zero_le _, rfl, HB.out.1, HB.out.2⟩
    case round =>
      obtain ⟨m, xs, hmg, hml, rfl, hb, hx⟩ := hrel
      have HX : Hid (Both w bm bp bx 5 xs wr ∧ Box w g K F A V wr) := ⟨hb, hx⟩
      clear hb hx HB
      by_cases hgo : m < len0 ∧ m < 20
      · obtain ⟨hlt, h20⟩ := hgo
        have hex : ∃ b off, A0 = some ⟨b, off, none⟩ ∧ b < w.heap.size ∧ ∀ i, i < len0 → ∃ vs, w.rangeAt b (off + i * 4) vs ∧ Fits ks_flatDeed vs := by
          rcases HR.out with h | h
          · omega
          · exact h
        obtain ⟨b, off, hA, hbl, hall⟩ := hex
        obtain ⟨vs, hr, hfit⟩ := hall m hlt
        obtain ⟨K', F', A', V', rfl⟩ := deed_of hfit
        have HRa : Hid (wr.rangeAt b (off + m * 4) [.int .i64 K', .int .i64 F', .int .i64 A', .int .u32 V']) := range_keep hr HX.out.1.but (by simp; omega)
        subst hA
        clear hall hr hfit
        have hmlt : (m : Int) < (len0 : Int) := by omega
        go_wp2_with (first
          | (refine wpList_load_mid rfl 30 _ rfl b (off + m * 4) rfl [.int .i64 K', .int .i64 F', .int .i64 A', .int .u32 V'] _ HRa.out Try.underlying30 rfl infoDeed ?_))
        refine (does_c bm bp bx 5 cx xs K' F' A' V' _ HX.out.1.mem HX.out.1.blk h1 h2).mono ?_
        rintro e w3 ⟨rfl, h3⟩
        have H3 : Hid (Both w bm bp bx 5 (dd 5 xs K' F' A' V') w3 ∧ Box w g K F A V w3) := ⟨⟨h3.mem, h3.blk, HX.out.1.but.trans h3.but⟩, HX.out.2.keep h3.but (by simp; omega)⟩
        clear h3
        go_wp2
        go_roundg (20 - (m + 1))
        case measure => omega
        case rel => exact ⟨m + 1, _, by omega, by omega, by go_num, H3.out.1, H3.out.2⟩
      · by_cases hlt : m < len0
        · obtain rfl : m = 20 := by omega
          go_wp2
          go_meet
          case rel => exact ⟨xs, HX.out.1, HX.out.2⟩
        · go_wp2
          go_meet
          case rel => exact ⟨xs, HX.out.1, HX.out.2⟩
  case rest =>
    obtain ⟨xs, hb, hx⟩ := hcut
    have hL : xs.length = 80 := by have := hb.mem.len; omega
    have HL : Hid (xs.length = 80) := hL
    obtain ⟨hs1, hs2⟩ := hb.mem.lt
    have hs3 : bx < wc.heap.size := hb.blk.lt (by omega)
    have hs4 : g < wc.heap.size := lt_of_cell hx.k
    have H5 : Hid (Both w bm bp bx 5 xs wc ∧ Box w g K F A V wc) := ⟨hb, hx⟩
    clear hb hx HB hL
    go_wp2_with fail
    refine (twin_c bm bp 5 xs _ H5.out.1.mem).mono ?_
    rintro e w3 ⟨cm, cp, rfl, hcm3, hcp3, ht3, k3⟩
    have H3 : Hid (MemAt w3 bm bp 5 xs ∧ MemAt w3 cm cp 5 xs ∧ Blk w3 bx xs ∧ Box w g K F A V w3 ∧ Below w.heap.size w w3) :=
      ⟨H5.out.1.mem.keep k3 (by simp) (by simp), ht3, H5.out.1.blk.keep k3 (by simp), H5.out.2.keep k3 (by simp), (H5.out.1.but.below (Nat.le_refl _) (by simp; omega)).trans (k3.below H5.out.1.but.size (by simp))⟩
    have hz3 := k3.size
    clear k3 ht3 H5
    go_wp2_with fail
    refine (same_c cm cp 5 bx cx xs _ H3.out.2.1 H3.out.2.2.1).mono ?_
    rintro e w4 ⟨rfl, k4⟩
    have H4 : Hid (MemAt w4 bm bp 5 xs ∧ MemAt w4 cm cp 5 xs ∧ Blk w4 bx xs ∧ Box w g K F A V w4 ∧ Below w.heap.size w w4) :=
      ⟨H3.out.1.keep k4 (by simp) (by simp), H3.out.2.1.keep k4 (by simp) (by simp), H3.out.2.2.1.keep k4 (by simp), H3.out.2.2.2.1.keep k4 (by simp), H3.out.2.2.2.2.trans (k4.below H3.out.2.2.2.2.size (by simp))⟩
    clear k4 H3
    go_wp2_with fail
    refine (others_c bm bp cm cp 5 xs xs none 0 [] _ H4.out.1 H4.out.2.1 (.inl rfl) (by simp)).mono ?_
    rintro e w5 ⟨rfl, k5⟩
    rw [othM_self]
    have H5 : Hid (MemAt w5 bm bp 5 xs ∧ MemAt w5 cm cp 5 xs ∧ Blk w5 bx xs ∧ Box w g K F A V w5 ∧ Below w.heap.size w w5) :=
      ⟨H4.out.1.keep k5 (by simp) (by simp), H4.out.2.1.keep k5 (by simp) (by simp), H4.out.2.2.1.keep k5 (by simp), H4.out.2.2.2.1.keep k5 (by simp), H4.out.2.2.2.2.trans (k5.below H4.out.2.2.2.2.size (by simp))⟩
    obtain ⟨hq1, hq2⟩ := H5.out.1.lt
    obtain ⟨hq3, hq4⟩ := H5.out.2.1.lt
    have hq5 : bx < w5.heap.size := H5.out.2.2.1.lt (by have := HL.out; omega)
    have hq6 : g < w5.heap.size := lt_of_cell H5.out.2.2.2.1.k
    clear k5 H4
    have hnews : Hid (∀ j u, (xs.map (Value.int .u32))[j]? = some u → w5.cell? ((⟨bx, 0, none⟩ : Addr).add j) = some u) := by
      show ∀ j u, _ → _
      intro j u hu
      have hj : j < xs.length := by have := (List.getElem?_eq_some_iff.1 hu).1; rwa [List.length_map] at this
      have hk := (H5.out.2.2.1 j hj).1
      rw [Addr.add_mid, Nat.zero_add, hk, ← hu]
      simp [List.getD, hj]
    have hone : Hid (∀ u ∈ xs.map (Value.int .u32), u.oneCell' = true) := by
      show ∀ u ∈ _, _
      intro u hu
      obtain ⟨x, _, rfl⟩ := List.mem_map.1 hu
      rfl
    have hlen : Hid ((xs.map (Value.int .u32)).length = 80 * 1) := by show _ = _; rw [List.length_map, HL.out]
    go_wp2_with (first
      | (at_builtin; refine wpList_append_own _ rfl _ _ 25 rfl w5.heap.size 28 i0 (.int .u32 0) 1 4 Try.underlying25 HI.out HZ0.out HZ1.out HZ2.out rfl (by decide) _ 0 [] rfl (World.ownsRow_nil _ _ _ _) ⟨bx, 0, none⟩ 80 cx (xs.map (Value.int .u32)) rfl hlen.out hnews.out hone.out ?c3 ?c4 ?c5 ?_))
    case c3 => unfold maxLen; omega
    case c4 => omega
    case c5 => exact Nat.le_refl _
    intro v6 w6 hown hgrow _
    have k6 : But [] w5 w6 := (But.refl [] w5).grown hgrow (fun k hk => by simp [Value.ownBlock] at hk)
    obtain ⟨bz, cz, hv, hgz, _, hblk⟩ := own_blk hown (by omega)
    have H6 : Hid (MemAt w6 bm bp 5 xs ∧ MemAt w6 cm cp 5 xs ∧ Blk w6 bx xs ∧ Box w g K F A V w6 ∧ Below w.heap.size w w6 ∧ Blk w6 bz xs) :=
      ⟨H5.out.1.keep k6 (by simp) (by simp), H5.out.2.1.keep k6 (by simp) (by simp), H5.out.2.2.1.keep k6 (by simp), H5.out.2.2.2.1.keep k6 (by simp), H5.out.2.2.2.2.trans (k6.below H5.out.2.2.2.2.size (by simp)), hblk⟩
    rw [hv]
    clear hown hgrow hv hblk k6 H5 hnews hone hlen
    have HRg : Hid (w6.rangeAt g 0 [.int .i64 K, .int .i64 F, .int .i64 A, .int .u32 V]) := box_range H6.out.2.2.2.1
    go_wp2_with (first
      | (refine wpList_load_mid rfl 30 _ rfl g 0 rfl [.int .i64 K, .int .i64 F, .int .i64 A, .int .u32 V] _ HRg.out Try.underlying30 rfl infoDeed ?_))
    refine (does_c bm bp bz 5 cz xs K F A V _ H6.out.1 H6.out.2.2.2.2.2 (by omega) (by omega)).mono ?_
    rintro e w7 ⟨rfl, h7⟩
    obtain ⟨ys, hys⟩ : ∃ ys, ys = dd 5 xs K F A V := ⟨_, rfl⟩
    have HF : Hid (othM 5 ys xs [F] = true) := by show _ = _; rw [hys]; exact dd_others 5 xs K F A V (by have := HL.out; omega)
    have HLy : Hid (ys.length = 80) := by show _ = _; rw [hys, dd_len, HL.out]
    rw [← hys] at h7
    have H7 : Hid (Four w bm bp cm cp bx bz 5 xs ys w7 ∧ w7.cell? ⟨g, 1, none⟩ = some (.int .i64 F)) :=
      ⟨⟨h7.mem, H6.out.2.1.keep h7.but (by simp; omega) (by simp; omega), H6.out.2.2.1.keep h7.but (by simp; omega), h7.blk, H6.out.2.2.2.2.1.trans (h7.but.below H6.out.2.2.2.2.1.size (by simp; have := H6.out.2.2.2.2.1.size; omega))⟩, (H6.out.2.2.2.1.keep h7.but (by simp; omega)).f⟩
    clear h7 H6 hys HRg
    go_wp2
    go_loopg [12, 13] 80 (fun g2 s12 i wx => ∃ (m : Nat), m + g2 = 80 ∧ i = .int .i64 m ∧ s12 = .bool (sameL xs ys a2 m) ∧ But [] w7 wx)
    case atStart => exact ⟨0, by omega, rfl, rfl, But.refl _ _⟩
    case round =>
      obtain ⟨m, hmg, rfl, rfl, hbx⟩ := hrel
      have HX : Hid (But [] w7 wr) := hbx
      clear hbx
      by_cases hlt : m < 80
      · obtain ⟨q1, hq1'⟩ : ∃ q, q = xs.getD m 0 := ⟨_, rfl⟩
        obtain ⟨q2, hq2'⟩ : ∃ q, q = ys.getD m 0 := ⟨_, rfl⟩
        have hc1 : wr.cell? ⟨bx, m, none⟩ = some (.int .u32 q1) := by rw [hq1']; exact ((H7.out.1.keep HX.out).old m (by have := HL.out; omega)).1
        have hc2 : wr.cell? ⟨bz, m, none⟩ = some (.int .u32 q2) := by rw [hq2']; exact ((H7.out.1.keep HX.out).new m (by have := HLy.out; omega)).1
        have HQ1 : Hid (xs.getD m 0 = q1) := hq1'.symm
        have HQ2 : Hid (ys.getD m 0 = q2) := hq2'.symm
        clear hq1' hq2'
        obtain ⟨sm, hsm⟩ : ∃ sm, sm = sameL xs ys a2 m := ⟨_, rfl⟩
        rw [← hsm]
        have HSm : Hid (sameL xs ys a2 m = sm) := hsm.symm
        clear hsm
        by_cases hqq : q1 = q2
        · subst hqq
          go_wp2
          go_quiet (fail)
          go_wp2
          go_roundg (80 - (m + 1))
          case measure => omega
          case rel => exact ⟨m + 1, by omega, by go_num, by rw [sameL_succ, HSm.out, HQ1.out, HQ2.out]; simp, HX.out.drewN _⟩
        · have hne : (q1 == q2) = false := by simpa using hqq
          have hnb : (q1 != q2) = true := by simpa using hqq
          by_cases hbut : ((m / 16 : Nat) : Int) = a2
          · go_wp2
            go_quiet (fail)
            go_wp2
            go_roundg (80 - (m + 1))
            case measure => omega
            case rel => exact ⟨m + 1, by omega, by go_num, by rw [sameL_succ, HSm.out, HQ1.out, HQ2.out, hne]; simp [hbut], HX.out.drewN _⟩
          · go_wp2
            go_quiet (fail)
            go_wp2
            go_roundg (80 - (m + 1))
            case measure => omega
            case rel => exact ⟨m + 1, by omega, by go_num, by rw [sameL_succ, HSm.out, HQ1.out, HQ2.out, hne]; simp; exact fun _ => hbut, HX.out.drewN _⟩
      · obtain rfl : m = 80 := by omega
        have HO : Hid (othM 5 ys xs [a2] = sameL xs ys a2 80) := othM_sameL 5 xs ys a2
        obtain ⟨sm, hsm⟩ : ∃ sm, sm = sameL xs ys a2 80 := ⟨_, rfl⟩
        rw [← hsm] at HO ⊢
        clear hsm
        have H8 : Hid (Four w bm bp cm cp bx bz 5 xs ys wr ∧ wr.cell? ⟨g, 1, none⟩ = some (.int .i64 F)) := ⟨H7.out.1.keep HX.out, (HX.out.cell (p := ⟨g, 1, none⟩) (lt_of_cell H7.out.2) (by simp)).trans H7.out.2⟩
        clear H7 HX
        go_wp2_with fail
        refine (same_c cm cp 5 bx cx xs _ H8.out.1.twin H8.out.1.old).mono ?_
        rintro e w8 ⟨rfl, k8⟩
        have H9 : Hid (Four w bm bp cm cp bx bz 5 xs ys w8 ∧ w8.cell? ⟨g, 1, none⟩ = some (.int .i64 F)) := ⟨H8.out.1.keep k8, (k8.cell (p := ⟨g, 1, none⟩) (lt_of_cell H8.out.2) (by simp)).trans H8.out.2⟩
        clear H8 k8
        go_wp2_with fail
        refine (same_c bm bp 5 bz cz ys _ H9.out.1.mem H9.out.1.new).mono ?_
        rintro e w9 ⟨rfl, k9⟩
        have H10 : Hid (Four w bm bp cm cp bx bz 5 xs ys w9) := H9.out.1.keep k9
        have hF : w9.cell? ⟨g, 1, none⟩ = some (.int .i64 F) := (k9.cell (p := ⟨g, 1, none⟩) (lt_of_cell H9.out.2) (by simp)).trans H9.out.2
        clear H9 k9
        go_wp2_with fail
        refine (others_c bm bp cm cp 5 ys xs (some ⟨w9.heap.size, 0, none⟩) 1 [F] _ (H10.out.mem.keep ((But.refl [] w9).alloc _) (by simp) (by simp)) (H10.out.twin.keep ((But.refl [] w9).alloc _) (by simp) (by simp)) (rd_one _ _ _) (by simp)).mono ?_
        rintro e w10 ⟨rfl, k10⟩
        rw [HF.out]
        have H11 : Hid (Four w bm bp cm cp bx bz 5 xs ys w10) := (H10.out.keep ((But.refl [] w9).alloc _)).keep k10
        clear H10 k10 hF
        go_wp2_with fail
        refine (others_c bm bp cm cp 5 ys xs (some ⟨w10.heap.size, 0, none⟩) 1 [a2] _ (H11.out.mem.keep ((But.refl [] w10).alloc _) (by simp) (by simp)) (H11.out.twin.keep ((But.refl [] w10).alloc _) (by simp) (by simp)) (rd_one _ _ _) (by simp)).mono ?_
        rintro e w11 ⟨rfl, k11⟩
        rw [HO.out]
        have H12 : Hid (Four w bm bp cm cp bx bz 5 xs ys w11) := (H11.out.keep ((But.refl [] w10).alloc _)).keep k11
        clear H11 k11
        have hk : ∀ w, (binOp .eql 4 (.bool sm) (.bool sm)).run Try.prog w = .ok (.bool true) w := fun w => by cases sm <;> kernel_rfl
        go_wp2_with fail
        refine (awake_c _).mono ?_
        rintro e w12 ⟨rfl, k12⟩
        have H13 : Hid (Four w bm bp cm cp bx bz 5 xs ys w12) := H12.out.keep k12
        clear H12 k12
        go_wp2
        go_ret
        exact ⟨rfl, H13.out.but⟩

set_option maxRecDepth 100000 in
theorem lifted (os : Os) (started : os.Started) (H : Type) (enc : TypeId × Value → H) :
    ReturnsInHanded {} Try.checked os 4 .any (Rows.framesApartSpec.pre6 enc Try.prog Try.f4 Rows.framesApartRow.domain false) (Rows.framesApartSpec.post enc Try.prog Try.f4 false true false false) := by
  refine returnsInHanded_of_change (C := Try.checked) own started (by kernel_rfl) Try.func4
    (ChangeSpec.witness6 (enc := enc) (C := Try.checked) false ⟨#[], #[.slice none 0 0, .agg #[.int .i64 0, .int .i64 0, .int .i64 0, .int .u32 0], .int .i64 0], []⟩ 8 (by kernel_rfl) (by kernel_rfl) (by kernel_rfl) (by kernel_rfl)) ?_
  intro W base args ds gs before hval0 hW hcnd _
  have hval : ∀ (j : Nat) t v, Try.f4.params[j]? = some t → args[j]? = some v → Value.okWide Try.prog W .any base t v := hval0
  have hW' := hW
  obtain ⟨p, q, hA0, hV, rfl, hfz, hnd⟩ := hW
  have hA : DataW.TrodAll enc Try.prog W 0 (fun _ => true) true Try.f4.params.toList args.toList ds p := hA0
  rw [Try.params4] at hA hval
  obtain ⟨v0, vs0, d0, ds0, p0, q0, hargs, rfl, rfl, h0, t0⟩ := trodAll_cons hA
  obtain ⟨v1, vs1, d1, ds1, p1, q1, rfl, rfl, rfl, h1, t1⟩ := trodAll_cons t0
  obtain ⟨v2, vs2, d2, ds2, p2, q2, rfl, rfl, rfl, h2, t2⟩ := trodAll_cons t1
  obtain ⟨rfl, rfl, rfl⟩ := trodAll_nil t2
  obtain rfl : args = #[v0, v1, v2] := by cases args; simp_all
  obtain ⟨rfl, rfl⟩ := trodVars_none hV
  have k0 := h0
  have lt0 : ∀ x ∈ p0, x.block < W.heap.size := by obtain ⟨m, hm⟩ := k0; exact DataW.trod_lt m _ _ _ hm
  have k1 := h1
  have lt1 : ∀ x ∈ p1, x.block < W.heap.size := by obtain ⟨m, hm⟩ := k1; exact DataW.trod_lt m _ _ _ hm
  have k2 := h2
  have lt2 : ∀ x ∈ p2, x.block < W.heap.size := by obtain ⟨m, hm⟩ := k2; exact DataW.trod_lt m _ _ _ hm
  obtain ⟨A0, len0, cap0, rfl⟩ := okWide_slice Try.underlying22 (hval 0 22 v0 rfl rfl)
  have r0 := rowOf_open Try.underlying22 flatDeed (by decide) h0
  obtain ⟨c1, rfl, -⟩ := okWide_struct Try.underlying30 (hval 1 30 v1 rfl rfl)
  have f1 := agg_open flatDeed h1
  obtain ⟨a2, rfl, rfl, rfl, w2⟩ := open_int Try.underlying3 (hval 2 3 v2 rfl rfl) h2
  clear hA0 hval0
  refine (walk W A0 len0 cap0 r0 c1 f1 a2 w2).mono fun e W' ⟨he, hg⟩ => ?_
  subst he
  exact ⟨_, rfl, _, _, _, [], _, [], hW', (trodAll_cons_mk (shut_bool Try.underlying4 _) trodAll_mk0), (trodAll_cons_mk (Below.trod laidOut (by kernel_rfl) (of_decide_eq_true (by kernel_rfl)) k0 hg lt0) (trodAll_cons_mk (Below.trod laidOut (by kernel_rfl) (of_decide_eq_true (by kernel_rfl)) k1 hg lt1) (trodAll_cons_mk (Below.trod laidOut (by kernel_rfl) (of_decide_eq_true (by kernel_rfl)) k2 hg lt2) trodAll_mk0))), rfl, hg.frame _, (fun h => by cases h)⟩

theorem over : Rows.framesApartRow.holds Try.pinned (OpenSpec.ofChange Rows.framesApartSpec) :=
  OpenClaim.holds_of_wide 4 Try.f4 rfl rfl rfl rfl rfl rfl rfl ⟨rfl, rfl, rfl, rfl, rfl⟩ rfl rfl rfl rfl rfl (by kernel_rfl) Try.func4 (by kernel_rfl)
    (of_decide_eq_true (by kernel_rfl)) (by unfold Func.isWrapper; first | (rw [if_pos (by decide +kernel)]; kernel_rfl) | (rw [if_neg (by decide +kernel)]; exact ⟨rfl, rfl⟩))
    (fun os started H enc _ => lifted os started H enc)
end Go.Proofs.Ythabdcejjnhpbaa.framesApart
namespace Go.Proofs.Ythabdcejjnhpbaa
/-- The statement, by its short name. -/
theorem framesApart_holds : Rows.FramesApartSaid := framesApart.over
#print axioms framesApart_holds
end Go.Proofs.Ythabdcejjnhpbaa
