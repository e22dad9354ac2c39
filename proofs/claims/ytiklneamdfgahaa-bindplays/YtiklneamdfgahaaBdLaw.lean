/-
  Layer 15 (bind): what a law carries; the contract of the statement that behind Release no page is bound to the frame, over the translated program.
-/
import Derived.Test.YtiklneamdfgahaaBdDoes
import Derived.Test.YtiklneamdfgahaaBdAwake
import Derived.Test.YtiklneamdfgahaaBdFlat
import Derived.Test.YtiklneamdfgahaaInts
namespace Go.Proofs.Ytiklneamdfgahaa.Bd
open Go.ChangeShapes Go.WideShapes Go.ChangeAt Go.RowKit
open Wh
set_option linter.unusedVariables false
set_option maxRecDepth 20000

theorem wpList_build' {P : Program} {ops : Array Oper} {rest : List Oper} {o : Oper} {a : Act} {w : World} {Q : Exit → Act → World → Prop} (hg : o.guard = none) (t : TypeId) (parts : List (Nat × Operand)) (ho : o.op = .build t parts.toArray)
    (cells : Array Value) (hf : P.built t (parts.map fun (i, x) => (i, a.eval x)) = some cells)
    (h : wpList P ops Q rest (a.put o.dst (.agg cells)) w) : wpList P ops Q (o :: rest) a w := by
  have e : (parts.toArray.map fun (i, x) => (i, a.eval x)).toList = parts.map fun (i, x) => (i, a.eval x) := by simp
  exact wpList_build hg t parts.toArray ho (by rw [e, hf]; rfl) (by rw [e, hf]; exact h)
/-- How far a law is: both tables. -/
structure Lw (w : World) (bx bl : Nat) (mo : Option Nat) (T T2 : Tb) (wx : World) : Prop where
  tb : TbAt wx bx mo T
  rf : RfAt wx bl T2
  kp : But [] w wx
  ne : bx ≠ bl
  hx : w.heap.size ≤ bx
  hl : w.heap.size ≤ bl
  hm : ∀ m, mo = some m → w.heap.size ≤ m ∧ m ≠ bl
section
variable {w wx : World} {bx bl : Nat} {mo : Option Nat} {T T2 : Tb}
theorem Lw.keep0 (h : Lw w bx bl mo T T2 wx) {w' : World} (k : But [] wx w') : Lw w bx bl mo T T2 w' :=
  ⟨h.tb.keep0 k, h.rf.keep k (by simp), h.kp.trans k, h.ne, h.hx, h.hl, h.hm⟩
theorem Lw.left (h : Lw w bx bl mo T T2 wx) {T' : Tb} {w' : World} (hl : Lf bx mo T' wx w') : ∃ mo', Lw w bx bl mo' T' T2 w' := by
  obtain ⟨mo', h1, k1, m1⟩ := hl
  have h3 := h.rf.lt
  have hnl : bl ∉ bx :: mo.toList := fun hi => by
    simp at hi
    rcases hi with hi | hi
    · exact h.ne hi.symm
    · exact (h.hm _ hi).2 rfl
  refine ⟨mo', h1, h.rf.keep k1 hnl, but_own h.kp k1 (fun i hi => ?_), h.ne, h.hx, h.hl, fun m hm => ?_⟩
  · simp at hi
    rcases hi with rfl | hi
    · exact h.hx
    · exact (h.hm _ hi).1
  · rcases m1 m hm with hh | hh
    · exact h.hm m hh
    · have := h.kp.size
      exact ⟨by omega, by omega⟩
theorem Lw.dn (h : Lw w bx bl mo T T wx) {w' : World} (hd : Dn bx bl mo wx w') : ∃ mo' T', Lw w bx bl mo' T' T' w' := by
  obtain ⟨mo', T', h1, h2, k, hm⟩ := hd
  refine ⟨mo', T', h1, h2, but_own h.kp k (fun i hi => ?_), h.ne, h.hx, h.hl, fun m hmm => ?_⟩
  · simp at hi
    rcases hi with rfl | rfl | hi
    · exact h.hx
    · exact h.hl
    · exact (h.hm _ hi).1
  · obtain ⟨h3, h4⟩ := hm m hmm
    refine ⟨?_, h3⟩
    rcases h4 with h4 | h4
    · exact (h.hm m h4).1
    · exact Nat.le_trans h.kp.size h4
end
set_option maxHeartbeats 4000000 in
theorem gone_c (frame : Int) (A1 : Option Addr) (len1 cap1 : Nat) (w : World) (r1 : RowOf ks_flatDeed w A1 len1 cap1) :
    Calls Try.prog 4 #[.slice A1 len1 cap1, .int .i64 frame] w fun r w' => r = .returned (.bool true) ∧ But [] w w' := by
  obtain ⟨hlc, hcm, hrow⟩ := r1
  have HR : Hid (len1 = 0 ∨ ∃ b off, A1 = some ⟨b, off, none⟩ ∧ b < w.heap.size ∧ ∀ i, i < len1 → ∃ vs, w.rangeAt b (off + i * 5) vs ∧ Fits ks_flatDeed vs) := hrow
  unfold maxLen at hcm
  clear hrow
  obtain ⟨bx, hbx⟩ : ∃ bx, bx = w.heap.size := ⟨_, rfl⟩
  have HN := hid (new_c w)
  rw [← hbx] at HN
  have HX := hid hbx
  clear hbx
  have hbt := bTab
  go_enter Try.func4, Try.ntmps4
  go_wp2_with fail
  refine HN.out.mono ?_
  rintro e w1 ⟨rfl, h1, k1⟩
  obtain ⟨bl, hbl⟩ : ∃ bl, bl = w1.heap.size := ⟨_, rfl⟩
  have HL2 : Hid (Lw w bx bl none no no (w1.alloc (.cells rz.toArray 31))) := by
    have hr := rz_new w1 31
    rw [← hbl] at hr
    have h2 := h1.lt
    have h3 := HX.out
    have h4 := k1.size
    exact ⟨h1.keep0 ((But.refl [] w1).alloc _), hr, k1.alloc _, by omega, by omega, by omega, fun m hm => by cases hm⟩
  clear h1 k1 HN
  go_upto_region 3 with (first | (refine wpList_build' rfl 31 [] rfl rz.toArray bTab ?_))
  rw [← hbl]
  clear hbl hbt
  generalize w1.alloc (.cells rz.toArray 31) = w2 at *
  go_wp2
  go_loopg [7] 40 (fun g0 iv wx => ∃ (i : Nat) (mo : Option Nat) (T : Tb), i + g0 = 40 ∧ i ≤ len1 ∧ iv = .int .i64 i ∧ Hid (Lw w bx bl mo T T wx))
  case atStart => exact ⟨0, _, _, by omega, Nat.zero_le _, rfl, HL2.out⟩
  case round =>
  obtain ⟨i, mo, T, hig, hil, rfl, HS⟩ := hrel
  clear HL2
  rename World => wa
  obtain ⟨z, hz⟩ : ∃ z : Bool, z = decide (i < len1 ∧ i < 40) := ⟨_, rfl⟩
  have HZ := hid hz
  clear hz
  go_upto_region 4 with fail
  go_cut [24] from 17 to 23 (fun s24 wx => s24 = .bool z ∧ wx = wa)
  case first =>
    by_cases hlt : i < len1
    · have hilt : decide ((i : Int) < (len1 : Int)) = true := decide_eq_true (by omega)
      by_cases h80 : i < 40
      · have hi80 : decide ((i : Int) < 40) = true := decide_eq_true (by omega)
        go_wp2_with fail
        go_meet
        exact ⟨by rw [HZ.out, decide_eq_true ⟨hlt, h80⟩], rfl⟩
      · have hi80 : decide ((i : Int) < 40) = false := decide_eq_false (by omega)
        go_wp2_with fail
        go_meet
        exact ⟨by rw [HZ.out, decide_eq_false (fun h => h80 h.2)], rfl⟩
    · have hilt : decide ((i : Int) < (len1 : Int)) = false := decide_eq_false (by omega)
      go_wp2_with fail
      go_meet
      exact ⟨by rw [HZ.out, decide_eq_false (fun h => hlt h.1)], rfl⟩
  case rest =>
  obtain ⟨rfl, hwa⟩ := hcut
  rw [hwa]
  clear hwa
  cases z with
  | true =>
    obtain ⟨hlt, h80⟩ := of_decide_eq_true HZ.out.symm
    obtain ⟨bA, off, rfl, hbl, hall⟩ : ∃ bA off, A1 = some ⟨bA, off, none⟩ ∧ bA < w.heap.size ∧ ∀ i, i < len1 → ∃ vs, w.rangeAt bA (off + i * 5) vs ∧ Fits ks_flatDeed vs := by
      rcases HR.out with h | h
      · omega
      · exact h
    obtain ⟨vs, hr, hfit⟩ := hall i hlt
    obtain ⟨K, s, p, f, u, rfl, i1, i2⟩ := deed_of hfit
    have HI := hid (And.intro i1 i2)
    have HRE := hid (range_keep hr HS.out.kp (by simp))
    clear hall hr hfit i1 i2
    have hilt : (i : Int) < (len1 : Int) := by omega
    go_wp2_with (first
      | (refine wpList_load_mid rfl 33 _ rfl bA (off + i * 5) rfl [.int .i64 K, .int .i64 s, .int .i64 p, .int .i64 f, .bool u] _ HRE.out Try.underlying33 rfl infoDeed ?_)
      | fail)
    refine (does_c bx bl mo T K s p f u wa HS.out.tb HS.out.rf HS.out.ne (fun m hm => (HS.out.hm m hm).2) HI.out.1 HI.out.2).mono ?_
    rintro r w6 ⟨rfl, hd⟩
    obtain ⟨mo', T', hs6⟩ := HS.out.dn hd
    have HS6 := hid hs6
    clear hd hs6 HS HRE
    go_wp2
    go_roundg (40 - (i + 1))
    case measure => omega
    case rel => exact ⟨i + 1, mo', T', by omega, by omega, by go_num, HS6.out⟩
  | false =>
    clear HZ hig hil
    go_wp2_with fail
    refine (release_c bx mo T frame wa HS.out.tb).mono ?_
    rintro r w3 ⟨rfl, hf⟩
    have HOK : Hid (Ok T) := HS.out.tb.ok
    obtain ⟨m1, hs3⟩ := HS.out.left hf
    have HS3 := hid hs3
    clear hf hs3 HS
    obtain ⟨N, hN⟩ : ∃ N, N = dn T (isF T frame) 2048 := ⟨_, rfl⟩
    rw [← hN]
    have HNN := hid hN
    clear hN
    go_wp2
    go_loopg [8, 9] 65 (fun g0 nv sv wx => ∃ s n : Nat, s + g0 = 65 ∧ s ≤ 64 ∧ sv = .int .i64 s ∧ nv = .int .i64 n ∧ Hid (n + dn T (isF T frame) (s * 32) = N) ∧ Hid (Lw w bx bl m1 (cut T (isF T frame)) T wx))
    case atStart => exact ⟨0, N, by omega, by omega, rfl, rfl, by show _ = _; rw [Nat.zero_mul, show dn T (isF T frame) 0 = 0 from ct_zero _]; rfl, HS3.out⟩
    case round =>
    clear HS3
    obtain ⟨s, n0, hsg, hs, rfl, rfl, HN0, HS0⟩ := hrel
    by_cases hslt : s < 64
    · have hsI : (s : Int) < 64 := by omega
      go_wp2
      go_loopg [8, 10] 33 (fun g1 nv pv wx => ∃ p n : Nat, p + g1 = 33 ∧ p ≤ 32 ∧ pv = .int .i64 p ∧ nv = .int .i64 n ∧ Hid (n + dn T (isF T frame) (s * 32 + p) = N) ∧ Hid (Lw w bx bl m1 (cut T (isF T frame)) T wx))
      case atStart => exact ⟨0, n0, by omega, by omega, rfl, rfl, HN0.out, HS0.out⟩
      case round =>
      clear HN0 HS0
      rename World => wb
      obtain ⟨p, n, hpg, hp, rfl, rfl, HNP, HSP⟩ := hrel
      by_cases hplt : p < 32
      · have hpI : (p : Int) < 32 := by omega
        have HI : Hid (I64 s ∧ I64 p) := ⟨i64_small (by omega) (by omega), i64_small (by omega) (by omega)⟩
        have HD := hid (dn_succ T (isF T frame) (s * 32 + p))
        have hmono := ct_mono (fun k => bd1 T k && isF T frame k) (s * 32 + p + 1) (2048 - (s * 32 + p + 1))
        rw [show s * 32 + p + 1 + (2048 - (s * 32 + p + 1)) = 2048 by omega] at hmono
        have HMN : Hid (dn T (isF T frame) (s * 32 + p + 1) ≤ N) := by
          show _ ≤ _
          rw [HNN.out]
          exact hmono
        have HNL : Hid (N ≤ 2048) := by show _ ≤ _; rw [HNN.out]; exact dn_le _ _ _
        have HG1 := hid (get_c _ m1 (cut T (isF T frame)) s p wb (Tv.at_ HSP.out.tb) HI.out.1 HI.out.2)
        have HGT := hid (gt_nat T s p hslt hplt)
        have HGT1 := hid (gt_nat (cut T (isF T frame)) s p hslt hplt)
        clear hmono
        cases hb : T (s * 32 + p) with
        | none =>
          have HE2 : Hid (gtb T s p = false ∧ gtv T s p = (0, false)) := gtb_none (by rw [HGT.out, hb])
          have h1 : gt (cut T (isF T frame)) s p = none := by rw [HGT1.out]; unfold cut; rw [hb]; simp
          rw [(gtb_none h1).1, (gtb_none h1).2] at HG1
          have HFT : Hid ((bd1 T (s * 32 + p) && isF T frame (s * 32 + p)) = false) := by show _ = _; rw [isF_none hb]; simp
          clear hb h1 HGT HGT1
          go_wp2_with fail
          refine HG1.out.mono ?_
          rintro r w1 ⟨rfl, k1⟩
          obtain ⟨gb, hgb⟩ : ∃ gb, gb = w1.heap.size := ⟨_, rfl⟩
          have hB := new_range w1 [.int .i64 0, .bool false] 36
          rw [← hgb] at hB
          have HB := hid hB
          have HS2 := hid (HSP.out.keep0 (k1.alloc (.cells #[.int .i64 0, .bool false] 36)))
          clear k1 hB HG1
          go_upto_region 15 with fail
          rw [← hgb]
          clear hgb
          generalize w1.alloc (.cells #[.int .i64 0, .bool false] 36) = w2 at *
          have HG2 := hid (rget_v bl T s p w2 HS2.out.rf)
          rw [HE2.out.1, HE2.out.2] at HG2
          go_wp2_with fail
          refine HG2.out.mono ?_
          rintro r w3 ⟨rfl, k3⟩
          obtain ⟨gc, hgc⟩ : ∃ gc, gc = w3.heap.size := ⟨_, rfl⟩
          have hC := new_range w3 [.bool false, .int .i64 0, .bool false] 27
          have hT := there_new w3 #[.bool false, .int .i64 0, .bool false] 27 3 rfl
          rw [← hgc] at hC hT
          have HC := hid hC
          have HT := hid hT
          have HB4 := hid (range_keep HB.out (k3.alloc (.cells #[.bool false, .int .i64 0, .bool false] 27)) (by simp))
          have HGE : Hid (w2.heap.size ≤ gc) := by show _ ≤ _; rw [hgc]; exact k3.size
          have HK4 := hid (k3.alloc (.cells #[.bool false, .int .i64 0, .bool false] 27))
          clear k3 hC hT HG2 HB
          go_upto_region 16 with fail
          rw [← hgc]
          clear hgc
          generalize w3.alloc (.cells #[.bool false, .int .i64 0, .bool false] 27) = w4 at *
          have hb0 := range_cells HB4.out 0 _ rfl
          have hb1 := range_cells HB4.out 1 _ rfl
          have hc0 := range_cells HC.out 0 _ rfl
          have hc1 := range_cells HC.out 1 _ rfl
          have hc2 := range_cells HC.out 2 _ rfl
          have hcf := (HT.out 0 (by omega)).2
          simp only [Nat.zero_add] at hb0 hb1 hc0 hc1 hc2 hcf
          have HN2 : Hid (n + dn T (isF T frame) (s * 32 + (p + 1)) = N) := by
            show _ = _
            have h1 := HNP.out
            have h2 := HD.out
            rw [HFT.out] at h2
            simp at h2
            rw [← Nat.add_assoc, h2]
            exact h1
          have HS5 := hid (HS2.out.keep0 HK4.out)
          clear HNP HD HMN HNL HS2 HK4
          go_wp2
          go_roundg (33 - (p + 1))
          case measure => omega
          case rel => exact ⟨p + 1, n, by omega, by omega, by go_num, rfl, HN2.out, HS5.out⟩
        | some bb =>
          obtain ⟨fr, u⟩ := bb
          have HE2 : Hid (gtb T s p = true ∧ gtv T s p = (fr, u)) := gtb_some (by rw [HGT.out, hb])
          by_cases hfr : fr = frame
          · subst hfr
            have h1 : gt (cut T (isF T fr)) s p = none := by rw [HGT1.out]; unfold cut; rw [if_pos (by rw [isF_some hb]; simp)]
            rw [(gtb_none h1).1, (gtb_none h1).2] at HG1
            have HFT : Hid ((bd1 T (s * 32 + p) && isF T fr (s * 32 + p)) = true) := by show _ = _; rw [isF_some hb]; unfold bd1; rw [hb]; simp
            clear hb h1 HGT HGT1
            go_wp2_with fail
            refine HG1.out.mono ?_
            rintro r w1 ⟨rfl, k1⟩
            obtain ⟨gb, hgb⟩ : ∃ gb, gb = w1.heap.size := ⟨_, rfl⟩
            have hB := new_range w1 [.int .i64 0, .bool false] 36
            rw [← hgb] at hB
            have HB := hid hB
            have HS2 := hid (HSP.out.keep0 (k1.alloc (.cells #[.int .i64 0, .bool false] 36)))
            clear k1 hB HG1
            go_upto_region 15 with fail
            rw [← hgb]
            clear hgb
            generalize w1.alloc (.cells #[.int .i64 0, .bool false] 36) = w2 at *
            have HG2 := hid (rget_v bl T s p w2 HS2.out.rf)
            rw [HE2.out.1, HE2.out.2] at HG2
            go_wp2_with fail
            refine HG2.out.mono ?_
            rintro r w3 ⟨rfl, k3⟩
            obtain ⟨gc, hgc⟩ : ∃ gc, gc = w3.heap.size := ⟨_, rfl⟩
            have hC := new_range w3 [.bool true, .int .i64 fr, .bool u] 27
            have hT := there_new w3 #[.bool true, .int .i64 fr, .bool u] 27 3 rfl
            rw [← hgc] at hC hT
            have HC := hid hC
            have HT := hid hT
            have HB4 := hid (range_keep HB.out (k3.alloc (.cells #[.bool true, .int .i64 fr, .bool u] 27)) (by simp))
            have HGE : Hid (w2.heap.size ≤ gc) := by show _ ≤ _; rw [hgc]; exact k3.size
            have HK4 := hid (k3.alloc (.cells #[.bool true, .int .i64 fr, .bool u] 27))
            clear k3 hC hT HG2 HB
            go_upto_region 16 with fail
            rw [← hgc]
            clear hgc
            generalize w3.alloc (.cells #[.bool true, .int .i64 fr, .bool u] 27) = w4 at *
            have hb0 := range_cells HB4.out 0 _ rfl
            have hb1 := range_cells HB4.out 1 _ rfl
            have hc0 := range_cells HC.out 0 _ rfl
            have hc1 := range_cells HC.out 1 _ rfl
            have hc2 := range_cells HC.out 2 _ rfl
            have hcf := (HT.out 0 (by omega)).2
            simp only [Nat.zero_add] at hb0 hb1 hc0 hc1 hc2 hcf
            have HN1 : Hid (∃ n1 : Nat, n = n1 + 1 ∧ n1 + dn T (isF T fr) (s * 32 + (p + 1)) = N) := by
              have h1 := HNP.out
              have h2 := HD.out
              have h3 := HMN.out
              rw [HFT.out] at h2
              simp at h2
              exact ⟨n - 1, by omega, by rw [← Nat.add_assoc]; omega⟩
            obtain ⟨n1, rfl, hn1⟩ := HN1.out
            have HN2 := hid hn1
            have hw : IntKind.i64.wrap (n1 : Int) = (n1 : Int) := by
              have h1 := HN2.out
              have h2 := HNL.out
              exact wrap_small _ (by omega) (by omega)
            have HS5 := hid (HS2.out.keep0 (HK4.out.setCell (p := ⟨gc, 0, none⟩) (.inr HGE.out) (.bool false)))
            clear HN1 hn1 HNP HD HMN HNL HS2 HK4
            go_wp2
            go_roundg (33 - (p + 1))
            case measure => omega
            case rel => exact ⟨p + 1, n1, by omega, by omega, by go_num, rfl, HN2.out, HS5.out⟩
          · have hfb : (fr == frame) = false := by simpa using hfr
            have h1 : gt (cut T (isF T frame)) s p = some (fr, u) := by rw [HGT1.out]; unfold cut; rw [if_neg (by rw [isF_some hb]; simp [hfr]), hb]
            rw [(gtb_some h1).1, (gtb_some h1).2] at HG1
            have HFT : Hid ((bd1 T (s * 32 + p) && isF T frame (s * 32 + p)) = false) := by show _ = _; rw [isF_some hb, hfb]; simp
            clear hb h1 HGT HGT1 hfr
            go_wp2_with fail
            refine HG1.out.mono ?_
            rintro r w1 ⟨rfl, k1⟩
            obtain ⟨gb, hgb⟩ : ∃ gb, gb = w1.heap.size := ⟨_, rfl⟩
            have hB := new_range w1 [.int .i64 fr, .bool u] 36
            rw [← hgb] at hB
            have HB := hid hB
            have HS2 := hid (HSP.out.keep0 (k1.alloc (.cells #[.int .i64 fr, .bool u] 36)))
            clear k1 hB HG1
            go_upto_region 15 with fail
            rw [← hgb]
            clear hgb
            generalize w1.alloc (.cells #[.int .i64 fr, .bool u] 36) = w2 at *
            have HG2 := hid (rget_v bl T s p w2 HS2.out.rf)
            rw [HE2.out.1, HE2.out.2] at HG2
            go_wp2_with fail
            refine HG2.out.mono ?_
            rintro r w3 ⟨rfl, k3⟩
            obtain ⟨gc, hgc⟩ : ∃ gc, gc = w3.heap.size := ⟨_, rfl⟩
            have hC := new_range w3 [.bool true, .int .i64 fr, .bool u] 27
            have hT := there_new w3 #[.bool true, .int .i64 fr, .bool u] 27 3 rfl
            rw [← hgc] at hC hT
            have HC := hid hC
            have HT := hid hT
            have HB4 := hid (range_keep HB.out (k3.alloc (.cells #[.bool true, .int .i64 fr, .bool u] 27)) (by simp))
            have HGE : Hid (w2.heap.size ≤ gc) := by show _ ≤ _; rw [hgc]; exact k3.size
            have HK4 := hid (k3.alloc (.cells #[.bool true, .int .i64 fr, .bool u] 27))
            clear k3 hC hT HG2 HB
            go_upto_region 16 with fail
            rw [← hgc]
            clear hgc
            generalize w3.alloc (.cells #[.bool true, .int .i64 fr, .bool u] 27) = w4 at *
            have hb0 := range_cells HB4.out 0 _ rfl
            have hb1 := range_cells HB4.out 1 _ rfl
            have hc0 := range_cells HC.out 0 _ rfl
            have hc1 := range_cells HC.out 1 _ rfl
            have hc2 := range_cells HC.out 2 _ rfl
            have hcf := (HT.out 0 (by omega)).2
            simp only [Nat.zero_add] at hb0 hb1 hc0 hc1 hc2 hcf
            have HN2 : Hid (n + dn T (isF T frame) (s * 32 + (p + 1)) = N) := by
              show _ = _
              have h1 := HNP.out
              have h2 := HD.out
              rw [HFT.out] at h2
              simp at h2
              rw [← Nat.add_assoc, h2]
              exact h1
            have HS5 := hid (HS2.out.keep0 HK4.out)
            clear HNP HD HMN HNL HS2 HK4
            go_wp2
            go_roundg (33 - (p + 1))
            case measure => omega
            case rel => exact ⟨p + 1, n, by omega, by omega, by go_num, rfl, HN2.out, HS5.out⟩
      · obtain rfl : p = 32 := by omega
        have HN1 : Hid (n + dn T (isF T frame) ((s + 1) * 32) = N) := by
          show _ = _
          rw [show (s + 1) * 32 = s * 32 + 32 by omega]
          exact HNP.out
        clear HNP
        go_wp2
        go_roundg (65 - (s + 1))
        case measure => omega
        case rel => exact ⟨s + 1, n, by omega, by omega, by go_num, rfl, HN1.out, HSP.out⟩
    · obtain rfl : s = 64 := by omega
      have hn : n0 = 0 := by
        have h1 := HN0.out
        have h2 := HNN.out
        change n0 + dn T (isF T frame) 2048 = N at h1
        omega
      subst hn
      have HU : Hid (usl (cut T (isF T frame)) frame 2048 = []) := usl_none 2048 (fun k _ => isF_cut T frame k)
      have HD0 : Hid (dn (cut T (isF T frame)) (isF (cut T (isF T frame)) frame) 2048 = 0) := by
        show _ = _
        rw [← usl_dn, HU.out]
        rfl
      clear HN0
      go_wp2_with fail
      refine (uses_c _ m1 _ frame _ (Tv.at_ HS0.out.tb)).mono ?_
      rw [HU.out]
      rintro e w7 ⟨A, c, rfl, hq, k7⟩
      have HS7 := hid (HS0.out.keep0 k7)
      clear hq k7
      go_wp2_with fail
      refine (release_c bx m1 _ frame _ HS7.out.tb).mono ?_
      rw [HD0.out]
      rintro e w8 ⟨rfl, hf⟩
      obtain ⟨m2, hs8⟩ := HS7.out.left hf
      have HS8 := hid hs8
      clear hf hs8
      go_wp2_with fail
      refine (awake_c _).mono ?_
      rintro e w9 ⟨rfl, k9⟩
      have HK9 := hid (HS8.out.kp.trans k9)
      clear k9
      go_wp2
      go_ret
      exact ⟨rfl, HK9.out⟩
end Go.Proofs.Ytiklneamdfgahaa.Bd
