/-
  Whatever the input, the Go function CpuWithin answers true, and its arguments read behind the call as they read before. No condition.
-/
import Derived.Test.YtjlcncdhlcpklaaRows
import Derived.Test.YtjlcncdhlcpklaaCpWithin
import Derived.Test.YtjlcncdhlcpklaaCpGd
import Derived.WalkKit
import Derived.Deep.LoopGhost
import Derived.Deep.CutBlock
import Derived.Deep.DeepCutAuto
import Derived.ProofKit
import Derived.OpenShut
import Derived.ShutString
import Derived.ChangeOld
import Derived.Below
import Derived.Carry
namespace Go.Proofs.Ytjlcncdhlcpklaa.cpuWithin
open Go.ChangeShapes Go.WideShapes Go.ChangeAt Go.RowKit
open Go.ChangeMaps (open_string shut_string)
set_option linter.unusedVariables false

theorem own : ownKnob Try.prog.godebug = none := by kernel_rfl
theorem laidOut : laidOutB Try.prog = true := by kernel_rfl

set_option maxHeartbeats 4000000 in
set_option maxRecDepth 100000 in
theorem walk (w : World) (c0 : Array Value) (f0 : Cp.StartOk w c0) :
    Calls Try.prog 4 #[.agg c0] w fun e w' => e = .returned (.bool true) ∧ Below w.heap.size w w' := by
  obtain ⟨A0, l0, c0', A1, l1, c1', s, c, ys, es, rfl, hcl, hcu, hyl, hyr, hyu, hel, her, hl0, hl1⟩ := f0
  have HLN : Hid (c.length = 17) := hcl
  have HCU : Hid (Cp.U32s c) := hcu
  have HYL : Hid (ys.length = l0) := hyl
  have HEL : Hid (es.length = l1) := hel
  have HYU : Hid (Cp.U32s ys) := hyu
  have hR := new_range w (Cp.stl A0 l0 c0' A1 l1 c1' s c) 29
  have hB := (But.refl [] w).alloc (.cells (Cp.stl A0 l0 c0' A1 l1 c1' s c).toArray 29)
  have hsz : (w.alloc (.cells (Cp.stl A0 l0 c0' A1 l1 c1' s c).toArray 29)).heap.size = w.heap.size + 1 := by simp
  obtain ⟨g, hg⟩ : ∃ g, g = w.heap.size := ⟨_, rfl⟩
  clear hcl hcu hyl hel hyu
  go_enter Try.func4, Try.ntmps4
  go_upto_region 1 with fail
  rw [← hg] at hR hsz ⊢
  generalize w.alloc (.cells (Cp.stl A0 l0 c0' A1 l1 c1' s c).toArray 29) = w0 at hR hB hsz ⊢
  have HR : Hid (w0.rangeAt g 0 (Cp.stl A0 l0 c0' A1 l1 c1' s c)) := hR
  have HY0 : Hid (Rd .u32 w0 0 w0.heap.size A0 ys) := (hyr.keep (hB.below (Nat.le_refl _) (by simp))).wider (Nat.le_refl _) hB.size
  have HE0 : Hid (Tl.Ens w0 0 A1 es) := her.keep hB (by simp)
  have HB0 : Hid (But [] w w0) := hB
  have HG0 : Hid (w.heap.size ≤ g ∧ g < w0.heap.size) := by show _ ∧ _; omega
  have HSZ : Hid ((Try.prog.info? 29).map (·.size) = some (Cp.stl A0 l0 c0' A1 l1 c1' s c).length) := by show _ = _; rw [Cp.stl_len _ _ _ _ _ _ _ _ HLN.out]; rfl
  clear hR hB hsz hyr her hg
  go_wp2_with (first
    | (refine wpList_load_mid rfl 29 _ rfl g 0 rfl (Cp.stl A0 l0 c0' A1 l1 c1' s c) _ HR.out Try.underlying29 rfl HSZ.out ?_))
  refine (Cp.both_c A0 l0 c0' A1 l1 c1' s c ys es _ HLN.out HYL.out HY0.out HYU.out HEL.out HE0.out hl0 hl1).mono ?_
  rintro e w1 ⟨bc, bm, bp, bt, bM, bx, cx, A, cA, lo, rfl, hC, -, -, -, ⟨n1, n2, n3, n4⟩, k1⟩
  obtain ⟨xs, hxs⟩ : ∃ xs, xs = Cp.memN ys (min l0 64) := ⟨_, rfl⟩
  obtain ⟨l, hll⟩ : ∃ l, l = Cp.tlbN es (min l1 12) := ⟨_, rfl⟩
  rw [← hxs, ← hll] at hC
  have HC : Hid (Cp.CpuAt w1 bc bm bp 4 xs bt l 0) := hC
  have HR1 : Hid (w1.rangeAt g 0 (Cp.stl A0 l0 c0' A1 l1 c1' s c)) := range_keep HR.out k1 (by simp)
  have HK1 : Hid (But [] w w1) := HB0.out.trans k1
  have hg0 := HG0.out
  have HN : Hid ((w.heap.size ≤ bc ∧ w.heap.size ≤ bp ∧ w.heap.size ≤ bt) ∧ g ≠ bc ∧ g ≠ bp ∧ g ≠ bt) := by have := HB0.out.size; show _ ∧ _; omega
  clear hC k1 n1 n2 n3 n4 hxs hll hg0 HR HY0 HE0 HB0 HSZ HYL HEL HYU hl0 hl1
  go_wp2_with fail
  refine (Fr.twin_c bm bp 4 xs _ HC.out.mem).mono ?_
  rintro e w2 ⟨cm, cp, rfl, m1, m2, hM, k2⟩
  have hlt := HC.out.lt
  have HC2 : Hid (Cp.CpuAt w2 bc bm bp 4 xs bt l 0) := HC.out.keep0 k2
  have HM2 : Hid (Fr.MemAt w2 cm cp 4 xs) := hM
  have HR2 : Hid (w2.rangeAt g 0 (Cp.stl A0 l0 c0' A1 l1 c1' s c)) := range_keep HR1.out k2 (by simp)
  have HN2 : Hid (cm ≠ bc ∧ cm ≠ bp ∧ cm ≠ bt ∧ cp ≠ bc ∧ cp ≠ bp ∧ cp ≠ bt) := by show _ ∧ _; omega
  have HK2 : Hid (But [] w w2) := HK1.out.trans k2
  have x2 : w2.cell? ⟨g, 2, none⟩ = some (.int .i64 s) := HR2.out 2 _ rfl
  have HRC : Hid (w2.rangeAt g 3 (Cp.cvl c)) := fun j v hv => by
    have := HR2.out (3 + j) v (by rw [show Cp.stl A0 l0 c0' A1 l1 c1' s c = [.slice A0 l0 c0', .slice A1 l1 c1', .int .i64 s] ++ Cp.cvl c from rfl, List.getElem?_append_right (by simp)]; simpa using hv)
    rwa [Nat.zero_add] at this
  clear hM k2 m1 m2 hlt HC HR1 HK1 HR2
  go_wp2_with (first
    | (refine wpList_load_mid rfl 27 _ rfl g 3 rfl (Cp.cvl c) _ HRC.out Try.underlying27 rfl (Cp.cvl_info c HLN.out) ?_))
  refine (Cp.step_c bc bm bp 4 xs bt l 0 s c _ HC2.out (by omega) HLN.out HCU.out).mono ?_
  rintro e w4 ⟨m', rfl, hm', hC4, k4⟩
  have hWT := Cp.step_within 4 xs l s c
  have hTR := Cp.step_trap 4 xs l s c
  have hDL := (Cp.step_len 4 xs l s c).trans HLN.out
  rcases hD : Cp.stepP 4 xs l s c with ⟨⟨t1, t2, t3, t4⟩, c2, zs⟩
  rw [hD] at hC4 hWT hTR hDL
  clear hD
  dsimp only at hC4 hWT hTR hDL
  simp only [Cp.Dn.ans, Cp.Tr.vs]
  have hn := HN.out
  have hn2 := HN2.out
  have HC4 : Hid (Cp.CpuAt w4 bc bm bp 4 zs bt l m') := hC4
  have HM4 : Hid (Fr.MemAt w4 cm cp 4 xs) := HM2.out.keep k4 (by simp; omega) (by simp; omega)
  have HX4 : Hid (w4.cell? ⟨g, 2, none⟩ = some (.int .i64 s)) := cell_keep x2 k4 (by simp; omega)
  have HRC4 : Hid (w4.rangeAt g 3 (Cp.cvl c)) := range_keep HRC.out k4 (by simp; omega)
  have HK4 : Hid (But [] w w4) := Cp.but_fresh HK2.out k4 (by simp; omega)
  have HWT : Hid (Cp.Wth 4 xs l s zs) := hWT
  have HTR : Hid (t1 ≠ 0 → t1 ≠ 6 → c2 = c ∧ zs = xs) := hTR
  have HL2 : Hid (c2.length = 17) := hDL
  clear hC4 k4 x2 HC2 HM2 HRC HK2 hWT hTR hDL hm' hn hn2 HN2
  obtain ⟨hT5, hT6⟩ := Cp.two_new w4 #[.int .u32 0, .int .u32 0, .int .u32 0, .int .u32 0, .int .u32 0, .int .u32 0, .int .u32 0, .int .u32 0, .int .u32 0, .int .u32 0, .int .u32 0, .int .u32 0, .int .u32 0, .int .u32 0, .int .u32 0, .int .u32 0, .int .u32 0] #[.int .i64 0, .int .i64 0, .bool false, .int .i64 0] 27 37 17 4 rfl rfl
  have hK3 : But [] w4 ((w4.alloc (.cells #[.int .u32 0, .int .u32 0, .int .u32 0, .int .u32 0, .int .u32 0, .int .u32 0, .int .u32 0, .int .u32 0, .int .u32 0, .int .u32 0, .int .u32 0, .int .u32 0, .int .u32 0, .int .u32 0, .int .u32 0, .int .u32 0, .int .u32 0] 27)).alloc (.cells #[.int .i64 0, .int .i64 0, .bool false, .int .i64 0] 37)) := ((But.refl [] w4).alloc _).alloc _
  have HT5 : Hid (((w4.alloc (.cells #[.int .u32 0, .int .u32 0, .int .u32 0, .int .u32 0, .int .u32 0, .int .u32 0, .int .u32 0, .int .u32 0, .int .u32 0, .int .u32 0, .int .u32 0, .int .u32 0, .int .u32 0, .int .u32 0, .int .u32 0, .int .u32 0, .int .u32 0] 27)).alloc (.cells #[.int .i64 0, .int .i64 0, .bool false, .int .i64 0] 37)).there w4.heap.size 0 (Cp.cvl c2).toArray.size) := by show World.there _ _ _ _; rw [show (Cp.cvl c2).toArray.size = 17 by rw [List.size_toArray, Cp.cvl_len, HL2.out]]; exact hT5
  have HT6 : Hid (∀ cs : List Value, (((w4.alloc (.cells #[.int .u32 0, .int .u32 0, .int .u32 0, .int .u32 0, .int .u32 0, .int .u32 0, .int .u32 0, .int .u32 0, .int .u32 0, .int .u32 0, .int .u32 0, .int .u32 0, .int .u32 0, .int .u32 0, .int .u32 0, .int .u32 0, .int .u32 0] 27)).alloc (.cells #[.int .i64 0, .int .i64 0, .bool false, .int .i64 0] 37)).setCells w4.heap.size 0 cs).there (w4.heap.size + 1) 0 4) := fun cs => World.there_setCells hT6 _ _ _
  have HI : Hid ((Try.prog.info? 27).map (·.size) = some (Cp.cvl c2).toArray.size) := by show _ = _; rw [List.size_toArray]; exact Cp.cvl_info c2 HL2.out
  obtain ⟨v1, v2⟩ := Cp.two_laid ((w4.alloc (.cells #[.int .u32 0, .int .u32 0, .int .u32 0, .int .u32 0, .int .u32 0, .int .u32 0, .int .u32 0, .int .u32 0, .int .u32 0, .int .u32 0, .int .u32 0, .int .u32 0, .int .u32 0, .int .u32 0, .int .u32 0, .int .u32 0, .int .u32 0] 27)).alloc (.cells #[.int .i64 0, .int .i64 0, .bool false, .int .i64 0] 37)) w4.heap.size (w4.heap.size + 1) (Cp.cvl c2) [.int .i64 t1, .int .i64 t2, .bool t3, .int .i64 t4] (by rw [Cp.cvl_len, HL2.out]; exact hT5) hT6 (by omega)
  have hK4 : But [w4.heap.size, w4.heap.size + 1] w4 ((((w4.alloc (.cells #[.int .u32 0, .int .u32 0, .int .u32 0, .int .u32 0, .int .u32 0, .int .u32 0, .int .u32 0, .int .u32 0, .int .u32 0, .int .u32 0, .int .u32 0, .int .u32 0, .int .u32 0, .int .u32 0, .int .u32 0, .int .u32 0, .int .u32 0] 27)).alloc (.cells #[.int .i64 0, .int .i64 0, .bool false, .int .i64 0] 37)).setCells w4.heap.size 0 (Cp.cvl c2)).setCells (w4.heap.size + 1) 0 [.int .i64 t1, .int .i64 t2, .bool t3, .int .i64 t4]) := ((hK3.any _).setCells (by simp) _ _).setCells (by simp) _ _
  clear hT5 hT6 hK3
  go_upto_region 4 with (first
    | (refine wpList_store_mid rfl 27 _ _ rfl w4.heap.size 0 (Cp.cvl c2).toArray rfl rfl ?ht HI.out (all_oneCell_toArray (Cp.cvl_one c2)) ?_; case ht => exact HT5.out)
    | (refine wpList_store_mid rfl 37 _ _ rfl (w4.heap.size + 1) 0 #[.int .i64 t1, .int .i64 t2, .bool t3, .int .i64 t4] rfl rfl ?ht Cp.Try.sizeTrap (Cp.Tr.vs_all ⟨t1, t2, t3, t4⟩) ?_; case ht => exact HT6.out _))
  obtain ⟨b5, hb5⟩ : ∃ b5, b5 = w4.heap.size := ⟨_, rfl⟩
  generalize ((w4.alloc (.cells #[.int .u32 0, .int .u32 0, .int .u32 0, .int .u32 0, .int .u32 0, .int .u32 0, .int .u32 0, .int .u32 0, .int .u32 0, .int .u32 0, .int .u32 0, .int .u32 0, .int .u32 0, .int .u32 0, .int .u32 0, .int .u32 0, .int .u32 0] 27)).alloc (.cells #[.int .i64 0, .int .i64 0, .bool false, .int .i64 0] 37)).setCells w4.heap.size 0 (Cp.cvl c2) = w5 at v1 v2 hK4 ⊢
  generalize w5.setCells (w4.heap.size + 1) 0 [.int .i64 t1, .int .i64 t2, .bool t3, .int .i64 t4] = w6 at v1 v2 hK4 ⊢
  rw [← hb5] at v1 v2 hK4 ⊢
  have hl4 := HC4.out.lt
  have hm4 := HM4.out.lt
  have hgl : g < b5 := by rw [hb5]; exact lt_of_cell HX4.out
  have hw4 : w.heap.size ≤ b5 := by rw [hb5]; exact HK4.out.size
  rw [← hb5] at hl4 hm4
  have HC6 : Hid (Cp.CpuAt w6 bc bm bp 4 zs bt l m') := HC4.out.keep hK4 (by simp; omega) (by simp; omega) (by simp; omega) (by simp; omega)
  have HM6 : Hid (Fr.MemAt w6 cm cp 4 xs) := HM4.out.keep hK4 (by simp; omega) (by simp; omega)
  have HX6 : Hid (w6.cell? ⟨g, 2, none⟩ = some (.int .i64 s)) := cell_keep HX4.out hK4 (by simp; omega)
  have HRC6 : Hid (w6.rangeAt g 3 (Cp.cvl c)) := range_keep HRC4.out hK4 (by simp; omega)
  have HV1 : Hid (w6.rangeAt b5 0 (Cp.cvl c2)) := v1
  have HV2 : Hid (w6.cell? ⟨b5 + 1, 0, none⟩ = some (.int .i64 t1)) := v2 0 _ rfl
  have HK6 : Hid (But [] w w6) := Cp.but_fresh HK4.out hK4 (by simp; omega)
  clear v1 v2 hK4 hb5 HT5 HT6 HI HC4 HM4 HX4 HRC4 HK4 hl4 hm4 hgl hw4
  go_wp2_with fail
  refine (Tl.all_c bt l m' _ HC6.out.tlb).mono ?_
  rintro e w7 ⟨A', rfl, hE7, k7⟩
  obtain ⟨n, hn⟩ : ∃ n, n = l.length := ⟨_, rfl⟩
  rw [← hn]
  have hn8 := HC6.out.tlb.most
  rw [← hn] at hn8
  have HNL : Hid (n = l.length) := hn
  have HE7 : Hid (Tl.Ens w7 0 A' l) := hE7.lower (Nat.zero_le _)
  have HC7 : Hid (Cp.CpuAt w7 bc bm bp 4 zs bt l m') := HC6.out.keep0 k7
  have HM7 : Hid (Fr.MemAt w7 cm cp 4 xs) := HM6.out.keep k7 (by simp) (by simp)
  have HX7 : Hid (w7.cell? ⟨g, 2, none⟩ = some (.int .i64 s)) := cell_keep HX6.out k7 (by simp)
  have HRC7 : Hid (w7.rangeAt g 3 (Cp.cvl c)) := range_keep HRC6.out k7 (by simp)
  have HU7 : Hid (w7.rangeAt b5 0 (Cp.cvl c2)) := range_keep HV1.out k7 (by simp)
  have HT7 : Hid (w7.cell? ⟨b5 + 1, 0, none⟩ = some (.int .i64 t1)) := cell_keep HV2.out k7 (by simp)
  have HK7 : Hid (But [] w w7) := HK6.out.trans k7
  clear hE7 k7 hn HC6 HM6 HX6 HRC6 HV1 HV2 HK6 HN
  go_wp2_with fail
  go_loopg [11] 4 (fun g0 iv wx => ∃ f : Nat, f + g0 = 4 ∧ iv = .int .i64 f ∧ Hid (But [] w7 wx))
  case atStart => exact ⟨0, by omega, rfl, But.refl _ _⟩
  case round =>
    obtain ⟨f, hfg, rfl, HX⟩ := hrel
    by_cases hf : f < 4
    · go_wp2_with fail
      go_loopg [12, 13] n (fun g2 nv iv wy => ∃ k : Nat, k + g2 = n ∧ nv = .bool (Cp.nmd (l.take k) s f) ∧ iv = .int .i64 k ∧ Hid (But [] w7 wy))
      case atStart => exact ⟨0, by omega, rfl, rfl, HX⟩
      case round =>
        obtain ⟨k, hkg, rfl, rfl, HY⟩ := hrel
        clear HX
        by_cases hk : k < n
        · obtain ⟨b, off, hA, -, -, hrows⟩ := HE7.out.at_ (i := k) (by rw [← HNL.out]; exact hk)
          have hrow := range_keep (hrows k (by rw [← HNL.out]; exact hk)) HY.out (by simp)
          have hsu := Cp.nmd_succ l s f k (by rw [← HNL.out]; exact hk)
          generalize l.getD k Tl.en0 = e0 at hrow hsu
          obtain ⟨S, P, F, V⟩ := e0
          have HSU : Hid (Cp.nmd (l.take (k + 1)) s f = (Cp.nmd (l.take k) s f || Cp.isN s f ⟨S, P, F, V⟩)) := hsu
          have y0 : wr.cell? ⟨b, off + k * 4, none⟩ = some (.int .i64 S) := hrow 0 _ rfl
          have y2 : wr.cell? ⟨b, off + k * 4 + 2, none⟩ = some (.int .i64 F) := hrow 2 _ rfl
          have y3 : wr.cell? ⟨b, off + k * 4 + 3, none⟩ = some (.bool V) := hrow 3 _ rfl
          have x2 : wr.cell? ⟨g, 2, none⟩ = some (.int .i64 s) := cell_keep HX7.out HY.out (by simp)
          subst hA
          clear hrow hrows hsu
          have hklt : (k : Int) < (n : Int) := by omega
          cases hnm : Cp.nmd (l.take k) s f with
          | true =>
            have HNM : Hid (Cp.nmd (l.take k) s f = true) := hnm
            clear hnm
            go_wp2
            go_quiet (fail)
            go_wp2
            go_roundg (n - (k + 1))
            case measure => omega
            case rel => exact ⟨k + 1, by omega, by rw [HSU.out]; rw [HNM.out, Bool.true_or], by go_num, HY.out.drewN _⟩
          | false =>
            have HNM : Hid (Cp.nmd (l.take k) s f = false) := hnm
            clear hnm
            by_cases hF : F = (f : Int)
            · subst hF
              cases V with
              | false =>
                go_wp2
                go_quiet (fail)
                go_wp2
                go_roundg (n - (k + 1))
                case measure => omega
                case rel => exact ⟨k + 1, by omega, by rw [HSU.out]; rw [HNM.out]; simp [Cp.isN], by go_num, HY.out.drewN _⟩
              | true =>
                by_cases hS : S = s
                · subst hS
                  go_wp2
                  go_quiet (fail)
                  go_wp2
                  go_roundg (n - (k + 1))
                  case measure => omega
                  case rel => exact ⟨k + 1, by omega, by rw [HSU.out]; rw [HNM.out]; simp [Cp.isN], by go_num, HY.out.drewN _⟩
                · have HS : Hid (¬ S = s) := hS
                  have hSd : decide (S = s) = false := decide_eq_false hS
                  have hSb : (S == s) = false := beq_false_of_ne hS
                  go_wp2
                  go_quiet (fail)
                  go_wp2
                  go_roundg (n - (k + 1))
                  case measure => omega
                  case rel => exact ⟨k + 1, by omega, by rw [HSU.out]; rw [HNM.out]; simp [Cp.isN, HS.out], by go_num, HY.out.drewN _⟩
            · have HF : Hid (¬ F = (f : Int)) := hF
              have hFd : decide (F = (f : Int)) = false := decide_eq_false hF
              have hFb : (F == (f : Int)) = false := beq_false_of_ne hF
              clear y3 y0 x2
              go_wp2
              go_quiet (fail)
              go_wp2
              go_roundg (n - (k + 1))
              case measure => omega
              case rel => exact ⟨k + 1, by omega, by rw [HSU.out]; rw [HNM.out]; simp [Cp.isN, HF.out], by go_num, HY.out.drewN _⟩
        · have hnl : ∀ j, j = l.length → Cp.nmd (l.take j) s f = Cp.nmd l s f := fun j hj => by rw [hj, List.take_length]
          have hkn : k = n := by omega
          have hnm : Cp.nmd (l.take k) s f = Cp.nmd l s f := hnl k (hkn.trans HNL.out)
          obtain ⟨q, hq⟩ : ∃ q, Cp.nmd (l.take k) s f = q := ⟨_, rfl⟩
          have HQ : Hid (Cp.nmd l s f = q) := hnm.symm.trans hq
          rw [hq]
          clear hnl hnm hq
          subst hkn
          go_wp2_with fail
          refine (Fr.page_c bm bp 4 f zs _ (HC7.out.mem.keep HY.out (by simp) (by simp)) hf).mono ?_
          rintro e w8 ⟨rfl, k8⟩
          have HY8 : Hid (But [] w7 w8) := HY.out.trans k8
          have HA8 : Hid ((w8.alloc (.cells #[.int .u32 0, .int .u32 0, .int .u32 0, .int .u32 0, .int .u32 0, .int .u32 0, .int .u32 0, .int .u32 0, .int .u32 0, .int .u32 0, .int .u32 0, .int .u32 0, .int .u32 0, .int .u32 0, .int .u32 0, .int .u32 0] 50)).there w8.heap.size 0 (Fr.pgv zs (f * 16)).toArray.size) := Fr.pgv_there (there_new _ _ _ _ rfl)
          clear k8
          have hR8 : ((w8.alloc (.cells #[.int .u32 0, .int .u32 0, .int .u32 0, .int .u32 0, .int .u32 0, .int .u32 0, .int .u32 0, .int .u32 0, .int .u32 0, .int .u32 0, .int .u32 0, .int .u32 0, .int .u32 0, .int .u32 0, .int .u32 0, .int .u32 0] 50)).setCells w8.heap.size 0 (Fr.pgv zs (f * 16))).rangeAt w8.heap.size 0 (Fr.pgv zs (f * 16)) := World.rangeAt_setCells_same _ _ _ _ (by rw [Fr.pgv_len]; exact there_new _ _ _ _ rfl)
          have hK8 : But [] w7 ((w8.alloc (.cells #[.int .u32 0, .int .u32 0, .int .u32 0, .int .u32 0, .int .u32 0, .int .u32 0, .int .u32 0, .int .u32 0, .int .u32 0, .int .u32 0, .int .u32 0, .int .u32 0, .int .u32 0, .int .u32 0, .int .u32 0, .int .u32 0] 50)).setCells w8.heap.size 0 (Fr.pgv zs (f * 16))) := (HY8.out.alloc _).setCells (.inr HY8.out.size) _ _
          go_upto_region 14 with (first
            | (refine wpList_store_mid rfl 50 _ _ rfl w8.heap.size 0 (Fr.pgv zs (f * 16)).toArray rfl rfl ?ht (Fr.pgv_info' zs (f * 16)) (Fr.pgv_all zs (f * 16)) ?_; case ht => exact HA8.out))
          generalize (w8.alloc (.cells #[.int .u32 0, .int .u32 0, .int .u32 0, .int .u32 0, .int .u32 0, .int .u32 0, .int .u32 0, .int .u32 0, .int .u32 0, .int .u32 0, .int .u32 0, .int .u32 0, .int .u32 0, .int .u32 0, .int .u32 0, .int .u32 0] 50)).setCells w8.heap.size 0 (Fr.pgv zs (f * 16)) = w9 at hR8 hK8 ⊢
          obtain ⟨b8, hb8⟩ : ∃ b8, b8 = w8.heap.size := ⟨_, rfl⟩
          rw [← hb8] at hR8 ⊢
          have HP8 : Hid (w9.rangeAt b8 0 (Fr.pgv zs (f * 16))) := hR8
          have HY9 : Hid (But [] w7 w9) := hK8
          clear hR8 hK8 HA8 hb8 HY8
          go_wp2_with fail
          refine (Fr.page_c cm cp 4 f xs _ (HM7.out.keep HY9.out (by simp) (by simp)) hf).mono ?_
          rintro e wA ⟨rfl, kA⟩
          have HYA : Hid (But [] w7 wA) := HY9.out.trans kA
          have HPA : Hid (wA.rangeAt b8 0 (Fr.pgv zs (f * 16))) := range_keep HP8.out kA (by simp)
          have HAA : Hid ((wA.alloc (.cells #[.int .u32 0, .int .u32 0, .int .u32 0, .int .u32 0, .int .u32 0, .int .u32 0, .int .u32 0, .int .u32 0, .int .u32 0, .int .u32 0, .int .u32 0, .int .u32 0, .int .u32 0, .int .u32 0, .int .u32 0, .int .u32 0] 50)).there wA.heap.size 0 (Fr.pgv xs (f * 16)).toArray.size) := Fr.pgv_there (there_new _ _ _ _ rfl)
          have hb8 : b8 < wA.heap.size := lt_of_cell (HPA.out 0 _ (Fr.pgv_get zs (f * 16) 0 (by omega)))
          clear kA HP8 HY9
          have hRB : ((wA.alloc (.cells #[.int .u32 0, .int .u32 0, .int .u32 0, .int .u32 0, .int .u32 0, .int .u32 0, .int .u32 0, .int .u32 0, .int .u32 0, .int .u32 0, .int .u32 0, .int .u32 0, .int .u32 0, .int .u32 0, .int .u32 0, .int .u32 0] 50)).setCells wA.heap.size 0 (Fr.pgv xs (f * 16))).rangeAt wA.heap.size 0 (Fr.pgv xs (f * 16)) := World.rangeAt_setCells_same _ _ _ _ (by rw [Fr.pgv_len]; exact there_new _ _ _ _ rfl)
          have hKB : But [] wA ((wA.alloc (.cells #[.int .u32 0, .int .u32 0, .int .u32 0, .int .u32 0, .int .u32 0, .int .u32 0, .int .u32 0, .int .u32 0, .int .u32 0, .int .u32 0, .int .u32 0, .int .u32 0, .int .u32 0, .int .u32 0, .int .u32 0, .int .u32 0] 50)).setCells wA.heap.size 0 (Fr.pgv xs (f * 16))) := ((But.refl [] wA).alloc _).setCells (.inr (Nat.le_refl _)) _ _
          go_upto_region 15 with (first
            | (refine wpList_store_mid rfl 50 _ _ rfl wA.heap.size 0 (Fr.pgv xs (f * 16)).toArray rfl rfl ?ht (Fr.pgv_info' xs (f * 16)) (Fr.pgv_all xs (f * 16)) ?_; case ht => exact HAA.out))
          generalize (wA.alloc (.cells #[.int .u32 0, .int .u32 0, .int .u32 0, .int .u32 0, .int .u32 0, .int .u32 0, .int .u32 0, .int .u32 0, .int .u32 0, .int .u32 0, .int .u32 0, .int .u32 0, .int .u32 0, .int .u32 0, .int .u32 0, .int .u32 0] 50)).setCells wA.heap.size 0 (Fr.pgv xs (f * 16)) = wB at hRB hKB ⊢
          obtain ⟨b9, hb9⟩ : ∃ b9, b9 = wA.heap.size := ⟨_, rfl⟩
          rw [← hb9] at hRB ⊢
          have HP1 : Hid (wB.rangeAt b8 0 (Fr.pgv zs (f * 16))) := range_keep HPA.out hKB (by simp)
          have HP2 : Hid (wB.rangeAt b9 0 (Fr.pgv xs (f * 16))) := hRB
          have HYB : Hid (But [] w7 wB) := HYA.out.trans hKB
          have heq := Fr.eqPage zs xs (f * 16)
          clear hRB hKB HAA hb8 hb9 HYA HPA
          cases hsm : Fr.sameP zs xs (f * 16) with
          | true =>
            rw [hsm] at heq
            clear hsm
            go_wp2_with (first
              | (refine wpList_load_mid rfl 50 _ rfl b8 0 rfl (Fr.pgv zs (f * 16)) _ HP1.out Try.underlying50 rfl (Fr.pgv_info _ _) ?_)
              | (refine wpList_load_mid rfl 50 _ rfl b9 0 rfl (Fr.pgv xs (f * 16)) _ HP2.out Try.underlying50 rfl (Fr.pgv_info _ _) ?_))
            go_roundg (4 - (f + 1))
            case measure => omega
            case rel => exact ⟨f + 1, by omega, by go_num, HYB.out⟩
          | false =>
            have hqt : q = true := by
              cases hq : q with
              | true => rfl
              | false =>
                have := Cp.within_page HWT.out f (HQ.out.trans hq)
                rw [hsm] at this
                cases this
            rw [hsm] at heq
            clear hsm
            subst hqt
            go_wp2_with (first
              | (refine wpList_load_mid rfl 50 _ rfl b8 0 rfl (Fr.pgv zs (f * 16)) _ HP1.out Try.underlying50 rfl (Fr.pgv_info _ _) ?_)
              | (refine wpList_load_mid rfl 50 _ rfl b9 0 rfl (Fr.pgv xs (f * 16)) _ HP2.out Try.underlying50 rfl (Fr.pgv_info _ _) ?_))
            go_roundg (4 - (f + 1))
            case measure => omega
            case rel => exact ⟨f + 1, by omega, by go_num, HYB.out⟩
    · obtain rfl : f = 4 := by omega
      have e1 : wr.cell? ⟨b5 + 1, 0, none⟩ = some (.int .i64 t1) := cell_keep HT7.out HX.out (by simp)
      have HU : Hid (wr.rangeAt b5 0 (Cp.cvl c2)) := range_keep HU7.out HX.out (by simp)
      have HRC : Hid (wr.rangeAt g 3 (Cp.cvl c)) := range_keep HRC7.out HX.out (by simp)
      have HMa : Hid (Fr.MemAt wr bm bp 4 zs) := HC7.out.mem.keep HX.out (by simp) (by simp)
      have HMb : Hid (Fr.MemAt wr cm cp 4 xs) := HM7.out.keep HX.out (by simp) (by simp)
      have HKw : Hid (But [] w wr) := HK7.out.trans HX.out
      clear HE7 HX7 HWT HC7 HM7 HRC7 HU7 HT7 HK7 HX hf hfg
      by_cases h0 : t1 = 0
      · subst h0
        go_wp2_with (go_at_call 11; refine (Cp.awake_c _).mono ?_; rintro e w5 ⟨rfl, k5⟩)
        go_ret
        exact ⟨rfl, (HKw.out.trans k5).below (Nat.le_refl _) (by simp)⟩
      · by_cases h6 : t1 = 6
        · subst h6
          go_wp2_with (go_at_call 11; refine (Cp.awake_c _).mono ?_; rintro e w5 ⟨rfl, k5⟩)
          go_ret
          exact ⟨rfl, (HKw.out.trans k5).below (Nat.le_refl _) (by simp)⟩
        · obtain ⟨hc2, hzs⟩ := HTR.out h0 h6
          have hn0 : (t1 != 0) = true := bne_iff_ne.2 h0
          have hn6 : (t1 != 6) = true := bne_iff_ne.2 h6
          clear h0 h6 HTR HL2
          subst hc2
          subst hzs
          have heq := Cp.eqCtx c2 HLN.out
          go_wp2_with (first
            | (refine Cp.wpList_load_mid_g 27 _ rfl b5 0 rfl (Cp.cvl c2) _ HU.out Try.underlying27 rfl (Cp.cvl_info c2 HLN.out) ?hw ?_; case hw => rfl)
            | (refine Cp.wpList_load_mid_g 27 _ rfl g 3 rfl (Cp.cvl c2) _ HRC.out Try.underlying27 rfl (Cp.cvl_info c2 HLN.out) ?hw ?_; case hw => rfl)
            | (go_at_call 15; refine (Fr.others_c bm bp cm cp 4 zs zs none 0 [] _ HMa.out HMb.out (.inl rfl) (by simp)).mono ?_; rintro e w9 ⟨rfl, k9⟩; rw [Cp.same_refl])
            | (go_at_call 11; refine (Cp.awake_c _).mono ?_; rintro e w5 ⟨rfl, k5⟩))
          go_ret
          exact ⟨rfl, ((HKw.out.trans k9).trans k5).below (Nat.le_refl _) (by simp)⟩

set_option maxRecDepth 100000 in
theorem lifted (os : Os) (started : os.Started) (H : Type) (enc : TypeId × Value → H) :
    ReturnsInHanded {} Try.checked os 4 .any (Rows.cpuWithinSpec.pre6 enc Try.prog Try.f4 Rows.cpuWithinRow.domain false) (Rows.cpuWithinSpec.post enc Try.prog Try.f4 false true false false) := by
  refine returnsInHanded_of_change (C := Try.checked) own started (by kernel_rfl) Try.func4
    (ChangeSpec.witness6 (enc := enc) (C := Try.checked) false ⟨#[], #[.agg #[.slice none 0 0, .slice none 0 0, .int .i64 0, .int .u32 0, .int .u32 0, .int .u32 0, .int .u32 0, .int .u32 0, .int .u32 0, .int .u32 0, .int .u32 0, .int .u32 0, .int .u32 0, .int .u32 0, .int .u32 0, .int .u32 0, .int .u32 0, .int .u32 0, .int .u32 0, .int .u32 0]], []⟩ 8 (by kernel_rfl) (by kernel_rfl) (by kernel_rfl) (by kernel_rfl)) ?_
  intro W base args ds gs before hval0 hW hcnd _
  have hval : ∀ (j : Nat) t v, Try.f4.params[j]? = some t → args[j]? = some v → Value.okWide Try.prog W .any base t v := hval0
  have hW' := hW
  obtain ⟨p, q, hA0, hV, rfl, hfz, hnd⟩ := hW
  have hA : DataW.TrodAll enc Try.prog W 0 (fun _ => true) true Try.f4.params.toList args.toList ds p := hA0
  rw [Try.params4] at hA hval
  obtain ⟨v0, vs0, d0, ds0, p0, q0, hargs, rfl, rfl, h0, t0⟩ := trodAll_cons hA
  obtain ⟨rfl, rfl, rfl⟩ := trodAll_nil t0
  obtain rfl : args = #[v0] := by cases args; simp_all
  obtain ⟨rfl, rfl⟩ := trodVars_none hV
  have k0 := h0
  have lt0 : ∀ x ∈ p0, x.block < W.heap.size := by obtain ⟨m, hm⟩ := k0; exact DataW.trod_lt m _ _ _ hm
  obtain ⟨c0, rfl, -⟩ := okWide_struct Try.underlying29 (hval 0 29 v0 rfl rfl)
  have f0 := Cp.start_open h0
  clear hA0 hval0
  refine (walk W c0 f0).mono fun e W' ⟨he, hg⟩ => ?_
  subst he
  exact ⟨_, rfl, _, _, _, [], _, [], hW', (trodAll_cons_mk (shut_bool Try.underlying4 _) trodAll_mk0), (trodAll_cons_mk (Below.trod laidOut (by kernel_rfl) (of_decide_eq_true (by kernel_rfl)) k0 hg lt0) trodAll_mk0), rfl, hg.frame _, (fun h => by cases h)⟩

theorem over : Rows.cpuWithinRow.holds Try.pinned (OpenSpec.ofChange Rows.cpuWithinSpec) :=
  OpenClaim.holds_of_wide 4 Try.f4 rfl rfl rfl rfl rfl rfl rfl ⟨rfl, rfl, rfl, rfl, rfl⟩ rfl rfl rfl rfl rfl (by kernel_rfl) Try.func4 (by kernel_rfl)
    (of_decide_eq_true (by kernel_rfl)) (by unfold Func.isWrapper; first | (rw [if_pos (by decide +kernel)]; kernel_rfl) | (rw [if_neg (by decide +kernel)]; exact ⟨rfl, rfl⟩))
    (fun os started H enc _ => lifted os started H enc)
end Go.Proofs.Ytjlcncdhlcpklaa.cpuWithin
namespace Go.Proofs.Ytjlcncdhlcpklaa
/-- The statement, by its short name. -/
theorem cpuWithin_holds : Rows.CpuWithinSaid := cpuWithin.over
#print axioms cpuWithin_holds
end Go.Proofs.Ytjlcncdhlcpklaa
