/-
  Whatever the input, the Go function CpuSteps answers true, and its arguments read behind the call as they read before. No condition.
-/
import Derived.Test.YtjlcncdhlcpklaaRows
import Derived.Test.YtjlcncdhlcpklaaCpSteps
import Derived.WalkKit
import Derived.Deep.LoopGhost
import Derived.Deep.CutBlock
import Derived.Deep.DeepCutAuto
import Derived.ProofKit
import Derived.OpenShut
import Derived.ShutString
import Derived.ChangeOld
import Derived.Below
import Derived.Carry
namespace Go.Proofs.Ytjlcncdhlcpklaa.cpuSteps
open Go.ChangeShapes Go.WideShapes Go.ChangeAt Go.RowKit
open Go.ChangeMaps (open_string shut_string)
set_option linter.unusedVariables false

theorem own : ownKnob Try.prog.godebug = none := by kernel_rfl
theorem laidOut : laidOutB Try.prog = true := by kernel_rfl

set_option maxHeartbeats 4000000 in
set_option maxRecDepth 100000 in
theorem walk (w : World) (c0 : Array Value) (f0 : Cp.StartOk w c0) (a1 : Int) (w1 : (Lit.int .i64 a1).wf = true) :
    Calls Try.prog 3 #[.agg c0, .int .i64 a1] w fun e w' => e = .returned (.bool true) ∧ Below w.heap.size w w' := by
  obtain ⟨A0, l0, c0', A1, l1, c1', s, c, ys, es, rfl, hcl, hcu, hyl, hyr, hyu, hel, her, hl0, hl1⟩ := f0
  clear w1
  have HLN : Hid (c.length = 17) := hcl
  have HCU : Hid (Cp.U32s c) := hcu
  have HYL : Hid (ys.length = l0) := hyl
  have HEL : Hid (es.length = l1) := hel
  have HYU : Hid (Cp.U32s ys) := hyu
  obtain ⟨N, hN, hN32⟩ := Cp.and31_i64 a1
  have hR := new_range w (Cp.stl A0 l0 c0' A1 l1 c1' s c) 29
  have hB := (But.refl [] w).alloc (.cells (Cp.stl A0 l0 c0' A1 l1 c1' s c).toArray 29)
  have hsz : (w.alloc (.cells (Cp.stl A0 l0 c0' A1 l1 c1' s c).toArray 29)).heap.size = w.heap.size + 1 := by simp
  obtain ⟨g, hg⟩ : ∃ g, g = w.heap.size := ⟨_, rfl⟩
  have HNN : Hid (bits .and .i64 a1 31 = (N : Int)) := hN
  clear hcl hcu hyl hel hyu hN
  go_enter Try.func3, Try.ntmps3
  go_upto_region 1 with fail
  rw [← hg] at hR hsz ⊢
  generalize w.alloc (.cells (Cp.stl A0 l0 c0' A1 l1 c1' s c).toArray 29) = w0 at hR hB hsz ⊢
  have HR : Hid (w0.rangeAt g 0 (Cp.stl A0 l0 c0' A1 l1 c1' s c)) := hR
  have HY0 : Hid (Rd .u32 w0 0 w0.heap.size A0 ys) := (hyr.keep (hB.below (Nat.le_refl _) (by simp))).wider (Nat.le_refl _) hB.size
  have HE0 : Hid (Tl.Ens w0 0 A1 es) := her.keep hB (by simp)
  have HB0 : Hid (But [] w w0) := hB
  have HG0 : Hid (w.heap.size ≤ g ∧ g < w0.heap.size) := by show _ ∧ _; omega
  have HSZ : Hid ((Try.prog.info? 29).map (·.size) = some (Cp.stl A0 l0 c0' A1 l1 c1' s c).length) := by show _ = _; rw [Cp.stl_len _ _ _ _ _ _ _ _ HLN.out]; rfl
  clear hR hB hsz hyr her hg
  go_wp2_with (first
    | (refine wpList_load_mid rfl 29 _ rfl g 0 rfl (Cp.stl A0 l0 c0' A1 l1 c1' s c) _ HR.out Try.underlying29 rfl HSZ.out ?_))
  refine (Cp.both_c2 A0 l0 c0' A1 l1 c1' s c ys es _ HLN.out HYL.out HY0.out HYU.out HEL.out HE0.out hl0 hl1).mono ?_
  rintro e w1 ⟨bc, bm, bp, bt, bM, bx, cx, A, cA, lo, rfl, hC, hRF, ⟨p1, p2, p3⟩, ⟨d1, d2, d3, d4, d5, d6⟩, ⟨n1, n2, n3, n4⟩, ⟨e1, e2⟩, hEN, k1⟩
  obtain ⟨xs, hxs⟩ : ∃ xs, xs = Cp.memN ys (min l0 64) := ⟨_, rfl⟩
  obtain ⟨l, hll⟩ : ∃ l, l = Cp.tlbN es (min l1 12) := ⟨_, rfl⟩
  rw [← hxs, ← hll] at hC hRF
  rw [← hll] at hEN
  have HC : Hid (Cp.CpuAt w1 bc bm bp 4 xs bt l 0) := hC
  have HRF : Hid (Cp.RefAt w1 bM bx cx 4 xs A cA lo l) := hRF
  have HEN : Hid (Cp.EnsNe A l bc) := hEN
  have HRG : Hid (w1.rangeAt g 0 (Cp.stl A0 l0 c0' A1 l1 c1' s c)) := range_keep HR.out k1 (by simp)
  have HK1 : Hid (But [] w w1) := HB0.out.trans k1
  have hg0 := HG0.out
  have HRC : Hid (w1.rangeAt g 3 (Cp.cvl c)) := fun j v hv => by
    have := HRG.out (3 + j) v (by rw [show Cp.stl A0 l0 c0' A1 l1 c1' s c = [.slice A0 l0 c0', .slice A1 l1 c1', .int .i64 s] ++ Cp.cvl c from rfl, List.getElem?_append_right (by simp)]; simpa using hv)
    rwa [Nat.zero_add] at this
  have HX2 : Hid (w1.cell? ⟨g, 2, none⟩ = some (.int .i64 s)) := HRG.out 2 _ rfl
  have hs0 := HB0.out.size
  have HN : Hid ((w.heap.size ≤ bc ∧ w.heap.size ≤ bp ∧ w.heap.size ≤ bt ∧ w.heap.size ≤ bx ∧ w.heap.size ≤ g) ∧ g ≠ bc ∧ g ≠ bp ∧ g ≠ bt ∧ g ≠ bx) := by show _ ∧ _; omega
  have HAP : Hid ((bp < lo ∧ bt < lo) ∧ (bM ≠ bc ∧ bM ≠ bp ∧ bM ≠ bt ∧ bx ≠ bc ∧ bx ≠ bp ∧ bx ≠ bt) ∧ bx ≠ bm) := ⟨⟨p1, p2⟩, ⟨d1, d2, d3, d4, d5, d6⟩, e1⟩
  have HL8 : Hid (l.length ≤ 1000) := by have := hC.tlb.most; show _ ≤ _; omega
  clear hC hRF hEN k1 n1 n2 n3 n4 p1 p2 p3 d1 d2 d3 d4 d5 d6 e1 e2 hs0 hxs hll hg0 HR HY0 HE0 HB0 HSZ HYL HEL HYU hl0 hl1 HRG HG0
  go_upto_region 2 with fail
  go_cut [9, 10] (fun s9 s10 wx => ∃ b9 b10 : Nat, s9 = .pointer (some ⟨b9, 0, none⟩) ∧ s10 = .pointer (some ⟨b10, 0, none⟩) ∧ (w1.heap.size ≤ b9 ∧ w1.heap.size ≤ b10 ∧ b9 ≠ b10) ∧ Cp.CtxAt wx b9 c ∧ Cp.CtxAt wx b10 c ∧ But [] w1 wx)
  case first =>
    refine wp_region_held_drew (S := fun w' => w'.rangeAt g 3 (Cp.cvl c)) (by kernel_rfl) ((World.rangeAt_drew _ _ _ _).2 HRC.out) (fun hS => ?_)
    refine wpAnyH_take (i := 0) (v := .pointer (some ⟨g, 3, none⟩)) rfl (by kernel_rfl) (by kernel_rfl) (by kernel_rfl) (fun _ _ _ h => h) (Or.inl ⟨by rfl, fun w' hw' => by go_simp⟩) hS ?_
    simp only [Act.put, List.setIfInBounds_toArray]
    refine wpAnyH_take (i := 1) (v := .agg (Cp.cvl c).toArray) rfl (by kernel_rfl) (by kernel_rfl) (by kernel_rfl) (fun _ _ _ h => h) (yieldsIf_load_mid (by rfl) _ _ rfl g 3 rfl (Cp.cvl c) _ (fun w' h => h) Try.underlying27 rfl (Cp.cvl_info c HLN.out)) hS ?_
    simp only [Act.put]
    refine wpAnyH_take (i := 2) (v := .pointer (some ⟨g, 3, none⟩)) rfl (by kernel_rfl) (by kernel_rfl) (by kernel_rfl) (fun _ _ _ h => h) (Or.inl ⟨by rfl, fun w' hw' => by go_simp⟩) hS ?_
    simp only [Act.put]
    refine wpAnyH_take (i := 3) (v := .agg (Cp.cvl c).toArray) rfl (by kernel_rfl) (by kernel_rfl) (by kernel_rfl) (fun _ _ _ h => h) (yieldsIf_load_mid (by rfl) _ _ rfl g 3 rfl (Cp.cvl c) _ (fun w' h => h) Try.underlying27 rfl (Cp.cvl_info c HLN.out)) hS ?_
    simp only [Act.put]
    refine wpAnyH_ready (rs := [4, 5]) (by kernel_rfl) (by simp) ?_
    have hT := Cp.two_new w1.drew #[.int .u32 0, .int .u32 0, .int .u32 0, .int .u32 0, .int .u32 0, .int .u32 0, .int .u32 0, .int .u32 0, .int .u32 0, .int .u32 0, .int .u32 0, .int .u32 0, .int .u32 0, .int .u32 0, .int .u32 0, .int .u32 0, .int .u32 0] #[.int .u32 0, .int .u32 0, .int .u32 0, .int .u32 0, .int .u32 0, .int .u32 0, .int .u32 0, .int .u32 0, .int .u32 0, .int .u32 0, .int .u32 0, .int .u32 0, .int .u32 0, .int .u32 0, .int .u32 0, .int .u32 0, .int .u32 0] 27 27 17 17 rfl rfl
    have hgl : g < w1.heap.size := lt_of_cell HX2.out
    refine AllReadyH.cons rfl (fun K hK => ?_) (AllReadyH.cons rfl (fun K hK => ?_) AllReadyH.nil)
    · rw [if_pos (by rfl)]
      go_simp
      refine hK.out _ _ (range_keep hS ((But.refl [] _).alloc _) (by simp)) (fun hS2 => ?_)
      clear hK K
      try simp only [Act.put, List.setIfInBounds_toArray, List.set_cons_zero, List.set_cons_succ]
      refine wpAnyH_ready (rs := [5]) (by kernel_rfl) (by simp) ?_
      refine AllReadyH.cons rfl (fun K hK => ?_) AllReadyH.nil
      rw [if_pos (by rfl)]
      go_simp
      refine hK.out _ _ (range_keep hS2 ((But.refl [] _).alloc _) (by simp)) (fun hS3 => ?_)
      clear hK K
      try simp only [Act.put, List.setIfInBounds_toArray, List.set_cons_zero, List.set_cons_succ]
      refine wpAnyH_ready (rs := [6]) (by kernel_rfl) (by simp) ?_
      refine AllReadyH.cons rfl (fun K hK => ?_) AllReadyH.nil
      rw [if_pos (by rfl)]
      refine wp_store_mid _ _ _ rfl (w1.heap.size) 0 (Cp.cvl c).toArray rfl rfl ?_ ?_ (all_oneCell_toArray (Cp.cvl_one c)) ?_
      · rw [show (Cp.cvl c).toArray.size = 17 by rw [List.size_toArray, Cp.cvl_len, HLN.out]]; exact hT.1
      · rw [List.size_toArray]; exact Cp.cvl_info c HLN.out
      refine hK.out _ _ (range_keep hS3 ((But.refl [w1.heap.size] _).setCells (by simp) _ _) (by simp; omega)) (fun hS4 => ?_)
      clear hK K
      try simp only [Act.put]
      refine wpAnyH_ready (rs := [7]) (by kernel_rfl) (by simp) ?_
      refine AllReadyH.cons rfl (fun K hK => ?_) AllReadyH.nil
      rw [if_pos (by rfl)]
      refine wp_store_mid _ _ _ rfl (w1.heap.size + 1) 0 (Cp.cvl c).toArray rfl rfl ?_ ?_ (all_oneCell_toArray (Cp.cvl_one c)) ?_
      · rw [show (Cp.cvl c).toArray.size = 17 by rw [List.size_toArray, Cp.cvl_len, HLN.out]]; exact World.there_setCells hT.2 _ _ _
      · rw [List.size_toArray]; exact Cp.cvl_info c HLN.out
      refine hK.out _ _ (range_keep hS4 ((But.refl [w1.heap.size + 1] _).setCells (by simp) _ _) (by simp; omega)) (fun hS5 => ?_)
      clear hK K
      try simp only [Act.put]
      refine wpAnyH_done (by kernel_rfl) ?_ _
      go_wp2_with fail
      go_meet
      case rel =>
        obtain ⟨r1, r2, r3⟩ := Cp.two_ctx w1 c HLN.out 27 (w1.heap.size) (w1.heap.size + 1) (.inl ⟨rfl, rfl⟩)
        exact ⟨w1.heap.size, w1.heap.size + 1, rfl, rfl, ⟨by omega, by omega, by omega⟩, r1, r2, r3⟩
    · rw [if_pos (by rfl)]
      go_simp
      refine hK.out _ _ (range_keep hS ((But.refl [] _).alloc _) (by simp)) (fun hS2 => ?_)
      clear hK K
      try simp only [Act.put, List.setIfInBounds_toArray, List.set_cons_zero, List.set_cons_succ]
      refine wpAnyH_ready (rs := [4]) (by kernel_rfl) (by simp) ?_
      refine AllReadyH.cons rfl (fun K hK => ?_) AllReadyH.nil
      rw [if_pos (by rfl)]
      go_simp
      refine hK.out _ _ (range_keep hS2 ((But.refl [] _).alloc _) (by simp)) (fun hS3 => ?_)
      clear hK K
      try simp only [Act.put, List.setIfInBounds_toArray, List.set_cons_zero, List.set_cons_succ]
      refine wpAnyH_ready (rs := [6]) (by kernel_rfl) (by simp) ?_
      refine AllReadyH.cons rfl (fun K hK => ?_) AllReadyH.nil
      rw [if_pos (by rfl)]
      refine wp_store_mid _ _ _ rfl (w1.heap.size + 1) 0 (Cp.cvl c).toArray rfl rfl ?_ ?_ (all_oneCell_toArray (Cp.cvl_one c)) ?_
      · rw [show (Cp.cvl c).toArray.size = 17 by rw [List.size_toArray, Cp.cvl_len, HLN.out]]; exact hT.2
      · rw [List.size_toArray]; exact Cp.cvl_info c HLN.out
      refine hK.out _ _ (range_keep hS3 ((But.refl [w1.heap.size + 1] _).setCells (by simp) _ _) (by simp; omega)) (fun hS4 => ?_)
      clear hK K
      try simp only [Act.put]
      refine wpAnyH_ready (rs := [7]) (by kernel_rfl) (by simp) ?_
      refine AllReadyH.cons rfl (fun K hK => ?_) AllReadyH.nil
      rw [if_pos (by rfl)]
      refine wp_store_mid _ _ _ rfl (w1.heap.size) 0 (Cp.cvl c).toArray rfl rfl ?_ ?_ (all_oneCell_toArray (Cp.cvl_one c)) ?_
      · rw [show (Cp.cvl c).toArray.size = 17 by rw [List.size_toArray, Cp.cvl_len, HLN.out]]; exact World.there_setCells hT.1 _ _ _
      · rw [List.size_toArray]; exact Cp.cvl_info c HLN.out
      refine hK.out _ _ (range_keep hS4 ((But.refl [w1.heap.size] _).setCells (by simp) _ _) (by simp; omega)) (fun hS5 => ?_)
      clear hK K
      try simp only [Act.put]
      refine wpAnyH_done (by kernel_rfl) ?_ _
      go_wp2_with fail
      go_meet
      case rel =>
        obtain ⟨r1, r2, r3⟩ := Cp.two_ctx w1 c HLN.out 27 (w1.heap.size + 1) (w1.heap.size) (.inr ⟨rfl, rfl⟩)
        exact ⟨w1.heap.size + 1, w1.heap.size, rfl, rfl, ⟨by omega, by omega, by omega⟩, r1, r2, r3⟩
  case rest =>
    obtain ⟨b9, b10, rfl, rfl, ⟨n9, n10, n910⟩, h9, h10, hkc⟩ := hcut
    have H9 : Hid (Cp.CtxAt wc b9 c) := h9
    have H10 : Hid (Cp.CtxAt wc b10 c) := h10
    have HCc : Hid (Cp.CpuAt wc bc bm bp 4 xs bt l 0) := HC.out.keep0 hkc
    have HRFc : Hid (Cp.RefAt wc bM bx cx 4 xs A cA lo l) := HRF.out.keep0 hkc
    have HX2c : Hid (wc.cell? ⟨g, 2, none⟩ = some (.int .i64 s)) := cell_keep HX2.out hkc (by simp)
    have HBc : Hid (But [] w wc) := HK1.out.trans hkc
    have HUX : Hid (Cp.U32s xs) := HC.out.u
    have HE9 : Hid (Cp.EnsNe A l b9) := Cp.ens_ne HRF.out.ens n9
    have HE10 : Hid (Cp.EnsNe A l b10) := Cp.ens_ne HRF.out.ens n10
    have hlc := HC.out.lt
    have hlr := HRF.out.lt
    have hlg : g < w1.heap.size := lt_of_cell HX2.out
    have hk1s := HK1.out.size
    have HSP : Hid ((bc < b9 ∧ bm < b9 ∧ bp < b9 ∧ bt < b9 ∧ bM < b9 ∧ bx < b9 ∧ g < b9) ∧ (bc < b10 ∧ bm < b10 ∧ bp < b10 ∧ bt < b10 ∧ bM < b10 ∧ bx < b10 ∧ g < b10) ∧ w.heap.size ≤ b9 ∧ w.heap.size ≤ b10 ∧ b9 ≠ b10) := by show _ ∧ _; omega
    clear h9 h10 hkc HC HRF HX2 HK1 HRC hlc hlr hlg hk1s n9 n10 n910
    have hNN := HNN.out
    go_wp2_with fail
    go_loopg [11] (N + 1) (fun g0 iv wx => ∃ (k m : Nat) (ck zs : List Int), k + g0 = N + 1 ∧ iv = .int .i64 k ∧ m ≤ 2 * k ∧ Hid (Cp.CpuAt wx bc bm bp 4 zs bt l m) ∧ Hid (Cp.RefAt wx bM bx cx 4 zs A cA lo l) ∧ Hid (Cp.CtxAt wx b9 ck) ∧ Hid (Cp.CtxAt wx b10 ck) ∧ Hid (Cp.U32s ck) ∧ Hid (Cp.U32s zs) ∧ Hid (wx.cell? ⟨g, 2, none⟩ = some (.int .i64 s)) ∧ Hid (But [] w wx))
    case atStart => exact ⟨0, 0, c, xs, by omega, rfl, by omega, HCc, HRFc, H9, H10, HCU, HUX, HX2c, HBc⟩
    case round =>
      obtain ⟨k, m, ck, zs, hkg, rfl, hm2, HC, HRF, H9, H10, HU, HUz, HX, HB⟩ := hrel
      clear HCc HRFc HX2c HBc HUX HCU
      by_cases hk : k < N + 1
      · have hs2 := HX.out
        have HLK : Hid (ck.length = 17) := H9.out.len
        go_wp2_with (first
          | (refine wpList_load_mid rfl 27 _ rfl b9 0 rfl (Cp.cvl ck) _ H9.out.range Try.underlying27 rfl (Cp.cvl_info ck HLK.out) ?_))
        refine (Cp.step_c bc bm bp 4 zs bt l m s ck _ HC.out (by omega) HLK.out HU.out).mono ?_
        rintro e w4 ⟨m', rfl, hm', hC4, k4⟩
        have hLN := (Cp.step_len2 4 zs l s ck).trans HLK.out
        have hU2 := Cp.step_u (n := 4) (l := l) (s := s) HU.out HUz.out
        rcases hD : Cp.stepP 4 zs l s ck with ⟨⟨t1, t2, t3, t4⟩, c2, zs2⟩
        rw [hD] at hC4 hLN hU2
        have HSD : Hid (Cp.stepP 4 zs l s ck = ⟨⟨t1, t2, t3, t4⟩, c2, zs2⟩) := hD
        clear hD
        dsimp only at hC4 hLN hU2
        simp only [Cp.Dn.ans, Cp.Tr.vs]
        have hap := HAP.out
        have hnn := HN.out
        have hsp := HSP.out
        have hlc := HRF.out.lM
        have HC4 : Hid (Cp.CpuAt w4 bc bm bp 4 zs2 bt l m') := hC4
        have HRF4 : Hid (Cp.RefAt w4 bM bx cx 4 zs A cA lo l) := HRF.out.keepN k4 (by simp; omega) (by simp; omega) (by
          intro x hx
          simp only [List.mem_cons, List.not_mem_nil, or_false] at hx
          rcases hx with rfl | rfl | rfl
          · exact .inl hap.1.2
          · exact .inr HEN.out
          · exact .inl hap.1.1)
        have H94 : Hid (Cp.CtxAt w4 b9 ck) := H9.out.keep k4 (by simp; omega)
        have H104 : Hid (Cp.CtxAt w4 b10 ck) := H10.out.keep k4 (by simp; omega)
        have HX4 : Hid (w4.cell? ⟨g, 2, none⟩ = some (.int .i64 s)) := cell_keep HX.out k4 (by simp; omega)
        have HB4 : Hid (But [] w w4) := Cp.but_fresh HB.out k4 (by simp; omega)
        have HL2 : Hid (c2.length = 17) := hLN
        have HU2 : Hid (Cp.U32s c2) := hU2
        have HUz2 : Hid (Cp.U32s zs2) := hC4.u
        clear hC4 k4 hLN hU2 hs2 HC HRF H9 H10 HX HB hap hnn hsp hlc

        obtain ⟨hT5, hT6⟩ := Cp.two_new w4 #[.int .u32 0, .int .u32 0, .int .u32 0, .int .u32 0, .int .u32 0, .int .u32 0, .int .u32 0, .int .u32 0, .int .u32 0, .int .u32 0, .int .u32 0, .int .u32 0, .int .u32 0, .int .u32 0, .int .u32 0, .int .u32 0, .int .u32 0] #[.int .i64 0, .int .i64 0, .bool false, .int .i64 0] 27 37 17 4 rfl rfl
        have hK3 : But [] w4 ((w4.alloc (.cells #[.int .u32 0, .int .u32 0, .int .u32 0, .int .u32 0, .int .u32 0, .int .u32 0, .int .u32 0, .int .u32 0, .int .u32 0, .int .u32 0, .int .u32 0, .int .u32 0, .int .u32 0, .int .u32 0, .int .u32 0, .int .u32 0, .int .u32 0] 27)).alloc (.cells #[.int .i64 0, .int .i64 0, .bool false, .int .i64 0] 37)) := ((But.refl [] w4).alloc _).alloc _
        have HT5 : Hid (((w4.alloc (.cells #[.int .u32 0, .int .u32 0, .int .u32 0, .int .u32 0, .int .u32 0, .int .u32 0, .int .u32 0, .int .u32 0, .int .u32 0, .int .u32 0, .int .u32 0, .int .u32 0, .int .u32 0, .int .u32 0, .int .u32 0, .int .u32 0, .int .u32 0] 27)).alloc (.cells #[.int .i64 0, .int .i64 0, .bool false, .int .i64 0] 37)).there w4.heap.size 0 (Cp.cvl c2).toArray.size) := by show World.there _ _ _ _; rw [show (Cp.cvl c2).toArray.size = 17 by rw [List.size_toArray, Cp.cvl_len, HL2.out]]; exact hT5
        have HT6 : Hid (∀ cs : List Value, (((w4.alloc (.cells #[.int .u32 0, .int .u32 0, .int .u32 0, .int .u32 0, .int .u32 0, .int .u32 0, .int .u32 0, .int .u32 0, .int .u32 0, .int .u32 0, .int .u32 0, .int .u32 0, .int .u32 0, .int .u32 0, .int .u32 0, .int .u32 0, .int .u32 0] 27)).alloc (.cells #[.int .i64 0, .int .i64 0, .bool false, .int .i64 0] 37)).setCells w4.heap.size 0 cs).there (w4.heap.size + 1) 0 4) := fun cs => World.there_setCells hT6 _ _ _
        have HI : Hid ((Try.prog.info? 27).map (·.size) = some (Cp.cvl c2).toArray.size) := by show _ = _; rw [List.size_toArray]; exact Cp.cvl_info c2 HL2.out
        obtain ⟨v1, v2⟩ := Cp.two_laid ((w4.alloc (.cells #[.int .u32 0, .int .u32 0, .int .u32 0, .int .u32 0, .int .u32 0, .int .u32 0, .int .u32 0, .int .u32 0, .int .u32 0, .int .u32 0, .int .u32 0, .int .u32 0, .int .u32 0, .int .u32 0, .int .u32 0, .int .u32 0, .int .u32 0] 27)).alloc (.cells #[.int .i64 0, .int .i64 0, .bool false, .int .i64 0] 37)) w4.heap.size (w4.heap.size + 1) (Cp.cvl c2) [.int .i64 t1, .int .i64 t2, .bool t3, .int .i64 t4] (by rw [Cp.cvl_len, HL2.out]; exact hT5) hT6 (by omega)
        have hK4 : But [] w4 ((((w4.alloc (.cells #[.int .u32 0, .int .u32 0, .int .u32 0, .int .u32 0, .int .u32 0, .int .u32 0, .int .u32 0, .int .u32 0, .int .u32 0, .int .u32 0, .int .u32 0, .int .u32 0, .int .u32 0, .int .u32 0, .int .u32 0, .int .u32 0, .int .u32 0] 27)).alloc (.cells #[.int .i64 0, .int .i64 0, .bool false, .int .i64 0] 37)).setCells w4.heap.size 0 (Cp.cvl c2)).setCells (w4.heap.size + 1) 0 [.int .i64 t1, .int .i64 t2, .bool t3, .int .i64 t4]) := (hK3.setCells (.inr (Nat.le_refl _)) _ _).setCells (.inr (by omega)) _ _
        clear hT5 hT6 hK3
        go_upto_region 7 with (first
          | (refine wpList_store_mid rfl 27 _ _ rfl w4.heap.size 0 (Cp.cvl c2).toArray rfl rfl ?ht HI.out (all_oneCell_toArray (Cp.cvl_one c2)) ?_; case ht => exact HT5.out)
          | (refine wpList_store_mid rfl 37 _ _ rfl (w4.heap.size + 1) 0 #[.int .i64 t1, .int .i64 t2, .bool t3, .int .i64 t4] rfl rfl ?ht Cp.Try.sizeTrap (Cp.Tr.vs_all ⟨t1, t2, t3, t4⟩) ?_; case ht => exact HT6.out _))
        obtain ⟨b5, hb5⟩ : ∃ b5, b5 = w4.heap.size := ⟨_, rfl⟩
        generalize ((w4.alloc (.cells #[.int .u32 0, .int .u32 0, .int .u32 0, .int .u32 0, .int .u32 0, .int .u32 0, .int .u32 0, .int .u32 0, .int .u32 0, .int .u32 0, .int .u32 0, .int .u32 0, .int .u32 0, .int .u32 0, .int .u32 0, .int .u32 0, .int .u32 0] 27)).alloc (.cells #[.int .i64 0, .int .i64 0, .bool false, .int .i64 0] 37)).setCells w4.heap.size 0 (Cp.cvl c2) = w5 at v1 v2 hK4 ⊢
        generalize w5.setCells (w4.heap.size + 1) 0 [.int .i64 t1, .int .i64 t2, .bool t3, .int .i64 t4] = w6 at v1 v2 hK4 ⊢
        rw [← hb5] at v1 v2 ⊢
        clear HT5 HT6 HI

        have HC6 : Hid (Cp.CpuAt w6 bc bm bp 4 zs2 bt l m') := HC4.out.keep0 hK4
        have HRF6 : Hid (Cp.RefAt w6 bM bx cx 4 zs A cA lo l) := HRF4.out.keep0 hK4
        have H96 : Hid (Cp.CtxAt w6 b9 ck) := H94.out.keep hK4 (by simp)
        have H106 : Hid (Cp.CtxAt w6 b10 ck) := H104.out.keep hK4 (by simp)
        have HX6 : Hid (w6.cell? ⟨g, 2, none⟩ = some (.int .i64 s)) := cell_keep HX4.out hK4 (by simp)
        have HB6 : Hid (But [] w w6) := HB4.out.trans hK4
        have HV6 : Hid (w6.rangeAt b5 0 (Cp.cvl c2)) := v1
        have HT6 : Hid (w6.rangeAt (b5 + 1) 0 [.int .i64 t1, .int .i64 t2, .bool t3, .int .i64 t4]) := v2
        have HO5 : Hid (b9 < b5 ∧ b10 < b5) := by have := H94.out.lt; have := H104.out.lt; show _ ∧ _; omega
        clear v1 v2 hK4 hb5 HC4 HRF4 H94 H104 HX4 HB4
        have hs6 := HX6.out
        go_wp2_with (first
          | (refine wpList_load_mid rfl 27 _ rfl b10 0 rfl (Cp.cvl ck) _ H106.out.range Try.underlying27 rfl (Cp.cvl_info ck HLK.out) ?_))
        refine (Cp.rstep_c bM bx cx zs A cA lo l s ck _ HRF6.out HL8.out HUz.out HLK.out HU.out).mono ?_
        rintro e w7 ⟨rfl, hRF7, k7⟩
        rw [HSD.out] at hRF7 ⊢
        dsimp only at hRF7
        simp only [Cp.Dn.ans, Cp.Tr.vs]
        have hap := HAP.out
        have hsp := HSP.out
        have hnn := HN.out
        have ho5 := HO5.out
        have HC7 : Hid (Cp.CpuAt w7 bc bm bp 4 zs2 bt l m') := HC6.out.keep k7 (by simp; omega) (by simp; omega) (by simp; omega) (by simp; omega)
        have HRF7 : Hid (Cp.RefAt w7 bM bx cx 4 zs2 A cA lo l) := hRF7
        have H97 : Hid (Cp.CtxAt w7 b9 ck) := H96.out.keep k7 (by simp; omega)
        have H107 : Hid (Cp.CtxAt w7 b10 ck) := H106.out.keep k7 (by simp; omega)
        have HX7 : Hid (w7.cell? ⟨g, 2, none⟩ = some (.int .i64 s)) := cell_keep HX6.out k7 (by simp; omega)
        have HB7 : Hid (But [] w w7) := Cp.but_fresh HB6.out k7 (by simp; omega)
        have HV7 : Hid (w7.rangeAt b5 0 (Cp.cvl c2)) := range_keep HV6.out k7 (by simp; omega)
        have HT7 : Hid (w7.rangeAt (b5 + 1) 0 [.int .i64 t1, .int .i64 t2, .bool t3, .int .i64 t4]) := range_keep HT6.out k7 (by simp; omega)
        clear hRF7 k7 hs6 HC6 HRF6 H96 H106 HX6 HB6 HV6 HT6 hap hsp hnn ho5 HSD

        obtain ⟨hT5, hT6⟩ := Cp.two_new w7 #[.int .u32 0, .int .u32 0, .int .u32 0, .int .u32 0, .int .u32 0, .int .u32 0, .int .u32 0, .int .u32 0, .int .u32 0, .int .u32 0, .int .u32 0, .int .u32 0, .int .u32 0, .int .u32 0, .int .u32 0, .int .u32 0, .int .u32 0] #[.int .i64 0, .int .i64 0, .bool false, .int .i64 0] 27 37 17 4 rfl rfl
        have hK3 : But [] w7 ((w7.alloc (.cells #[.int .u32 0, .int .u32 0, .int .u32 0, .int .u32 0, .int .u32 0, .int .u32 0, .int .u32 0, .int .u32 0, .int .u32 0, .int .u32 0, .int .u32 0, .int .u32 0, .int .u32 0, .int .u32 0, .int .u32 0, .int .u32 0, .int .u32 0] 27)).alloc (.cells #[.int .i64 0, .int .i64 0, .bool false, .int .i64 0] 37)) := ((But.refl [] w7).alloc _).alloc _
        have HT5 : Hid (((w7.alloc (.cells #[.int .u32 0, .int .u32 0, .int .u32 0, .int .u32 0, .int .u32 0, .int .u32 0, .int .u32 0, .int .u32 0, .int .u32 0, .int .u32 0, .int .u32 0, .int .u32 0, .int .u32 0, .int .u32 0, .int .u32 0, .int .u32 0, .int .u32 0] 27)).alloc (.cells #[.int .i64 0, .int .i64 0, .bool false, .int .i64 0] 37)).there w7.heap.size 0 (Cp.cvl c2).toArray.size) := by show World.there _ _ _ _; rw [show (Cp.cvl c2).toArray.size = 17 by rw [List.size_toArray, Cp.cvl_len, HL2.out]]; exact hT5
        have HT6 : Hid (∀ cs : List Value, (((w7.alloc (.cells #[.int .u32 0, .int .u32 0, .int .u32 0, .int .u32 0, .int .u32 0, .int .u32 0, .int .u32 0, .int .u32 0, .int .u32 0, .int .u32 0, .int .u32 0, .int .u32 0, .int .u32 0, .int .u32 0, .int .u32 0, .int .u32 0, .int .u32 0] 27)).alloc (.cells #[.int .i64 0, .int .i64 0, .bool false, .int .i64 0] 37)).setCells w7.heap.size 0 cs).there (w7.heap.size + 1) 0 4) := fun cs => World.there_setCells hT6 _ _ _
        have HI : Hid ((Try.prog.info? 27).map (·.size) = some (Cp.cvl c2).toArray.size) := by show _ = _; rw [List.size_toArray]; exact Cp.cvl_info c2 HL2.out
        obtain ⟨v1, v2⟩ := Cp.two_laid ((w7.alloc (.cells #[.int .u32 0, .int .u32 0, .int .u32 0, .int .u32 0, .int .u32 0, .int .u32 0, .int .u32 0, .int .u32 0, .int .u32 0, .int .u32 0, .int .u32 0, .int .u32 0, .int .u32 0, .int .u32 0, .int .u32 0, .int .u32 0, .int .u32 0] 27)).alloc (.cells #[.int .i64 0, .int .i64 0, .bool false, .int .i64 0] 37)) w7.heap.size (w7.heap.size + 1) (Cp.cvl c2) [.int .i64 t1, .int .i64 t2, .bool t3, .int .i64 t4] (by rw [Cp.cvl_len, HL2.out]; exact hT5) hT6 (by omega)
        have hK4 : But [] w7 ((((w7.alloc (.cells #[.int .u32 0, .int .u32 0, .int .u32 0, .int .u32 0, .int .u32 0, .int .u32 0, .int .u32 0, .int .u32 0, .int .u32 0, .int .u32 0, .int .u32 0, .int .u32 0, .int .u32 0, .int .u32 0, .int .u32 0, .int .u32 0, .int .u32 0] 27)).alloc (.cells #[.int .i64 0, .int .i64 0, .bool false, .int .i64 0] 37)).setCells w7.heap.size 0 (Cp.cvl c2)).setCells (w7.heap.size + 1) 0 [.int .i64 t1, .int .i64 t2, .bool t3, .int .i64 t4]) := (hK3.setCells (.inr (Nat.le_refl _)) _ _).setCells (.inr (by omega)) _ _
        clear hT5 hT6 hK3
        go_upto_region 8 with (first
          | (refine wpList_store_mid rfl 27 _ _ rfl w7.heap.size 0 (Cp.cvl c2).toArray rfl rfl ?ht HI.out (all_oneCell_toArray (Cp.cvl_one c2)) ?_; case ht => exact HT5.out)
          | (refine wpList_store_mid rfl 37 _ _ rfl (w7.heap.size + 1) 0 #[.int .i64 t1, .int .i64 t2, .bool t3, .int .i64 t4] rfl rfl ?ht Cp.Try.sizeTrap (Cp.Tr.vs_all ⟨t1, t2, t3, t4⟩) ?_; case ht => exact HT6.out _))
        obtain ⟨b7, hb7⟩ : ∃ b7, b7 = w7.heap.size := ⟨_, rfl⟩
        generalize ((w7.alloc (.cells #[.int .u32 0, .int .u32 0, .int .u32 0, .int .u32 0, .int .u32 0, .int .u32 0, .int .u32 0, .int .u32 0, .int .u32 0, .int .u32 0, .int .u32 0, .int .u32 0, .int .u32 0, .int .u32 0, .int .u32 0, .int .u32 0, .int .u32 0] 27)).alloc (.cells #[.int .i64 0, .int .i64 0, .bool false, .int .i64 0] 37)).setCells w7.heap.size 0 (Cp.cvl c2) = w8 at v1 v2 hK4 ⊢
        generalize w8.setCells (w7.heap.size + 1) 0 [.int .i64 t1, .int .i64 t2, .bool t3, .int .i64 t4] = w9 at v1 v2 hK4 ⊢
        rw [← hb7] at v1 v2 ⊢
        clear HT5 HT6 HI

        have HC9 : Hid (Cp.CpuAt w9 bc bm bp 4 zs2 bt l m') := HC7.out.keep0 hK4
        have HRF9 : Hid (Cp.RefAt w9 bM bx cx 4 zs2 A cA lo l) := HRF7.out.keep0 hK4
        have H99 : Hid (Cp.CtxAt w9 b9 ck) := H97.out.keep hK4 (by simp)
        have H109 : Hid (Cp.CtxAt w9 b10 ck) := H107.out.keep hK4 (by simp)
        have HX9 : Hid (w9.cell? ⟨g, 2, none⟩ = some (.int .i64 s)) := cell_keep HX7.out hK4 (by simp)
        have HB9 : Hid (But [] w w9) := HB7.out.trans hK4
        have HV5 : Hid (w9.rangeAt b5 0 (Cp.cvl c2)) := range_keep HV7.out hK4 (by simp)
        have hT5 : w9.rangeAt (b5 + 1) 0 [.int .i64 t1, .int .i64 t2, .bool t3, .int .i64 t4] := range_keep HT7.out hK4 (by simp)
        have HV8 : Hid (w9.rangeAt b7 0 (Cp.cvl c2)) := v1
        have HO7 : Hid (b9 < b7 ∧ b10 < b7) := by have := H97.out.lt; have := H107.out.lt; show _ ∧ _; omega
        have HRT5 : Hid (w9.rangeAt (b5 + 1) 0 [.int .i64 t1, .int .i64 t2, .bool t3, .int .i64 t4]) := hT5
        have HRT7 : Hid (w9.rangeAt (b7 + 1) 0 [.int .i64 t1, .int .i64 t2, .bool t3, .int .i64 t4]) := v2
        have hmx := HRF9.out.mem
        have heq := Cp.eqCtx c2 HL2.out
        have het := Cp.eqTrap ⟨t1, t2, t3, t4⟩
        clear v1 v2 hK4 hb7 hT5 HC7 HRF7 H97 H107 HX7 HB7 HV7 HT7
        go_upto_region 10 with (first
          | (refine wpList_load_mid rfl 27 _ rfl b5 0 rfl (Cp.cvl c2) _ HV5.out Try.underlying27 rfl (Cp.cvl_info c2 HL2.out) ?_)
          | (refine wpList_load_mid rfl 27 _ rfl b7 0 rfl (Cp.cvl c2) _ HV8.out Try.underlying27 rfl (Cp.cvl_info c2 HL2.out) ?_)
          | (refine Cp.wpList_load_mid_g 37 _ rfl (b5 + 1) 0 rfl [.int .i64 t1, .int .i64 t2, .bool t3, .int .i64 t4] _ HRT5.out Try.underlying37 rfl Cp.Try.sizeTrap ?hw ?_; case hw => rfl)
          | (refine Cp.wpList_load_mid_g 37 _ rfl (b7 + 1) 0 rfl [.int .i64 t1, .int .i64 t2, .bool t3, .int .i64 t4] _ HRT7.out Try.underlying37 rfl Cp.Try.sizeTrap ?hw ?_; case hw => rfl)
          | (go_at_call 10; refine (Fr.same_c bm bp 4 bx cx zs2 _ HC9.out.mem HRF9.out.blk).mono ?_; rintro e wS ⟨rfl, kS⟩))
        have HCS : Hid (Cp.CpuAt wS bc bm bp 4 zs2 bt l m') := HC9.out.keep0 kS
        have HRS : Hid (Cp.RefAt wS bM bx cx 4 zs2 A cA lo l) := HRF9.out.keep0 kS
        have H9S : Hid (Cp.CtxAt wS b9 ck) := H99.out.keep kS (by simp)
        have H10S : Hid (Cp.CtxAt wS b10 ck) := H109.out.keep kS (by simp)
        have HXS : Hid (wS.cell? ⟨g, 2, none⟩ = some (.int .i64 s)) := cell_keep HX9.out kS (by simp)
        have HBS : Hid (But [] w wS) := HB9.out.trans kS
        have HVS : Hid (wS.rangeAt b5 0 (Cp.cvl c2)) := range_keep HV5.out kS (by simp)
        have HWS : Hid (wS.rangeAt b7 0 (Cp.cvl c2)) := range_keep HV8.out kS (by simp)
        have HTS : Hid (wS.cell? ⟨b5 + 1, 0, none⟩ = some (.int .i64 t1)) := cell_keep (HRT5.out 0 _ rfl) kS (by simp)
        clear kS HC9 HRF9 H99 H109 HX9 HB9 HV5 HV8 HRT5 HRT7 hmx heq het
        have hsp := HSP.out
        have ho5 := HO5.out
        have ho7 := HO7.out
        have hcs : (Cp.cvl c2).toArray.size = 17 := by rw [List.size_toArray, Cp.cvl_len, HL2.out]
        have HI9 : Hid ((Try.prog.info? 27).map (·.size) = some (Cp.cvl c2).toArray.size) := by show _ = _; rw [List.size_toArray]; exact Cp.cvl_info c2 HL2.out
        have HT9 : Hid (wS.there b9 0 (Cp.cvl c2).toArray.size) := by show World.there _ _ _ _; rw [hcs]; exact H9S.out.there
        have HT10 : Hid ((wS.setCells b9 0 (Cp.cvl c2)).there b10 0 (Cp.cvl c2).toArray.size) := by show World.there _ _ _ _; rw [hcs]; exact World.there_setCells H10S.out.there _ _ _
        have kT1 : But [b9] wS (wS.setCells b9 0 (Cp.cvl c2)) := (But.refl [b9] wS).setCells (by simp) _ _
        have kT2 : But [b10] (wS.setCells b9 0 (Cp.cvl c2)) ((wS.setCells b9 0 (Cp.cvl c2)).setCells b10 0 (Cp.cvl c2)) := (But.refl [b10] _).setCells (by simp) _ _
        have HWT : Hid ((wS.setCells b9 0 (Cp.cvl c2)).rangeAt b7 0 (Cp.cvl c2)) := range_keep HWS.out kT1 (by simp; omega)
        have hA9 := (Cp.CtxAt.sets c2 H9S.out.there HL2.out).keep kT2 (by simp; omega)
        have hA10 := Cp.CtxAt.sets c2 (World.there_setCells H10S.out.there b9 0 (Cp.cvl c2)) HL2.out
        have kT : But [b9, b10] wS ((wS.setCells b9 0 (Cp.cvl c2)).setCells b10 0 (Cp.cvl c2)) := (kT1.wider (by simp)).trans (kT2.wider (by simp))
        clear kT1 kT2 hcs
        go_upto_region 12 with (first
          | (refine wpList_load_mid rfl 27 _ rfl b5 0 rfl (Cp.cvl c2) _ HVS.out Try.underlying27 rfl (Cp.cvl_info c2 HL2.out) ?_)
          | (refine wpList_load_mid rfl 27 _ rfl b7 0 rfl (Cp.cvl c2) _ HWT.out Try.underlying27 rfl (Cp.cvl_info c2 HL2.out) ?_)
          | (refine wpList_store_mid rfl 27 _ _ rfl b9 0 (Cp.cvl c2).toArray rfl rfl ?ht HI9.out (all_oneCell_toArray (Cp.cvl_one c2)) ?_; case ht => exact HT9.out)
          | (refine wpList_store_mid rfl 27 _ _ rfl b10 0 (Cp.cvl c2).toArray rfl rfl ?ht HI9.out (all_oneCell_toArray (Cp.cvl_one c2)) ?_; case ht => exact HT10.out))
        generalize (wS.setCells b9 0 (Cp.cvl c2)).setCells b10 0 (Cp.cvl c2) = wT at hA9 hA10 kT ⊢
        have HA9 : Hid (Cp.CtxAt wT b9 c2) := hA9
        have HA10 : Hid (Cp.CtxAt wT b10 c2) := hA10
        have HCT : Hid (Cp.CpuAt wT bc bm bp 4 zs2 bt l m') := HCS.out.keep kT (by simp; omega) (by simp; omega) (by simp; omega) (by simp; omega)
        have HRT : Hid (Cp.RefAt wT bM bx cx 4 zs2 A cA lo l) := HRS.out.keepN kT (by simp; omega) (by simp; omega) (by
          intro x hx
          simp only [List.mem_cons, List.not_mem_nil, or_false] at hx
          rcases hx with rfl | rfl
          · exact .inr HE9.out
          · exact .inr HE10.out)
        have HXT : Hid (wT.cell? ⟨g, 2, none⟩ = some (.int .i64 s)) := cell_keep HXS.out kT (by simp; omega)
        have HBT : Hid (But [] w wT) := Cp.but_fresh HBS.out kT (by simp; omega)
        have q1 : wT.cell? ⟨b5 + 1, 0, none⟩ = some (.int .i64 t1) := cell_keep HTS.out kT (by simp; omega)
        clear hA9 hA10 kT HCS HRS H9S H10S HXS HBS HVS HWS HTS HI9 HT9 HT10 HWT hsp ho5 ho7 HO5 HO7
        by_cases h0 : t1 = 0
        · subst h0
          go_wp2
          go_roundg (N - k)
          case measure => omega
          case rel => exact ⟨k + 1, m', c2, zs2, by omega, by go_num, by omega, HCT, HRT, HA9, HA10, HU2, HUz2, HXT, HBT⟩
        · by_cases h6 : t1 = 6
          · subst h6
            go_wp2
            go_roundg (N - k)
            case measure => omega
            case rel => exact ⟨k + 1, m', c2, zs2, by omega, by go_num, by omega, HCT, HRT, HA9, HA10, HU2, HUz2, HXT, HBT⟩
          · have hn0 : (t1 != 0) = true := bne_iff_ne.2 h0
            have hn6 : (t1 != 6) = true := bne_iff_ne.2 h6
            clear h0 h6
            go_wp2_with (go_at_call 11; refine (Cp.awake_c _).mono ?_; rintro e w5 ⟨rfl, k5⟩)
            go_ret
            exact ⟨rfl, (HBT.out.trans k5).below (Nat.le_refl _) (by simp)⟩
      · go_wp2_with (go_at_call 11; refine (Cp.awake_c _).mono ?_; rintro e w5 ⟨rfl, k5⟩)
        go_ret
        exact ⟨rfl, (HB.out.trans k5).below (Nat.le_refl _) (by simp)⟩

set_option maxRecDepth 100000 in
theorem lifted (os : Os) (started : os.Started) (H : Type) (enc : TypeId × Value → H) :
    ReturnsInHanded {} Try.checked os 3 .any (Rows.cpuStepsSpec.pre6 enc Try.prog Try.f3 Rows.cpuStepsRow.domain false) (Rows.cpuStepsSpec.post enc Try.prog Try.f3 false true false false) := by
  refine returnsInHanded_of_change (C := Try.checked) own started (by kernel_rfl) Try.func3
    (ChangeSpec.witness6 (enc := enc) (C := Try.checked) false ⟨#[], #[.agg #[.slice none 0 0, .slice none 0 0, .int .i64 0, .int .u32 0, .int .u32 0, .int .u32 0, .int .u32 0, .int .u32 0, .int .u32 0, .int .u32 0, .int .u32 0, .int .u32 0, .int .u32 0, .int .u32 0, .int .u32 0, .int .u32 0, .int .u32 0, .int .u32 0, .int .u32 0, .int .u32 0], .int .i64 0], []⟩ 8 (by kernel_rfl) (by kernel_rfl) (by kernel_rfl) (by kernel_rfl)) ?_
  intro W base args ds gs before hval0 hW hcnd _
  have hval : ∀ (j : Nat) t v, Try.f3.params[j]? = some t → args[j]? = some v → Value.okWide Try.prog W .any base t v := hval0
  have hW' := hW
  obtain ⟨p, q, hA0, hV, rfl, hfz, hnd⟩ := hW
  have hA : DataW.TrodAll enc Try.prog W 0 (fun _ => true) true Try.f3.params.toList args.toList ds p := hA0
  rw [Try.params3] at hA hval
  obtain ⟨v0, vs0, d0, ds0, p0, q0, hargs, rfl, rfl, h0, t0⟩ := trodAll_cons hA
  obtain ⟨v1, vs1, d1, ds1, p1, q1, rfl, rfl, rfl, h1, t1⟩ := trodAll_cons t0
  obtain ⟨rfl, rfl, rfl⟩ := trodAll_nil t1
  obtain rfl : args = #[v0, v1] := by cases args; simp_all
  obtain ⟨rfl, rfl⟩ := trodVars_none hV
  have k0 := h0
  have lt0 : ∀ x ∈ p0, x.block < W.heap.size := by obtain ⟨m, hm⟩ := k0; exact DataW.trod_lt m _ _ _ hm
  have k1 := h1
  have lt1 : ∀ x ∈ p1, x.block < W.heap.size := by obtain ⟨m, hm⟩ := k1; exact DataW.trod_lt m _ _ _ hm
  obtain ⟨c0, rfl, -⟩ := okWide_struct Try.underlying29 (hval 0 29 v0 rfl rfl)
  have f0 := Cp.start_open h0
  obtain ⟨a1, rfl, rfl, rfl, w1⟩ := open_int Try.underlying3 (hval 1 3 v1 rfl rfl) h1
  clear hA0 hval0
  refine (walk W c0 f0 a1 w1).mono fun e W' ⟨he, hg⟩ => ?_
  subst he
  exact ⟨_, rfl, _, _, _, [], _, [], hW', (trodAll_cons_mk (shut_bool Try.underlying4 _) trodAll_mk0), (trodAll_cons_mk (Below.trod laidOut (by kernel_rfl) (of_decide_eq_true (by kernel_rfl)) k0 hg lt0) (trodAll_cons_mk (Below.trod laidOut (by kernel_rfl) (of_decide_eq_true (by kernel_rfl)) k1 hg lt1) trodAll_mk0)), rfl, hg.frame _, (fun h => by cases h)⟩

theorem over : Rows.cpuStepsRow.holds Try.pinned (OpenSpec.ofChange Rows.cpuStepsSpec) :=
  OpenClaim.holds_of_wide 3 Try.f3 rfl rfl rfl rfl rfl rfl rfl ⟨rfl, rfl, rfl, rfl, rfl⟩ rfl rfl rfl rfl rfl (by kernel_rfl) Try.func3 (by kernel_rfl)
    (of_decide_eq_true (by kernel_rfl)) (by unfold Func.isWrapper; first | (rw [if_pos (by decide +kernel)]; kernel_rfl) | (rw [if_neg (by decide +kernel)]; exact ⟨rfl, rfl⟩))
    (fun os started H enc _ => lifted os started H enc)
end Go.Proofs.Ytjlcncdhlcpklaa.cpuSteps
namespace Go.Proofs.Ytjlcncdhlcpklaa
/-- The statement, by its short name. -/
theorem cpuSteps_holds : Rows.CpuStepsSaid := cpuSteps.over
#print axioms cpuSteps_holds
end Go.Proofs.Ytjlcncdhlcpklaa
