/-
  Layer 6 (cpu): both machines, and how they lie apart, over the translated program.
-/
import Derived.Test.YtjlcncdhlcpklaaCpBoth
namespace Go.Proofs.Ytjlcncdhlcpklaa.Cp
open Go.ChangeShapes Go.WideShapes Go.ChangeAt Go.RowKit
open Fr (MemAt Blk hasW hasF) 
open Tl (En TlbAt Ens getE misE ansE en0 putL)
set_option linter.unusedVariables false
set_option maxRecDepth 20000

/-- The entries do not lie in that block. -/
def EnsNe (A : Option Addr) (l : List En) (bc : Nat) : Prop := l = [] ∨ ∃ b off, A = some ⟨b, off, none⟩ ∧ b ≠ bc
theorem ens_ne {w : World} {lo : Nat} {A : Option Addr} {l : List En} {bc : Nat} (h : Ens w lo A l) (hb : w.heap.size ≤ bc) : EnsNe A l bc := by
  rcases h with h | ⟨b, off, e, h1, h2, hc⟩
  · exact .inl h
  · exact .inr ⟨b, off, e, by omega⟩
theorem RefAt.keepC {k : List Nat} {w w' : World} {bM bx cx n : Nat} {xs : List Int} {A : Option Addr} {cA lo : Nat} {l : List En} {bc : Nat} (h : RefAt w bM bx cx n xs A cA lo l) (hn : EnsNe A l bc) (hk : But k w w') (h1 : bM ∉ k) (h2 : bx ∉ k) (h3 : ∀ x ∈ k, x < lo ∨ x = bc) : RefAt w' bM bx cx n xs A cA lo l := by
  refine ⟨cell_keep h.mem hk h1, cell_keep h.tlb hk h1, (hk.frozen (p := ⟨bM, 1, none⟩) (lt_of_cell h.tlb) h1).trans h.fz, h.blk.keep hk h2, h.len, ?_, h.lM, h.lx, h.ne⟩
  rcases h.ens with e | ⟨b, off, e, e1, e2, hc⟩
  · exact .inl e
  · refine .inr ⟨b, off, e, e1, Nat.lt_of_lt_of_le e2 hk.size, fun i hi => range_keep (hc i hi) hk (fun hm => ?_)⟩
    rcases hn with hn | ⟨b', off', e', hne⟩
    · rw [hn] at hi; exact absurd hi (by simp)
    · rw [e] at e'
      injection e' with e'
      injection e' with e1' e2'
      have := h3 b hm
      omega
set_option maxHeartbeats 4000000 in
theorem both_c2 (A0 : Option Addr) (l0 c0 : Nat) (A1 : Option Addr) (l1 c1 : Nat) (s : Int) (c ys : List Int) (es : List En) (w : World) (hl : c.length = 17)
    (hy : ys.length = l0) (hyr : Rd .u32 w 0 w.heap.size A0 ys) (hyu : U32s ys) (hen : es.length = l1) (her : Ens w 0 A1 es) (hm0 : l0 ≤ 9223372036854775807) (hm1 : l1 ≤ 9223372036854775807) :
    Calls Try.prog 7 #[.agg (stl A0 l0 c0 A1 l1 c1 s c).toArray] w fun e w' => ∃ bc bm bp bt bM bx cx A cA lo, e = .returned (.tuple #[.pointer (some ⟨bc, 0, none⟩), .pointer (some ⟨bm, 0, none⟩), .pointer (some ⟨bt, 0, none⟩), .pointer (some ⟨bM, 0, none⟩)]) ∧
      CpuAt w' bc bm bp 4 (memN ys (min l0 64)) bt (tlbN es (min l1 12)) 0 ∧ RefAt w' bM bx cx 4 (memN ys (min l0 64)) A cA lo (tlbN es (min l1 12)) ∧ (bp < lo ∧ bt < lo ∧ bc < w'.heap.size) ∧ (bM ≠ bc ∧ bM ≠ bp ∧ bM ≠ bt ∧ bx ≠ bc ∧ bx ≠ bp ∧ bx ≠ bt) ∧ (w.heap.size ≤ bc ∧ w.heap.size ≤ bp ∧ w.heap.size ≤ bt ∧ w.heap.size ≤ bx) ∧ (bx ≠ bm ∧ bM ≠ bm) ∧ EnsNe A (tlbN es (min l1 12)) bc ∧ But [] w w' := by
  have HY : Hid (Rd .u32 w 0 w.heap.size A0 ys) := hyr
  have HE : Hid (Ens w 0 A1 es) := her
  have HYL : Hid (ys.length = l0) := hy
  have HEL : Hid (es.length = l1) := hen
  have HYU : Hid (U32s ys) := hyu
  have hR := new_range w (stl A0 l0 c0 A1 l1 c1 s c) 29
  have hB := (But.refl [] w).alloc (.cells (stl A0 l0 c0 A1 l1 c1 s c).toArray 29)
  obtain ⟨g, hg⟩ : ∃ g, g = w.heap.size := ⟨_, rfl⟩
  have HGW : Hid (g = w.heap.size) := hg
  clear hyr her hy hen hyu
  go_enter Try.func7, Try.ntmps7
  go_wp2_with fail
  rw [← hg] at hR ⊢
  generalize w.alloc (.cells (stl A0 l0 c0 A1 l1 c1 s c).toArray 29) = w0 at hR hB ⊢
  clear hg
  refine (Fr.new_c 4 _ (by omega) (by omega)).mono ?_
  rintro e w1 ⟨bm, bp, rfl, hbm, hbp, hM1, k1⟩
  go_wp2_with fail
  refine (Fr.rnew_c 4 _ (by omega) (by omega)).mono ?_
  rintro e w2 ⟨bx, cx, rfl, hbx, hX2, k2⟩
  have hg0 : g < w0.heap.size := lt_of_cell (hR 0 _ rfl)
  have hgw := HGW.out
  have hzb := hB.size
  have hl1 := hM1.lt
  have hz1 := k1.size
  have hz2 := k2.size
  have HM2 : Hid (MemAt w2 bm bp 4 (memN ys 0)) := hM1.keep k2 (by simp) (by simp)
  have HX2 : Hid (Blk w2 bx (memN ys 0)) := hX2
  have HB2 : Hid (But [] w w2) := (hB.trans k1).trans k2
  have HR2 : Hid (w2.rangeAt g 0 (stl A0 l0 c0 A1 l1 c1 s c)) := range_keep (range_keep hR k1 (by simp)) k2 (by simp)
  have hxl := hX2.lt (by simp)
  obtain ⟨bM, hbM⟩ : ∃ bM, bM = w2.heap.size := ⟨_, rfl⟩
  have HBM : Hid (bM = w2.heap.size) := hbM
  have HNX : Hid (bx ≠ bm ∧ bM ≠ bm) := by show _ ∧ _; omega
  clear hgw
  have hRM := new_range w2 [.slice (some ⟨bx, 0, none⟩) 64 cx, .slice none 0 0] 42
  have hTM := there_new w2 #[.slice (some ⟨bx, 0, none⟩) 64 cx, .slice none 0 0] 42 2 rfl
  have hK3 : But [] w2 (w2.alloc (.cells #[.slice (some ⟨bx, 0, none⟩) 64 cx, .slice none 0 0] 42)) := (But.refl [] w2).alloc _
  clear hR hB hM1 k1 hX2 k2
  go_upto_block 0 with fail
  rw [← hbM] at hRM hTM ⊢
  have hgw := HGW.out
  generalize w2.alloc (.cells #[.slice (some ⟨bx, 0, none⟩) 64 cx, .slice none 0 0] 42) = w3 at hRM hTM hK3 ⊢
  have HM3 : Hid (MemAt w3 bm bp 4 (memN ys 0)) := HM2.out.keep hK3 (by simp) (by simp)
  have HX3 : Hid (Blk w3 bx (memN ys 0)) := HX2.out.keep hK3 (by simp)
  have HB3 : Hid (But [] w w3) := HB2.out.trans hK3
  have HR3 : Hid (w3.rangeAt g 0 (stl A0 l0 c0 A1 l1 c1 s c)) := range_keep HR2.out hK3 (by simp)
  have HRM : Hid (w3.rangeAt bM 0 [.slice (some ⟨bx, 0, none⟩) 64 cx, .slice none 0 0]) := hRM
  have HTM : Hid (w3.there bM 0 2) := hTM
  have hzw := HGW.out
  have hne : ¬ g = bp ∧ ¬ g = bx ∧ ¬ bM = bp ∧ ¬ bM = bx ∧ ¬ bm = bx ∧ ¬ bp = bx ∧ ¬ g = bM ∧ ¬ bm = bM := by omega
  have HLO : Hid (bm < w3.heap.size ∧ bp < w3.heap.size ∧ bx < w3.heap.size ∧ bM < w3.heap.size ∧ g < w3.heap.size) := by
    have h1 := HM3.out.lt
    have h2 := lt_of_there hTM (by omega)
    have h3 := HR3.out 0 _ rfl
    exact ⟨h1.1, h1.2, HX3.out.lt (by simp [memN]), h2, lt_of_cell h3⟩
  have HNW : Hid (w.heap.size ≤ bm ∧ w.heap.size ≤ bp ∧ w.heap.size ≤ bx ∧ w.heap.size ≤ bM ∧ w.heap.size ≤ g) := by
    have := HGW.out
    show _ ∧ _
    omega
  clear hzw hgw hzb hRM hTM hK3 HM2 HX2 HB2 HR2 hbM hbm hbp hbx hg0 hl1 hz1 hz2 hxl
  go_cut [8] (fun s8 wx => MemAt wx bm bp 4 (memN ys (min l0 64)) ∧ Blk wx bx (memN ys (min l0 64)) ∧ But [bp, bx] w3 wx)
  case first =>
    go_wp2_with fail
    go_loopg [8] 64 (fun g2 iv wx => ∃ m : Nat, m + g2 = 64 ∧ m ≤ l0 ∧ iv = .int .i64 m ∧ Hid (MemAt wx bm bp 4 (memN ys m)) ∧ Hid (Blk wx bx (memN ys m)) ∧ Hid (But [bp, bx] w3 wx))
    case atStart => exact ⟨0, by omega, Nat.zero_le _, rfl, HM3, HX3, But.refl _ _⟩
    case round =>
      obtain ⟨m, hmg, hml, rfl, HM, HX, HB⟩ := hrel
      have hs0 : wr.cell? ⟨g, 0, none⟩ = some (.slice A0 l0 c0) := cell_keep (HR3.out 0 _ rfl) HB.out (by simp; omega)
      by_cases hgo : m < l0 ∧ m < 64
      · obtain ⟨hlt, h64⟩ := hgo
        obtain ⟨b, off, hA, -, hbl, hcells⟩ := HY.out.at_ (j := m) (by rw [HYL.out]; exact hlt)
        have hbn : ¬ b = bp ∧ ¬ b = bx := by have := HNW.out; omega
        have hx0 := HYU.out m
        obtain ⟨x, hx⟩ : ∃ x, x = ys.getD m 0 := ⟨_, rfl⟩
        have hcx : wr.cell? ⟨b, off + m, none⟩ = some (.int .u32 x) := by
          rw [hx]
          exact cell_keep (cell_keep (hcells m (by rw [HYL.out]; exact hlt)) HB3.out (by simp)) HB.out (by simpa using hbn)
        have HMS : Hid (memN ys (m + 1) = (memN ys m).set m x) := by show _ = _; rw [hx]; rfl
        rw [← hx] at hx0
        subst hA
        clear hcells hx
        have hmlt : (m : Int) < (l0 : Int) := by omega
        go_wp2_with fail
        refine (fput_c bm bp 4 ((m : Int) / 16) ((m : Int) % 16) x (memN ys m) _ HM.out).mono ?_
        rintro e w4 ⟨rfl, hM4, k4⟩
        rw [putW_at _ _ _ h64] at hM4
        have HM4 : Hid (MemAt w4 bm bp 4 (memN ys (m + 1))) := by show MemAt _ _ _ _ _; rw [HMS.out]; exact hM4
        have HX4 : Hid (Blk w4 bx (memN ys m)) := HX.out.keep k4 (by simp; omega)
        have HB4 : Hid (But [bp, bx] w3 w4) := HB.out.trans (k4.wider (by simp))
        have hs4 : w4.drew.cell? ⟨g, 0, none⟩ = some (.slice (some ⟨b, off, none⟩) l0 c0) := cell_keep hs0 k4.drew (by simp; omega)
        have hc4 : w4.drew.cell? ⟨b, off + m, none⟩ = some (.int .u32 x) := cell_keep hcx k4.drew (by simp; omega)
        have hM0 : w4.drew.cell? ⟨bM, 0, none⟩ = some (.slice (some ⟨bx, 0, none⟩) 64 cx) := cell_keep (HRM.out 0 _ rfl) HB4.out.drew (by simp; omega)
        obtain ⟨hxc, hxz⟩ := HX4.out m (by rw [memN_len]; exact h64)
        have hxc' : w4.drew.cell? ⟨bx, m, none⟩ = some (.int .u32 ((memN ys m).getD m 0)) := hxc
        have hxz' : w4.drew.frozen? ⟨bx, m, none⟩ = false := hxz
        have h64' : (m : Int) < 64 := by omega
        clear hM4 k4 hs0 hcx hxc hxz
        go_wp2
        refine wp_region_still_tail 11 (by kernel_rfl) (by kernel_rfl) ?_
        simp only [List.take_succ_cons, List.take_zero, List.drop_succ_cons, List.drop_zero]
        change wpStill _ _ w4.drew _ _ _
        repeat still_step
        refine wpStill_nil ?_
        change wpList _ _ _ _ _ w4.drew
        have HX5 : Hid (Blk (w4.drew.setCell ⟨bx, m, none⟩ (.int .u32 x)) bx (memN ys (m + 1))) := by
          show Blk _ _ _
          rw [HMS.out]
          exact (HX4.out.keep (But.refl [] _).drew (by simp)).set (by rw [memN_len]; exact h64) x
        have k5 : But [bx] w4 (w4.drew.setCell ⟨bx, m, none⟩ (.int .u32 x)) := ((But.refl [bx] _).drew).setCell (by simp) _
        have HM5 : Hid (MemAt (w4.drew.setCell ⟨bx, m, none⟩ (.int .u32 x)) bm bp 4 (memN ys (m + 1))) := HM4.out.keep k5 (by simp; omega) (by simp; omega)
        have HB5 : Hid (But [bp, bx] w3 (w4.drew.setCell ⟨bx, m, none⟩ (.int .u32 x))) := HB4.out.trans (k5.wider (by simp))
        clear k5
        go_wp2
        go_roundg (64 - (m + 1))
        case measure => omega
        case rel => exact ⟨m + 1, by omega, by omega, by go_num, HM5.out, HX5.out, HB5.out⟩
      · by_cases hlt : m < l0
        · obtain rfl : m = 64 := by omega
          have e : min l0 64 = 64 := by omega
          go_wp2
          go_meet
          case rel => rw [e]; exact ⟨HM.out, HX.out, HB.out⟩
        · have e : min l0 64 = m := by omega
          go_wp2
          go_meet
          case rel => rw [e]; exact ⟨HM.out, HX.out, HB.out⟩
  case rest =>
    obtain ⟨hM, hX, hB⟩ := hcut
    obtain ⟨xs, hxs⟩ : ∃ xs, xs = memN ys (min l0 64) := ⟨_, rfl⟩
    have HXL : Hid (xs.length = 16 * 4) := by show _ = _; rw [hxs, memN_len]
    have HXU : Hid (U32s xs) := by show U32s xs; rw [hxs]; exact memN_u ys HYU.out _
    have HXS : Hid (memN ys (min l0 64) = xs) := hxs.symm
    rw [← hxs] at hM hX
    have HM : Hid (MemAt wc bm bp 4 xs) := hM
    have HX : Hid (Blk wc bx xs) := hX
    have HBc : Hid (But [] w wc) := but_fresh HB3.out hB (by have := HNW.out; simp; omega)
    have HRc : Hid (wc.rangeAt g 0 (stl A0 l0 c0 A1 l1 c1 s c)) := range_keep HR3.out hB (by simp; omega)
    have HRMc : Hid (wc.rangeAt bM 0 [.slice (some ⟨bx, 0, none⟩) 64 cx, .slice none 0 0]) := range_keep HRM.out hB (by simp; omega)
    have HTMc : Hid (wc.there bM 0 2) := there_keep HTM.out hB (by simp; omega)
    have HLOc : Hid (bm < wc.heap.size ∧ bp < wc.heap.size ∧ bx < wc.heap.size ∧ bM < wc.heap.size ∧ g < wc.heap.size) := by have := HLO.out; have := hB.size; show _ ∧ _; omega
    clear hM hX hB hxs HM3 HX3 HB3 HR3 HRM HTM HLO HY HYL
    have hz := Tl.ztlb_zero
    obtain ⟨bt, hbt⟩ : ∃ bt, bt = wc.heap.size := ⟨_, rfl⟩
    have HBT : Hid (bt = wc.heap.size) := hbt
    have hT0 := Tl.tlb_new wc
    have hKt : But [] wc (wc.alloc (.cells Tl.ztlb 62)) := (But.refl [] wc).alloc _
    go_upto_block 2 with fail
    rw [← hbt] at hT0 ⊢
    generalize wc.alloc (.cells Tl.ztlb 62) = w5 at hT0 hKt ⊢
    have HT5 : Hid (TlbAt w5 bt (tlbN es 0) 0) := hT0
    have HM5 : Hid (MemAt w5 bm bp 4 xs) := HM.out.keep hKt (by simp) (by simp)
    have HX5 : Hid (Blk w5 bx xs) := HX.out.keep hKt (by simp)
    have HB5 : Hid (But [] w w5) := HBc.out.trans hKt
    have HR5 : Hid (w5.rangeAt g 0 (stl A0 l0 c0 A1 l1 c1 s c)) := range_keep HRc.out hKt (by simp)
    have HRM5 : Hid (w5.rangeAt bM 0 [.slice (some ⟨bx, 0, none⟩) 64 cx, .slice none 0 0]) := range_keep HRMc.out hKt (by simp)
    have HTM5 : Hid (w5.there bM 0 2) := there_keep HTMc.out hKt (by simp)
    have HLO5 : Hid (bm < bt ∧ bp < bt ∧ bx < bt ∧ bM < bt ∧ g < bt ∧ bt < w5.heap.size) := by have := HLOc.out; have := hT0.lt; show _ ∧ _; omega
    have hlo := HLO5.out
    have HNT : Hid (w.heap.size ≤ bt) := by have := HBc.out.size; show _ ≤ bt; omega
    clear hT0 hKt hbt hz HM HX HBc HRc HRMc HTMc HLOc
    obtain ⟨lo, hlo5⟩ : ∃ lo, lo = w5.heap.size := ⟨_, rfl⟩
    have HLO6 : Hid (bt < lo ∧ lo ≤ w5.heap.size) := by show _ ∧ _; omega
    clear hlo5
    go_cut [10] (fun s10 wx => ∃ A cA, TlbAt wx bt (tlbN es (min l1 12)) 0 ∧ wx.cell? ⟨bM, 1, none⟩ = some (.slice A (tlbN es (min l1 12)).length cA) ∧ Ens wx lo A (tlbN es (min l1 12)) ∧ wx.frozen? ⟨bM, 1, none⟩ = false ∧ wx.cell? ⟨bM, 0, none⟩ = some (.slice (some ⟨bx, 0, none⟩) 64 cx) ∧ But [bt, bM] w5 wx)
    case first =>
      go_wp2_with fail
      go_loopg [10] 12 (fun g2 iv wx => ∃ (k : Nat) (A : Option Addr) (cA : Nat), k + g2 = 12 ∧ k ≤ l1 ∧ iv = .int .i64 k ∧ Hid (TlbAt wx bt (tlbN es k) 0) ∧ Hid (wx.cell? ⟨bM, 1, none⟩ = some (.slice A (tlbN es k).length cA)) ∧ Hid (Ens wx lo A (tlbN es k)) ∧ Hid (wx.frozen? ⟨bM, 1, none⟩ = false) ∧ Hid (wx.cell? ⟨bM, 0, none⟩ = some (.slice (some ⟨bx, 0, none⟩) 64 cx)) ∧ Hid (But [bt, bM] w5 wx))
      case atStart => exact ⟨0, none, 0, by omega, Nat.zero_le _, rfl, HT5, HRM5.out 1 _ rfl, .inl rfl, (HTM5.out 1 (by omega)).2, HRM5.out 0 _ rfl, But.refl _ _⟩
      case round =>
        obtain ⟨k, A, cA, hkg, hkl, rfl, HT, HCL, HEN, HFZ, HC0, HB⟩ := hrel
        have hs1 : wr.cell? ⟨g, 1, none⟩ = some (.slice A1 l1 c1) := cell_keep (HR5.out 1 _ rfl) HB.out (by simp; omega)
        by_cases hgo : k < l1 ∧ k < 12
        · obtain ⟨hlt, h12⟩ := hgo
          obtain ⟨b, off, hA, -, hbl, hrows⟩ := HE.out.at_ (i := k) (by rw [HEL.out]; exact hlt)
          have hbn : ¬ b = bt ∧ ¬ b = bM := by have := HNW.out; have := HNT.out; omega
          have hrow := range_keep (range_keep (hrows k (by rw [HEL.out]; exact hlt)) HB5.out (by simp)) HB.out (by simpa using hbn)
          obtain ⟨e0, he0⟩ : ∃ e, e = es.getD k en0 := ⟨_, rfl⟩
          rw [← he0] at hrow
          have HTS : Hid (tlbN es (k + 1) = putL (tlbN es k) e0) := by show _ = _; rw [he0]; rfl
          clear he0 hrows
          obtain ⟨S, P, F, W⟩ := e0
          have HRE : Hid (wr.rangeAt b (off + k * 4) [.int .i64 S, .int .i64 P, .int .i64 F, .bool W]) := hrow
          subst hA
          clear hrow
          have hklt : (k : Int) < (l1 : Int) := by omega
          obtain ⟨bE, hbE⟩ : ∃ bE, bE = wr.heap.size := ⟨_, rfl⟩
          have hzr := HB.out.size
          have HBE : Hid (bt < bE ∧ bM < bE ∧ g < bE ∧ lo ≤ bE ∧ bx < bE) := by have := HLO6.out; show _ ∧ _; omega
          have hbe := HBE.out
          have hRE := new_range wr [.int .i64 S, .int .i64 P, .int .i64 F, .bool W] 55
          have hKE : But [] wr (wr.alloc (.cells #[.int .i64 S, .int .i64 P, .int .i64 F, .bool W] 55)) := (But.refl [] wr).alloc _
          go_upto_region 13 with (first
            | (refine wpList_load_mid rfl 55 _ rfl b (off + k * 4) rfl [.int .i64 S, .int .i64 P, .int .i64 F, .bool W] _ HRE.out Try.underlying55 rfl Tl.Try.sizeREntry ?_))
          rw [← hbE] at hRE ⊢
          generalize wr.alloc (.cells #[.int .i64 S, .int .i64 P, .int .i64 F, .bool W] 55) = w6 at hRE hKE ⊢
          have x0 : w6.cell? ⟨bE, 0, none⟩ = some (.int .i64 S) := hRE 0 _ rfl
          have x1 : w6.cell? ⟨bE, 1, none⟩ = some (.int .i64 P) := hRE 1 _ rfl
          have x2 : w6.cell? ⟨bE, 2, none⟩ = some (.int .i64 F) := hRE 2 _ rfl
          have x3 : w6.cell? ⟨bE, 3, none⟩ = some (.bool W) := hRE 3 _ rfl
          clear hbE hRE hs1 hzr
          go_wp2_with fail
          refine (Tl.put_c bt (tlbN es k) 0 S P F W _ (HT.out.keep hKE (by simp))).mono ?_
          rintro e w7 ⟨rfl, hT7, k7⟩
          have HT7 : Hid (TlbAt w7 bt (tlbN es (k + 1)) 0) := by show TlbAt _ _ _ _; rw [HTS.out]; exact hT7
          have hK7 : But [bt] wr w7 := (hKE.any _).trans k7
          have HB7 : Hid (But [bt, bM] w5 w7) := HB.out.trans (hK7.wider (by simp))
          have y0 := cell_keep x0 k7 (by simp; omega)
          have y1 := cell_keep x1 k7 (by simp; omega)
          have y2 := cell_keep x2 k7 (by simp; omega)
          have y3 := cell_keep x3 k7 (by simp; omega)
          have hm7 : w7.cell? ⟨bM, 1, none⟩ = some (.slice A (tlbN es k).length cA) := cell_keep HCL.out hK7 (by simp; omega)
          have HE7 : Hid (Ens w7.drew 0 A (tlbN es k)) := (((HEN.out.keep hK7 (by have := HLO6.out; simp; omega))).keep (But.refl [] w7).drew (by simp)).lower (Nat.zero_le _)
          have hl8 := HT.out.most
          have hfz : w7.frozen? ⟨bM, 1, none⟩ = false := (hK7.frozen (p := ⟨bM, 1, none⟩) (lt_of_cell HCL.out) (by simp; omega)).trans HFZ.out
          have HC07 : Hid (w7.cell? ⟨bM, 0, none⟩ = some (.slice (some ⟨bx, 0, none⟩) 64 cx)) := cell_keep HC0.out hK7 (by simp; omega)
          obtain ⟨nl, hnl⟩ : ∃ nl, nl = (tlbN es k).length := ⟨_, rfl⟩
          have HNL : Hid (nl = (tlbN es k).length) := hnl
          rw [← hnl] at hm7 hl8
          clear x0 x1 x2 x3 hT7 hKE hnl
          go_wp2
          go_region_with ((go_at_call 20; rw [HNL.out]; refine (Tl.rput_c A cA (tlbN es k) S P F W _ HE7.out (by rw [← HNL.out]; exact hl8)).mono ?_; rintro e w8 ⟨A', c', rfl, hE8, k8⟩; have hm8 : w8.cell? ⟨bM, 1, none⟩ = some (.slice A nl cA) := cell_keep hm7 ((But.refl [] w7).drew.trans k8) (by simp); have hz8 : w8.frozen? ⟨bM, 1, none⟩ = false := (((But.refl [] w7).drew.trans k8).frozen (p := ⟨bM, 1, none⟩) (lt_of_cell hm7) (by simp)).trans hfz))
          all_goals
            have HTS' := HTS.out
            have hz5 := HB7.out.size
            have hlo6 := HLO6.out
            have k9 : But [bM] w8 (w8.setCell ⟨bM, 1, none⟩ (.slice A' (putL (tlbN es k) ⟨S, P, F, W⟩).length c')) := (But.refl _ _).setCell (by simp) _
            have k10 : But [bM] w7 (w8.setCell ⟨bM, 1, none⟩ (.slice A' (putL (tlbN es k) ⟨S, P, F, W⟩).length c')) := ((((But.refl [] w7).drew.trans k8)).any _).trans k9
            have HTa : Hid (TlbAt (w8.setCell ⟨bM, 1, none⟩ (.slice A' (putL (tlbN es k) ⟨S, P, F, W⟩).length c')) bt (tlbN es (k + 1)) 0) := HT7.out.keep k10 (by simp; omega)
            have HCa : Hid ((w8.setCell ⟨bM, 1, none⟩ (.slice A' (putL (tlbN es k) ⟨S, P, F, W⟩).length c')).cell? ⟨bM, 1, none⟩ = some (.slice A' (tlbN es (k + 1)).length c')) := by show _ = _; rw [HTS']; exact World.cell?_setCell_same _ _ _ hm8
            have HEa : Hid (Ens (w8.setCell ⟨bM, 1, none⟩ (.slice A' (putL (tlbN es k) ⟨S, P, F, W⟩).length c')) lo A' (tlbN es (k + 1))) := by show Ens _ _ _ _; rw [HTS']; exact (hE8.lower (by simp; omega)).keep k9 (by simp; omega)
            have HFa : Hid ((w8.setCell ⟨bM, 1, none⟩ (.slice A' (putL (tlbN es k) ⟨S, P, F, W⟩).length c')).frozen? ⟨bM, 1, none⟩ = false) := by show _ = _; rw [World.frozen?_setCell]; exact hz8
            have HDa : Hid ((w8.setCell ⟨bM, 1, none⟩ (.slice A' (putL (tlbN es k) ⟨S, P, F, W⟩).length c')).cell? ⟨bM, 0, none⟩ = some (.slice (some ⟨bx, 0, none⟩) 64 cx)) := (World.cell?_setCell_other _ _ _ _ (by intro e; injection e with e1 e2; omega)).trans (cell_keep HC07.out ((But.refl [] w7).drew.trans k8) (by simp))
            have HBa : Hid (But [bt, bM] w5 (w8.setCell ⟨bM, 1, none⟩ (.slice A' (putL (tlbN es k) ⟨S, P, F, W⟩).length c'))) := HB7.out.trans (k10.wider (by simp))
            clear HTS' k9 k10 hm8 hz8 hE8 k8
            go_wp2
            go_roundg (12 - (k + 1))
            case measure => omega
            case rel => exact ⟨k + 1, A', c', by omega, by omega, by go_num, HTa.out, HCa.out, HEa.out, HFa.out, HDa.out, HBa.out⟩
        · by_cases hlt : k < l1
          · obtain rfl : k = 12 := by omega
            have e : min l1 12 = 12 := by omega
            go_wp2
            go_meet
            case rel => rw [e]; exact ⟨A, cA, HT.out, HCL.out, HEN.out, HFZ.out, HC0.out, HB.out⟩
          · have e : min l1 12 = k := by omega
            go_wp2
            go_meet
            case rel => rw [e]; exact ⟨A, cA, HT.out, HCL.out, HEN.out, HFZ.out, HC0.out, HB.out⟩
    case rest =>
      obtain ⟨A, cA, hT, hcl, hen, hfz, hc0, hB⟩ := hcut
      have HT : Hid (TlbAt wc bt (tlbN es (min l1 12)) 0) := hT
      have HMc : Hid (MemAt wc bm bp 4 xs) := HM5.out.keep hB (by simp; omega) (by simp; omega)
      have hlo6 := HLO6.out
      have HRF : Hid (RefAt wc bM bx cx 4 xs A cA lo (tlbN es (min l1 12))) := ⟨hc0, hcl, hfz, HX5.out.keep hB (by simp; omega), HXL.out, hen, by omega, by omega, by omega⟩
      have HBw : Hid (But [] w wc) := but_fresh HB5.out hB (by have := HNW.out; have := HNT.out; simp; omega)
      have hzc := hB.size
      clear hT hcl hen hfz hc0 hB HT5 HM5 HX5 HB5 HR5 HRM5 HTM5
      go_wp2_with fail
      refine (cpuNew_c bm bp 4 xs bt (tlbN es (min l1 12)) 0 _ HMc.out HT.out HXU.out (by omega) (by omega)).mono ?_
      rintro e w9 ⟨bc, rfl, hbc, hC9, k9⟩
      have HC9 : Hid (CpuAt w9 bc bm bp 4 xs bt (tlbN es (min l1 12)) 0) := hC9
      have HK9 : Hid (But [] wc w9) := k9
      clear hC9 k9
      go_wp2
      have hnw := HNW.out
      have hnt := HNT.out
      have hl9 := HC9.out.lt
      have hw9 := HBw.out.size
      refine bodyPost_ret (v := .tuple #[.pointer (some ⟨bc, 0, none⟩), .pointer (some ⟨bm, 0, none⟩), .pointer (some ⟨bt, 0, none⟩), .pointer (some ⟨bM, 0, none⟩)]) (by simp [results, Try.results7, go_sem]) rfl ?_
      exact ⟨bc, bm, bp, bt, bM, bx, cx, A, cA, lo, rfl, by rw [HXS.out]; exact HC9.out, by rw [HXS.out]; exact HRF.out.keep HK9.out (by simp) (by simp) (by simp), ⟨by omega, by omega, hl9.1⟩, ⟨by omega, by omega, by omega, by omega, by omega, by omega⟩, ⟨by omega, by omega, by omega, by omega⟩, HNX.out, ens_ne HRF.out.ens hbc, HBw.out.trans HK9.out⟩
end Go.Proofs.Ytjlcncdhlcpklaa.Cp
