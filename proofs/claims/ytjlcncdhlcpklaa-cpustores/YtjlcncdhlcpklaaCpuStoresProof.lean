/-
  Whatever the input, the Go function CpuStores answers true, and its arguments read behind the call as they read before. No condition.
-/
import Derived.Test.YtjlcncdhlcpklaaRows
import Derived.Test.YtjlcncdhlcpklaaCpStores
import Derived.WalkKit
import Derived.Deep.LoopGhost
import Derived.Deep.CutBlock
import Derived.Deep.DeepCutAuto
import Derived.ProofKit
import Derived.OpenShut
import Derived.ShutString
import Derived.ChangeOld
import Derived.Below
import Derived.Carry
namespace Go.Proofs.Ytjlcncdhlcpklaa.cpuStores
open Go.ChangeShapes Go.WideShapes Go.ChangeAt Go.RowKit
open Go.ChangeMaps (open_string shut_string)
set_option linter.unusedVariables false

theorem own : ownKnob Try.prog.godebug = none := by kernel_rfl
theorem laidOut : laidOutB Try.prog = true := by kernel_rfl

set_option maxHeartbeats 4000000 in
set_option maxRecDepth 100000 in
theorem walk (w : World) (c0 : Array Value) (f0 : Cp.StartOk w c0) (a1 : Int) (w1 : (Lit.int .u32 a1).wf = true) (a2 : Int) (w2 : (Lit.int .u32 a2).wf = true) :
    Calls Try.prog 5 #[.agg c0, .int .u32 a1, .int .u32 a2] w fun e w' => e = .returned (.bool true) ∧ Below w.heap.size w w' := by
  obtain ⟨A0, l0, c0', A1, l1, c1', s, c, ys, es, rfl, hcl, hcu, -, -, -, -, -, -, -⟩ := f0
  obtain ⟨hW0, hW1⟩ := u32_bounds w1
  obtain ⟨hQ0, hQ1⟩ := u32_bounds w2
  clear w1 w2 hcu
  obtain ⟨k, hk, hak⟩ : ∃ k : Nat, k < 16 ∧ a2 % 16 = (k : Int) := ⟨(a2 % 16).toNat, by omega, by omega⟩
  have HLN : Hid (c.length = 17) := hcl
  have hR := new_range w (Cp.stl A0 l0 c0' A1 l1 c1' s c) 29
  have hT := there_new w (Cp.stl A0 l0 c0' A1 l1 c1' s c).toArray 29 20 (by rw [List.size_toArray]; exact Cp.stl_len _ _ _ _ _ _ _ _ hcl)
  have hB := (But.refl [] w).alloc (.cells (Cp.stl A0 l0 c0' A1 l1 c1' s c).toArray 29)
  obtain ⟨g, hg⟩ : ∃ g, g = w.heap.size := ⟨_, rfl⟩
  have HGW : Hid (w.heap.size ≤ g) := by show _ ≤ g; omega
  clear hcl
  go_enter Try.func5, Try.ntmps5
  go_upto_region 1 with fail
  rw [← hg] at hR hT ⊢
  generalize w.alloc (.cells (Cp.stl A0 l0 c0' A1 l1 c1' s c).toArray 29) = w0 at hR hT hB ⊢
  clear hg
  have x0 : w0.cell? ⟨g, 0, none⟩ = some (.slice A0 l0 c0') := hR 0 _ rfl
  have x1 : w0.cell? ⟨g, 1, none⟩ = some (.slice A1 l1 c1') := hR 1 _ rfl
  have x2 : w0.cell? ⟨g, 2, none⟩ = some (.int .i64 s) := hR 2 _ rfl
  have z0 : w0.frozen? ⟨g, 0, none⟩ = false := (hT 0 (by omega)).2
  have z1 : w0.frozen? ⟨g, 1, none⟩ = false := (hT 1 (by omega)).2
  have hg0 := lt_of_cell x0
  dsimp only at hg0
  go_upto_region 3 with fail
  obtain ⟨h, hh⟩ : ∃ h, w0.heap.size = h := ⟨_, rfl⟩
  rw [hh]
  obtain ⟨W, hW⟩ : ∃ W, W = ((((w0.setCell ⟨g, 0, none⟩ (.slice (some ⟨h, 0, none⟩) 4 4)).setCell ⟨g, 1, none⟩ (.slice (some ⟨h + 1, 0, none⟩) 2 2)).alloc (.cells #[.int .u32 252837888, .int .u32 238157824, .int .u32 289538049, .int .u32 273809409] 24)).alloc (.cells #[.int .i64 s, .int .i64 0, .int .i64 0, .bool false, .int .i64 s, .int .i64 1, .int .i64 2, .bool true] 55)) := ⟨_, rfl⟩
  obtain ⟨q1, q2, q3, q4⟩ := Cp.st_world w0 g h A0 l0 c0' A1 l1 c1' s c hR hg0 hh W hW
  rw [← hW]
  have HQ1 : Hid (W.rangeAt g 0 (Cp.stl (some ⟨h, 0, none⟩) 4 4 (some ⟨h + 1, 0, none⟩) 2 2 s c)) := q1
  have HQ2 : Hid (Rd .u32 W 0 W.heap.size (some ⟨h, 0, none⟩) Cp.wds) := q2
  have HQ3 : Hid (Tl.Ens W 0 (some ⟨h + 1, 0, none⟩) (Cp.ent s)) := q3
  have HQ4 : Hid (But [] w W) := Cp.but_fresh hB q4 (by have := HGW.out; simp; omega)
  have y2 : W.cell? ⟨g, 2, none⟩ = some (.int .i64 s) := q1 2 _ rfl
  have HSZ : Hid ((Try.prog.info? 29).map (·.size) = some (Cp.stl (some ⟨h, 0, none⟩) 4 4 (some ⟨h + 1, 0, none⟩) 2 2 s c).length) := by show _ = _; rw [Cp.stl_len _ _ _ _ _ _ _ _ HLN.out]; rfl
  clear q1 q2 q3 q4 hW hh hR hT hB x0 x1 x2 z0 z1 hg0 w0
  go_wp2_with (first
    | (refine wpList_load_mid rfl 29 _ rfl g 0 rfl (Cp.stl (some ⟨h, 0, none⟩) 4 4 (some ⟨h + 1, 0, none⟩) 2 2 s c) _ HQ1.out Try.underlying29 rfl HSZ.out ?_))
  refine (Cp.both_c (some ⟨h, 0, none⟩) 4 4 (some ⟨h + 1, 0, none⟩) 2 2 s c Cp.wds (Cp.ent s) _ HLN.out rfl HQ2.out Cp.u_wds rfl HQ3.out (by omega) (by omega)).mono ?_
  rintro e w1 ⟨bc, bm, bp, bt, bM, bx, cx, A, cA, lo, rfl, hC, -, -, -, ⟨n1, n2, n3, n4⟩, k1⟩
  rw [Cp.tlb_ent] at hC
  have HC : Hid (Cp.CpuAt w1 bc bm bp 4 Cp.m0 bt (Cp.ent s) 0) := hC
  have hlt := hC.lt
  have x2 : w1.cell? ⟨g, 2, none⟩ = some (.int .i64 s) := cell_keep y2 k1 (by simp)
  have HK1 : Hid (But [] w w1) := HQ4.out.trans k1
  have HN : Hid (w.heap.size ≤ bc ∧ w.heap.size ≤ bp ∧ w.heap.size ≤ bt) := by have := HQ4.out.size; show _ ∧ _; omega
  have hgn : g < W.heap.size := lt_of_cell y2
  have HGN : Hid (g ≠ bc ∧ g ≠ bp ∧ g ≠ bt) := by show _ ∧ _; omega
  clear hC k1 n1 n2 n3 n4 HQ1 HQ2 HQ3 HQ4 HSZ y2 hgn hlt
  go_upto_region 8 with fail
  have hag : (#[.int .u32 0, .int .u32 a1, .int .u32 (64 + (k : Int) * 4), .int .u32 0, .int .u32 (a1 / 256), .int .u32 0, .int .u32 0, .int .u32 0, .int .u32 0, .int .u32 0, .int .u32 0, .int .u32 0, .int .u32 0, .int .u32 0, .int .u32 0, .int .u32 0, .int .u32 0] : Array Value) = (Cp.cvl (Cp.stCi a1 k 0)).toArray := by rw [Int.mul_comm]; rfl
  rw [hag]
  obtain ⟨b, hb⟩ : ∃ b, b = w1.heap.size := ⟨_, rfl⟩
  have hRb := new_range w1 (Cp.cvl (Cp.stCi a1 k 0)) 27
  have hTb := there_new w1 (Cp.cvl (Cp.stCi a1 k 0)).toArray 27 17 (by rw [List.size_toArray, Cp.cvl_len, Cp.stCi_len])
  have hKb := (But.refl [] w1).alloc (.cells (Cp.cvl (Cp.stCi a1 k 0)).toArray 27)
  rw [← hb] at hRb hTb ⊢
  have hlt := HC.out.lt
  have hgl : g < w1.heap.size := lt_of_cell x2
  have HBN : Hid (b ≠ bc ∧ b ≠ bm ∧ b ≠ bp ∧ b ≠ bt ∧ b ≠ g ∧ w.heap.size ≤ b) := by have := HK1.out.size; show _ ∧ _; omega
  generalize w1.alloc (.cells (Cp.cvl (Cp.stCi a1 k 0)).toArray 27) = w9 at hRb hTb hKb ⊢
  have HC9 : Hid (Cp.CpuAt w9 bc bm bp 4 (Cp.stXi a1 k 0) bt (Cp.ent s) 0) := HC.out.keep0 hKb
  have HR9 : Hid (w9.rangeAt b 0 (Cp.cvl (Cp.stCi a1 k 0))) := hRb
  have HT9 : Hid (w9.there b 0 17) := hTb
  have HX9 : Hid (w9.cell? ⟨g, 2, none⟩ = some (.int .i64 s)) := cell_keep x2 hKb (by simp)
  have HK9 : Hid (But [] w w9) := HK1.out.trans hKb
  clear hag hRb hTb hKb hb hlt hgl HC HK1 x2
  rw [hak]
  clear hak
  go_wp2_with fail
  go_loopg [12] 4 (fun g0 iv wx => ∃ (i m : Nat), i + g0 = 4 ∧ iv = .int .i64 i ∧ m ≤ 2 * i ∧ Hid (Cp.CpuAt wx bc bm bp 4 (Cp.stXi a1 k i) bt (Cp.ent s) m) ∧ Hid (wx.rangeAt b 0 (Cp.cvl (Cp.stCi a1 k i))) ∧ Hid (wx.there b 0 17) ∧ Hid (wx.cell? ⟨g, 2, none⟩ = some (.int .i64 s)) ∧ Hid (But [] w wx))
  case atStart => exact ⟨0, 0, by omega, rfl, by omega, HC9, HR9, HT9, HX9, HK9⟩
  case round =>
    obtain ⟨i, m, hig, rfl, hmi, HC, HR, HT, HX, HB⟩ := hrel
    clear HC9 HR9 HT9 HX9 HK9
    by_cases hi : i < 4
    · have HST : Hid (Cp.stepP 4 (Cp.stXi a1 k i) (Cp.ent s) s (Cp.stCi a1 k i) = ⟨Cp.tr0, Cp.stCi a1 k (i + 1), Cp.stXi a1 k (i + 1)⟩) := Cp.st_all s a1 k hk hW0 hW1 i hi
      obtain ⟨c0, hc0⟩ : ∃ c0, c0 = Cp.stCi a1 k i := ⟨_, rfl⟩
      obtain ⟨c1, hc1⟩ : ∃ c1, c1 = Cp.stCi a1 k (i + 1) := ⟨_, rfl⟩
      obtain ⟨X0, hX0⟩ : ∃ X0, X0 = Cp.stXi a1 k i := ⟨_, rfl⟩
      obtain ⟨X1, hX1⟩ : ∃ X1, X1 = Cp.stXi a1 k (i + 1) := ⟨_, rfl⟩
      have HL0 : Hid (c0.length = 17) := by show _ = _; rw [hc0]; exact Cp.stCi_len _ _ _
      have HL1 : Hid (c1.length = 17) := by show _ = _; rw [hc1]; exact Cp.stCi_len _ _ _
      have HU0 : Hid (Cp.U32s c0) := by show Cp.U32s _; rw [hc0]; exact Cp.stCi_u _ _ hk hW0 hW1 _
      rw [← hc0, ← hc1, ← hX0, ← hX1] at HST
      rw [← hX0] at HC
      rw [← hc0] at HR
      have HE1 : Hid (c1 = Cp.stCi a1 k (i + 1) ∧ X1 = Cp.stXi a1 k (i + 1)) := ⟨hc1, hX1⟩
      clear hc0 hc1 hX0 hX1
      have x2 := HX.out
      go_wp2_with (first
        | (refine wpList_load_mid rfl 27 _ rfl b 0 rfl (Cp.cvl c0) _ HR.out Try.underlying27 rfl (Cp.cvl_info c0 HL0.out) ?_))
      refine (Cp.step_c bc bm bp 4 X0 bt (Cp.ent s) m s c0 _ HC.out (by omega) HL0.out HU0.out).mono ?_
      rintro e w2 ⟨m', rfl, hm', hC2, k2⟩
      rw [HST.out] at hC2 ⊢
      have hbn := HBN.out
      have hn := HN.out
      have hgn := HGN.out
      have HC2 : Hid (Cp.CpuAt w2 bc bm bp 4 X1 bt (Cp.ent s) m') := hC2
      have HT2 : Hid (w2.there b 0 17) := Cp.there_keep HT.out k2 (by simp; omega)
      have HX2 : Hid (w2.cell? ⟨g, 2, none⟩ = some (.int .i64 s)) := cell_keep x2 k2 (by simp; omega)
      have HK2 : Hid (But [] w w2) := Cp.but_fresh HB.out k2 (by simp; omega)
      have hbl : b < w2.heap.size := by have := lt_of_cell (HR.out 0 _ (Cp.cvl_get c0 0 (by rw [HL0.out]; omega))); have := k2.size; dsimp only at *; omega
      clear k2 hC2 x2 HC HR HT HX HB HST
      simp only [Cp.Dn.ans, Cp.Tr.vs, Cp.tr0]
      obtain ⟨hT5, hT6⟩ := Cp.two_new w2 #[.int .u32 0, .int .u32 0, .int .u32 0, .int .u32 0, .int .u32 0, .int .u32 0, .int .u32 0, .int .u32 0, .int .u32 0, .int .u32 0, .int .u32 0, .int .u32 0, .int .u32 0, .int .u32 0, .int .u32 0, .int .u32 0, .int .u32 0] #[.int .i64 0, .int .i64 0, .bool false, .int .i64 0] 27 37 17 4 rfl rfl
      have hK3 : But [] w2 ((w2.alloc (.cells #[.int .u32 0, .int .u32 0, .int .u32 0, .int .u32 0, .int .u32 0, .int .u32 0, .int .u32 0, .int .u32 0, .int .u32 0, .int .u32 0, .int .u32 0, .int .u32 0, .int .u32 0, .int .u32 0, .int .u32 0, .int .u32 0, .int .u32 0] 27)).alloc (.cells #[.int .i64 0, .int .i64 0, .bool false, .int .i64 0] 37)) := ((But.refl [] w2).alloc _).alloc _
      have HT5 : Hid (((w2.alloc (.cells #[.int .u32 0, .int .u32 0, .int .u32 0, .int .u32 0, .int .u32 0, .int .u32 0, .int .u32 0, .int .u32 0, .int .u32 0, .int .u32 0, .int .u32 0, .int .u32 0, .int .u32 0, .int .u32 0, .int .u32 0, .int .u32 0, .int .u32 0] 27)).alloc (.cells #[.int .i64 0, .int .i64 0, .bool false, .int .i64 0] 37)).there w2.heap.size 0 (Cp.cvl c1).toArray.size) := by show World.there _ _ _ _; rw [show (Cp.cvl c1).toArray.size = 17 by rw [List.size_toArray, Cp.cvl_len, HL1.out]]; exact hT5
      have HT6 : Hid (∀ cs : List Value, (((w2.alloc (.cells #[.int .u32 0, .int .u32 0, .int .u32 0, .int .u32 0, .int .u32 0, .int .u32 0, .int .u32 0, .int .u32 0, .int .u32 0, .int .u32 0, .int .u32 0, .int .u32 0, .int .u32 0, .int .u32 0, .int .u32 0, .int .u32 0, .int .u32 0] 27)).alloc (.cells #[.int .i64 0, .int .i64 0, .bool false, .int .i64 0] 37)).setCells w2.heap.size 0 cs).there (w2.heap.size + 1) 0 4) := fun cs => World.there_setCells hT6 _ _ _
      have HI : Hid ((Try.prog.info? 27).map (·.size) = some (Cp.cvl c1).toArray.size) := by show _ = _; rw [List.size_toArray]; exact Cp.cvl_info c1 HL1.out
      obtain ⟨v1, v2⟩ := Cp.two_laid ((w2.alloc (.cells #[.int .u32 0, .int .u32 0, .int .u32 0, .int .u32 0, .int .u32 0, .int .u32 0, .int .u32 0, .int .u32 0, .int .u32 0, .int .u32 0, .int .u32 0, .int .u32 0, .int .u32 0, .int .u32 0, .int .u32 0, .int .u32 0, .int .u32 0] 27)).alloc (.cells #[.int .i64 0, .int .i64 0, .bool false, .int .i64 0] 37)) w2.heap.size (w2.heap.size + 1) (Cp.cvl c1) [.int .i64 0, .int .i64 0, .bool false, .int .i64 0] (by rw [Cp.cvl_len, HL1.out]; exact hT5) hT6 (by omega)
      have hK4 : But [w2.heap.size, w2.heap.size + 1] w2 ((((w2.alloc (.cells #[.int .u32 0, .int .u32 0, .int .u32 0, .int .u32 0, .int .u32 0, .int .u32 0, .int .u32 0, .int .u32 0, .int .u32 0, .int .u32 0, .int .u32 0, .int .u32 0, .int .u32 0, .int .u32 0, .int .u32 0, .int .u32 0, .int .u32 0] 27)).alloc (.cells #[.int .i64 0, .int .i64 0, .bool false, .int .i64 0] 37)).setCells w2.heap.size 0 (Cp.cvl c1)).setCells (w2.heap.size + 1) 0 [.int .i64 0, .int .i64 0, .bool false, .int .i64 0]) := ((hK3.any _).setCells (by simp) _ _).setCells (by simp) _ _
      clear hT5 hT6 hK3
      go_upto_region 12 with (first
        | (refine wpList_store_mid rfl 27 _ _ rfl w2.heap.size 0 (Cp.cvl c1).toArray rfl rfl ?ht HI.out (all_oneCell_toArray (Cp.cvl_one c1)) ?_; case ht => exact HT5.out)
        | (refine wpList_store_mid rfl 37 _ _ rfl (w2.heap.size + 1) 0 #[.int .i64 0, .int .i64 0, .bool false, .int .i64 0] rfl rfl ?ht Cp.Try.sizeTrap (Cp.Tr.vs_all Cp.tr0) ?_; case ht => exact HT6.out _))
      obtain ⟨b5, hb5⟩ : ∃ b5, b5 = w2.heap.size := ⟨_, rfl⟩
      generalize ((w2.alloc (.cells #[.int .u32 0, .int .u32 0, .int .u32 0, .int .u32 0, .int .u32 0, .int .u32 0, .int .u32 0, .int .u32 0, .int .u32 0, .int .u32 0, .int .u32 0, .int .u32 0, .int .u32 0, .int .u32 0, .int .u32 0, .int .u32 0, .int .u32 0] 27)).alloc (.cells #[.int .i64 0, .int .i64 0, .bool false, .int .i64 0] 37)).setCells w2.heap.size 0 (Cp.cvl c1) = w3 at v1 v2 hK4 ⊢
      generalize w3.setCells (w2.heap.size + 1) 0 [.int .i64 0, .int .i64 0, .bool false, .int .i64 0] = w4 at v1 v2 hK4 ⊢
      rw [← hb5] at v1 v2 hK4 ⊢
      rw [← hb5] at hbl
      have hl2 := HC2.out.lt
      rw [← hb5] at hl2
      have hgl : g < b5 := by rw [hb5]; exact lt_of_cell HX2.out
      have hw2 : w.heap.size ≤ b5 := by rw [hb5]; exact HK2.out.size
      have HV1 : Hid (w4.rangeAt b5 0 (Cp.cvl c1)) := v1
      have e3 : w4.cell? ⟨b5 + 1, 0, none⟩ = some (.int .i64 0) := v2 0 _ rfl
      have HC4 : Hid (Cp.CpuAt w4 bc bm bp 4 X1 bt (Cp.ent s) m') := HC2.out.keep hK4 (by simp; omega) (by simp; omega) (by simp; omega) (by simp; omega)
      have HT4 : Hid (w4.there b 0 (Cp.cvl c1).toArray.size) := by show World.there _ _ _ _; rw [show (Cp.cvl c1).toArray.size = 17 by rw [List.size_toArray, Cp.cvl_len, HL1.out]]; exact Cp.there_keep HT2.out hK4 (by simp; omega)
      have HX4 : Hid (w4.cell? ⟨g, 2, none⟩ = some (.int .i64 s)) := cell_keep HX2.out hK4 (by simp; omega)
      have HK4 : Hid (But [] w w4) := Cp.but_fresh HK2.out hK4 (by simp; omega)
      clear v1 v2 hK4 hb5 HT5 HT6 HC2 HT2 HX2 HK2
      have k5 : But [b] w4 (w4.setCells b 0 (Cp.cvl c1)) := (But.refl [b] w4).setCells (by simp) _ _
      have HT5 : Hid ((w4.setCells b 0 (Cp.cvl c1)).there b 0 17) := by have := World.there_setCells HT4.out b 0 (Cp.cvl c1); rwa [show (Cp.cvl c1).toArray.size = 17 by rw [List.size_toArray, Cp.cvl_len, HL1.out]] at this
      have HR5 : Hid ((w4.setCells b 0 (Cp.cvl c1)).rangeAt b 0 (Cp.cvl c1)) := by have := HT4.out; rw [List.size_toArray] at this; exact World.rangeAt_setCells_same _ _ _ _ this
      have HC5 : Hid (Cp.CpuAt (w4.setCells b 0 (Cp.cvl c1)) bc bm bp 4 X1 bt (Cp.ent s) m') := HC4.out.keep k5 (by simp; omega) (by simp; omega) (by simp; omega) (by simp; omega)
      have HX5 : Hid ((w4.setCells b 0 (Cp.cvl c1)).cell? ⟨g, 2, none⟩ = some (.int .i64 s)) := cell_keep HX4.out k5 (by simp; omega)
      have HK5 : Hid (But [] w (w4.setCells b 0 (Cp.cvl c1))) := Cp.but_fresh HK4.out k5 (by simp; omega)
      clear k5 HC4 HX4 HK4
      go_wp2_with (first
        | (refine wpList_load_mid rfl 27 _ rfl b5 0 rfl (Cp.cvl c1) _ HV1.out Try.underlying27 rfl (Cp.cvl_info c1 HL1.out) ?_)
        | (refine wpList_store_mid rfl 27 _ _ rfl b 0 (Cp.cvl c1).toArray rfl rfl ?ht HI.out (all_oneCell_toArray (Cp.cvl_one c1)) ?_; case ht => exact HT4.out))
      go_roundg (4 - (i + 1))
      case measure => omega
      case rel =>
        have he := HE1.out
        exact ⟨i + 1, m', by omega, by go_num, by omega, by rw [← he.2]; exact HC5, by rw [← he.1]; exact HR5, HT5, HX5, HK5⟩
    · obtain rfl : i = 4 := by omega
      have e3 : wr.cell? ⟨b, 3, none⟩ = some (.int .u32 a1) := HR.out 3 _ rfl
      have e5 : wr.cell? ⟨b, 5, none⟩ = some (.int .u32 (a1 / 256 % 256)) := HR.out 5 _ rfl
      have e16 : wr.cell? ⟨b, 16, none⟩ = some (.int .u32 16) := HR.out 16 _ rfl
      clear HC HR HT HX
      go_wp2_with (go_at_call 11; refine (Cp.awake_c _).mono ?_; rintro e w5 ⟨rfl, k5⟩)
      go_ret
      exact ⟨rfl, (HB.out.trans k5).below (Nat.le_refl _) (by simp)⟩

set_option maxRecDepth 100000 in
theorem lifted (os : Os) (started : os.Started) (H : Type) (enc : TypeId × Value → H) :
    ReturnsInHanded {} Try.checked os 5 .any (Rows.cpuStoresSpec.pre6 enc Try.prog Try.f5 Rows.cpuStoresRow.domain false) (Rows.cpuStoresSpec.post enc Try.prog Try.f5 false true false false) := by
  refine returnsInHanded_of_change (C := Try.checked) own started (by kernel_rfl) Try.func5
    (ChangeSpec.witness6 (enc := enc) (C := Try.checked) false ⟨#[], #[.agg #[.slice none 0 0, .slice none 0 0, .int .i64 0, .int .u32 0, .int .u32 0, .int .u32 0, .int .u32 0, .int .u32 0, .int .u32 0, .int .u32 0, .int .u32 0, .int .u32 0, .int .u32 0, .int .u32 0, .int .u32 0, .int .u32 0, .int .u32 0, .int .u32 0, .int .u32 0, .int .u32 0], .int .u32 0, .int .u32 0], []⟩ 8 (by kernel_rfl) (by kernel_rfl) (by kernel_rfl) (by kernel_rfl)) ?_
  intro W base args ds gs before hval0 hW hcnd _
  have hval : ∀ (j : Nat) t v, Try.f5.params[j]? = some t → args[j]? = some v → Value.okWide Try.prog W .any base t v := hval0
  have hW' := hW
  obtain ⟨p, q, hA0, hV, rfl, hfz, hnd⟩ := hW
  have hA : DataW.TrodAll enc Try.prog W 0 (fun _ => true) true Try.f5.params.toList args.toList ds p := hA0
  rw [Try.params5] at hA hval
  obtain ⟨v0, vs0, d0, ds0, p0, q0, hargs, rfl, rfl, h0, t0⟩ := trodAll_cons hA
  obtain ⟨v1, vs1, d1, ds1, p1, q1, rfl, rfl, rfl, h1, t1⟩ := trodAll_cons t0
  obtain ⟨v2, vs2, d2, ds2, p2, q2, rfl, rfl, rfl, h2, t2⟩ := trodAll_cons t1
  obtain ⟨rfl, rfl, rfl⟩ := trodAll_nil t2
  obtain rfl : args = #[v0, v1, v2] := by cases args; simp_all
  obtain ⟨rfl, rfl⟩ := trodVars_none hV
  have k0 := h0
  have lt0 : ∀ x ∈ p0, x.block < W.heap.size := by obtain ⟨m, hm⟩ := k0; exact DataW.trod_lt m _ _ _ hm
  have k1 := h1
  have lt1 : ∀ x ∈ p1, x.block < W.heap.size := by obtain ⟨m, hm⟩ := k1; exact DataW.trod_lt m _ _ _ hm
  have k2 := h2
  have lt2 : ∀ x ∈ p2, x.block < W.heap.size := by obtain ⟨m, hm⟩ := k2; exact DataW.trod_lt m _ _ _ hm
  obtain ⟨c0, rfl, -⟩ := okWide_struct Try.underlying29 (hval 0 29 v0 rfl rfl)
  have f0 := Cp.start_open h0
  obtain ⟨a1, rfl, rfl, rfl, w1⟩ := open_int Try.underlying24 (hval 1 24 v1 rfl rfl) h1
  obtain ⟨a2, rfl, rfl, rfl, w2⟩ := open_int Try.underlying24 (hval 2 24 v2 rfl rfl) h2
  clear hA0 hval0
  refine (walk W c0 f0 a1 w1 a2 w2).mono fun e W' ⟨he, hg⟩ => ?_
  subst he
  exact ⟨_, rfl, _, _, _, [], _, [], hW', (trodAll_cons_mk (shut_bool Try.underlying4 _) trodAll_mk0), (trodAll_cons_mk (Below.trod laidOut (by kernel_rfl) (of_decide_eq_true (by kernel_rfl)) k0 hg lt0) (trodAll_cons_mk (Below.trod laidOut (by kernel_rfl) (of_decide_eq_true (by kernel_rfl)) k1 hg lt1) (trodAll_cons_mk (Below.trod laidOut (by kernel_rfl) (of_decide_eq_true (by kernel_rfl)) k2 hg lt2) trodAll_mk0))), rfl, hg.frame _, (fun h => by cases h)⟩

theorem over : Rows.cpuStoresRow.holds Try.pinned (OpenSpec.ofChange Rows.cpuStoresSpec) :=
  OpenClaim.holds_of_wide 5 Try.f5 rfl rfl rfl rfl rfl rfl rfl ⟨rfl, rfl, rfl, rfl, rfl⟩ rfl rfl rfl rfl rfl (by kernel_rfl) Try.func5 (by kernel_rfl)
    (of_decide_eq_true (by kernel_rfl)) (by unfold Func.isWrapper; first | (rw [if_pos (by decide +kernel)]; kernel_rfl) | (rw [if_neg (by decide +kernel)]; exact ⟨rfl, rfl⟩))
    (fun os started H enc _ => lifted os started H enc)
end Go.Proofs.Ytjlcncdhlcpklaa.cpuStores
namespace Go.Proofs.Ytjlcncdhlcpklaa
/-- The statement, by its short name. -/
theorem cpuStores_holds : Rows.CpuStoresSaid := cpuStores.over
#print axioms cpuStores_holds
end Go.Proofs.Ytjlcncdhlcpklaa
