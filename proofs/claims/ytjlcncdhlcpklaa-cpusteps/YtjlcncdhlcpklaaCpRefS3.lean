/-
  Layer 6 (cpu): the document's machine: more cases of its Step (div0, div, addi, rk), over the translated program.
-/
import Derived.Test.YtjlcncdhlcpklaaCpRefS
namespace Go.Proofs.Ytjlcncdhlcpklaa.Cp
open Go.ChangeShapes Go.WideShapes Go.ChangeAt Go.RowKit
open Fr (MemAt Blk hasW hasF) 
open Tl (En TlbAt Ens getE misE ansE en0)
set_option linter.unusedVariables false
set_option maxRecDepth 20000

set_option maxHeartbeats 4000000 in
theorem rst_div0 (bM bx cx : Nat) (xs : List Int) (A : Option Addr) (cA lo : Nat) (l : List En) (s : Int) (c : List Int) (w : World) (h : RefAt w bM bx cx 4 xs A cA lo l) (hl8 : l.length ≤ 1000) (hux : U32s xs) (hl : c.length = 17) (hu : U32s c) (hal : c.getD 16 0 % 4 = 0) (r : Fd) (hr : fnd l s (c.getD 16 0) false = r) (h0 : r.t.cause = 0) (v : Int) (hv : getW 4 xs r.f r.a = v) (hn : vldD v = true) (o : Int) (a b : Nat) (i : Int) (ho : doR v = o) (hea : daR v = a) (heb : dbR v = b) (hi : diR v = i) (ha : a < 16) (hb : b < 16) (hib : -32768 ≤ i ∧ i ≤ 32767) (hop : o = 7) (hs : c.getD b 0 = 0) :
    Calls Try.prog 9 #[.pointer (some ⟨bM, 0, none⟩), .int .i64 s, .agg (cvl c).toArray] w fun e w' => e = .returned (stepP 4 xs l s c).ans ∧ RefAt w' bM bx cx 4 (stepP 4 xs l s c).xs A cA lo l ∧ But [bx] w w' := by
  obtain ⟨D, hD⟩ : ∃ D, stepP 4 xs l s c = D := ⟨_, rfl⟩
  rw [hD]
  obtain ⟨x, hx16⟩ : ∃ x, c.getD 16 0 = x := ⟨_, rfl⟩
  have hbx := hu 16
  rw [hx16] at hbx
  obtain ⟨hx0, hx1⟩ := hbx
  have hfc : ftc 4 xs l s (c.getD 16 0) = ⟨tr0, o, a, b, i⟩ := by rw [ftc_in hal hr h0 hv hn, ho, hea, heb, hi]
  have hDE : D = endD c (doP 4 xs l s o a b i (pc4 c)) := hD.symm.trans (st_word hfc)
  obtain ⟨hib0, hib1⟩ := hib
  have HOP : Hid (o = 7) := hop
  rw [hop] at hDE
  obtain ⟨z, hz⟩ : ∃ z, c.getD a 0 = z := ⟨_, rfl⟩
  obtain ⟨y, hy⟩ : ∃ y, c.getD b 0 = y := ⟨_, rfl⟩
  have HDF : Hid (D = ⟨⟨4, 0, false, 0⟩, c, xs⟩) := hDE.trans (s_7n hl hb hs)
  rw [hy] at hs
  have HS : Hid (y = 0) := hs
  have HRK : Hid (∀ w, Calls Try.prog 29 #[.int .i64 7, .int .u32 z, .int .u32 y] w fun e w' => e = .returned (.tuple #[.int .u32 0, .bool false]) ∧ w = w') := fun w => by rw [hs]; exact reckon_no z w
  clear hs
  clear hop hDE hfc
  rw [hx16] at hal
  have HAL : Hid (x % 4 = 0) := hal
  obtain ⟨⟨t1, t2, t3, t4⟩, f, q⟩ := r
  rw [hx16] at hr
  have HR : Hid (fnd l s x false = ⟨⟨t1, t2, t3, t4⟩, f, q⟩) := hr
  dsimp only at h0 hv
  have HT1 : Hid (t1 = 0) := h0
  clear h0
  have HV : Hid (getW 4 xs f q = v) := hv
  have HVD : Hid (vldD v = true) := hn
  have HDO : Hid (doR v = o) := ho
  have HDA : Hid (daR v = a) := hea
  have HDB : Hid (dbR v = b) := heb
  have HDI : Hid (diR v = i) := hi
  clear hal hr hv hn ho hea heb hi
  have ha16 : (a : Int) < 16 := by omega
  have ha0 : (0 : Int) ≤ (a : Int) := by omega
  have hb16 : (b : Int) < 16 := by omega
  have hb0 : (0 : Int) ≤ (b : Int) := by omega
  have hbz := hu a
  have hby := hu b
  rw [hz] at hbz
  rw [hy] at hby
  obtain ⟨hz0, hz1⟩ := hbz
  obtain ⟨hy0, hy1⟩ := hby
  have HZ : Hid (c.getD a 0 = z) := hz
  have HY : Hid (c.getD b 0 = y) := hy
  have HPC : Hid (pc4 c = c.set 16 ((x + 4) % 4294967296)) := by show _ = _; unfold pc4; rw [hx16]
  have HRA : Hid ((pc4 c).getD a 0 = z) := (pc4_reg c hl a ha).trans hz
  have HRB : Hid ((pc4 c).getD b 0 = y) := (pc4_reg c hl b hb).trans hy
  have HL4 : Hid ((pc4 c).length = 17) := by show _ = _; unfold pc4; rw [List.length_set]; exact hl
  have hX1 := SBx.new w c 27 37 hl
  have hB1 : But [] w (((w.alloc (.cells (cvl c).toArray 27)).alloc (.cells #[.int .u32 0, .int .u32 0, .int .u32 0, .int .u32 0, .int .u32 0, .int .u32 0, .int .u32 0, .int .u32 0, .int .u32 0, .int .u32 0, .int .u32 0, .int .u32 0, .int .u32 0, .int .u32 0, .int .u32 0, .int .u32 0, .int .u32 0] 27)).alloc (.cells #[.int .i64 0, .int .i64 0, .bool false, .int .i64 0] 37)) := (((But.refl [] w).alloc _).alloc _).alloc _
  obtain ⟨g, hg⟩ : ∃ g, g = w.heap.size := ⟨_, rfl⟩
  have HGS : Hid (w.heap.size ≤ g) := by show _ ≤ g; omega
  have HRF : Hid (RefAt w bM bx cx 4 xs A cA lo l) := h
  obtain ⟨hlM, hlx⟩ := h.lt
  rw [← hg] at hlM hlx
  have HLX : Hid (bM < g ∧ bx < g) := ⟨hlM, hlx⟩
  have HLN : Hid (c.length = 17) := hl
  have HU : Hid (U32s c) := hu
  have HUX : Hid (U32s xs) := hux
  have HX16 : Hid (c.getD 16 0 = x) := hx16
  clear h hux hu hl hx16 hD
  go_enter Try.func9, Try.ntmps9
  go_upto_region 1 with fail
  rw [← hg] at hX1 ⊢
  generalize ((w.alloc (.cells (cvl c).toArray 27)).alloc (.cells #[.int .u32 0, .int .u32 0, .int .u32 0, .int .u32 0, .int .u32 0, .int .u32 0, .int .u32 0, .int .u32 0, .int .u32 0, .int .u32 0, .int .u32 0, .int .u32 0, .int .u32 0, .int .u32 0, .int .u32 0, .int .u32 0, .int .u32 0] 27)).alloc (.cells #[.int .i64 0, .int .i64 0, .bool false, .int .i64 0] 37) = w1 at hX1 hB1 ⊢
  have HX : Hid (SBx w1 g c) := hX1
  have HB : Hid (But [] w w1) := hB1
  have hpc : w1.cell? ⟨g, 16, none⟩ = some (.int .u32 x) := by rw [← HX16.out]; exact hX1.ctx.reg 16 (by omega)
  clear hX1 hB1 hg
  clear hz hy
  have hne : (x % 4 != 0) = false := by simp [HAL.out]
  go_wp2_with fail
  refine (rfind_c bM bx cx xs A cA lo l s x false _ (HRF.out.keep0 HB.out) hl8 hx0 hx1).mono ?_
  rintro e w2 ⟨rfl, k2⟩
  rw [HR.out]
  simp only [Tr.vs]
  obtain ⟨P, hP⟩ : ∃ P, plc ⟨⟨t1, t2, t3, t4⟩, f, q⟩ = P := ⟨_, rfl⟩
  rw [hP]
  have hPb := plc_bd ⟨⟨t1, t2, t3, t4⟩, f, q⟩
  rw [hP] at hPb
  obtain ⟨hP0, hP1⟩ := hPb
  have HP : Hid (plc ⟨⟨t1, t2, t3, t4⟩, f, q⟩ = P) := hP
  have hX2 := HX.out.keep0 k2
  have hB2 := HB.out.trans k2
  have hRT := new_range w2 [.int .i64 t1, .int .i64 t2, .bool t3, .int .i64 t4] 37
  have hKT : But [] w2 (w2.alloc (.cells #[.int .i64 t1, .int .i64 t2, .bool t3, .int .i64 t4] 37)) := (But.refl [] w2).alloc _
  clear k2 HX HB hP hpc hne
  go_upto_region 4 with fail
  generalize w2.alloc (.cells #[.int .i64 t1, .int .i64 t2, .bool t3, .int .i64 t4] 37) = w3 at hRT hKT ⊢
  obtain ⟨b3, hb3⟩ : ∃ b3, b3 = w2.heap.size := ⟨_, rfl⟩
  have hg3 : g + 2 < b3 := by rw [hb3]; exact lt_of_there hX2.t9 (by omega)
  rw [← hb3] at hRT ⊢
  have HX : Hid (SBx w3 g c) := hX2.keep0 hKT
  have HB : Hid (But [] w w3) := hB2.trans hKT
  have HRT : Hid (w3.rangeAt b3 0 [.int .i64 t1, .int .i64 t2, .bool t3, .int .i64 t4]) := hRT
  have q0 : w3.cell? ⟨b3, 0, none⟩ = some (.int .i64 t1) := hRT 0 _ rfl
  clear hX2 hB2 hRT hKT hb3
  have ht1 := HT1.out
  subst ht1
  have hvv : rgw xs P = v := by rw [← HP.out, ← HV.out]; exact rgw_plc xs ⟨⟨0, t2, t3, t4⟩, f, q⟩ rfl
  have hvb := getW_bd (n := 4) HUX.out f q
  rw [HV.out] at hvb
  obtain ⟨hv0, hv1⟩ := hvb
  have HVV : Hid (rgw xs P = v) := hvv
  clear hvv
  go_wp2_with fail
  refine (rgetm_c bM bx cx xs A cA lo l P _ (HRF.out.keep0 HB.out) hP1).mono ?_
  rintro e w5 ⟨rfl, rfl⟩
  rw [HVV.out]
  go_wp2_with fail
  refine (rdecode_c v _ hv0 hv1).mono ?_
  rintro e w4 ⟨rfl, k4⟩
  rw [HVD.out, HDO.out, HDA.out, HDB.out, HDI.out]
  have hX4 := HX.out.keep0 (But.of_below k4)
  have hB4 := HB.out.trans (But.of_below k4)
  have hRI := new_range w4 [.int .i64 o, .int .i64 a, .int .i64 b, .int .i64 i] 75
  have hKI : But [] w4 (w4.alloc (.cells #[.int .i64 o, .int .i64 a, .int .i64 b, .int .i64 i] 75)) := (But.refl [] w4).alloc _
  clear k4 HX HB q0 HRT
  go_upto_region 7 with fail
  generalize w4.alloc (.cells #[.int .i64 o, .int .i64 a, .int .i64 b, .int .i64 i] 75) = w6 at hRI hKI ⊢
  obtain ⟨bI, hbI⟩ : ∃ bI, bI = w4.heap.size := ⟨_, rfl⟩
  have hgI : g + 2 < bI := by rw [hbI]; exact lt_of_there hX4.t9 (by omega)
  rw [← hbI] at hRI ⊢
  have HX : Hid (SBx w6 g c) := hX4.keep0 hKI
  have HB : Hid (But [] w w6) := hB4.trans hKI
  have HRI : Hid (w6.rangeAt bI 0 [.int .i64 o, .int .i64 a, .int .i64 b, .int .i64 i]) := hRI
  have i0 : w6.cell? ⟨bI, 0, none⟩ = some (.int .i64 o) := hRI 0 _ rfl
  have i1 : w6.cell? ⟨bI, 1, none⟩ = some (.int .i64 a) := hRI 1 _ rfl
  have i2 : w6.cell? ⟨bI, 2, none⟩ = some (.int .i64 b) := hRI 2 _ rfl
  have i3 : w6.cell? ⟨bI, 3, none⟩ = some (.int .i64 i) := hRI 3 _ rfl
  clear hX4 hB4 hRI hKI hbI HVV
  have hop := HOP.out
  subst hop
  have HT12 : Hid ((w6.alloc (.cells #[.int .u32 0, .int .u32 0, .int .u32 0, .int .u32 0, .int .u32 0, .int .u32 0, .int .u32 0, .int .u32 0, .int .u32 0, .int .u32 0, .int .u32 0, .int .u32 0, .int .u32 0, .int .u32 0, .int .u32 0, .int .u32 0, .int .u32 0] 27)).there w6.heap.size 0 (cvl c).toArray.size) := by show World.there _ _ _ _; rw [show (cvl c).toArray.size = 17 by rw [List.size_toArray, cvl_len, HLN.out]]; exact there_new _ _ _ _ rfl
  have HI12 : Hid ((Try.prog.info? 27).map (·.size) = some (cvl c).toArray.size) := by show _ = _; rw [List.size_toArray]; exact cvl_info c HLN.out
  have hC12 : CtxAt ((w6.alloc (.cells #[.int .u32 0, .int .u32 0, .int .u32 0, .int .u32 0, .int .u32 0, .int .u32 0, .int .u32 0, .int .u32 0, .int .u32 0, .int .u32 0, .int .u32 0, .int .u32 0, .int .u32 0, .int .u32 0, .int .u32 0, .int .u32 0, .int .u32 0] 27)).setCells w6.heap.size 0 (cvl c)) w6.heap.size c := CtxAt.sets c (there_new _ _ _ _ rfl) HLN.out
  have k12 : But [] w6 ((w6.alloc (.cells #[.int .u32 0, .int .u32 0, .int .u32 0, .int .u32 0, .int .u32 0, .int .u32 0, .int .u32 0, .int .u32 0, .int .u32 0, .int .u32 0, .int .u32 0, .int .u32 0, .int .u32 0, .int .u32 0, .int .u32 0, .int .u32 0, .int .u32 0] 27)).setCells w6.heap.size 0 (cvl c)) := ((But.refl [] w6).alloc _).setCells (.inr (Nat.le_refl _)) _ _
  have hb12 : bI < w6.heap.size := lt_of_cell i0
  go_upto_region 17 with (first
    | (refine wpList_load_mid rfl 27 _ rfl g 0 rfl (cvl c) _ HX.out.ctx.range Try.underlying27 rfl (cvl_info _ HLN.out) ?_)
    | (refine wpList_store_mid rfl 27 _ _ rfl w6.heap.size 0 (cvl c).toArray rfl rfl ?ht HI12.out (all_oneCell_toArray (cvl_one _)) ?_; case ht => exact HT12.out))
  generalize (w6.alloc (.cells #[.int .u32 0, .int .u32 0, .int .u32 0, .int .u32 0, .int .u32 0, .int .u32 0, .int .u32 0, .int .u32 0, .int .u32 0, .int .u32 0, .int .u32 0, .int .u32 0, .int .u32 0, .int .u32 0, .int .u32 0, .int .u32 0, .int .u32 0] 27)).setCells w6.heap.size 0 (cvl c) = w7 at hC12 k12 ⊢
  obtain ⟨b12, hbe⟩ : ∃ b12, b12 = w6.heap.size := ⟨_, rfl⟩
  rw [← hbe] at hC12 hb12 ⊢
  have hX7 := HX.out.keep0 k12
  have hB7 := HB.out.trans k12
  have hRI7 := range_keep HRI.out k12 (by simp)
  clear HX HB HRI i0 i1 i2 i3 hbe HT12 HI12 k12
  have hpc : w7.cell? ⟨g, 16, none⟩ = some (.int .u32 x) := by rw [← HX16.out]; exact hX7.ctx.reg 16 (by omega)
  have hz6 : w7.frozen? ⟨g, 16, none⟩ = false := hX7.ctx.fz 16 (by omega)
  go_upto_region 18 with fail
  have hX8 := hX7.set 16 (by omega) ((x + 4) % 4294967296)
  rw [← HPC.out] at hX8
  have k8 : But [g] w7 (w7.setCell ⟨g, 16, none⟩ (.int .u32 ((x + 4) % 4294967296))) := (But.refl [g] w7).setCell (by simp) _
  generalize w7.setCell ⟨g, 16, none⟩ (.int .u32 ((x + 4) % 4294967296)) = w8 at hX8 k8 ⊢
  have hR8 := range_keep hRI7 k8 (by simp; omega)
  have i0 : w8.cell? ⟨bI, 0, none⟩ = some (.int .i64 7) := hR8 0 _ rfl
  have i1 : w8.cell? ⟨bI, 1, none⟩ = some (.int .i64 a) := hR8 1 _ rfl
  have i2 : w8.cell? ⟨bI, 2, none⟩ = some (.int .i64 b) := hR8 2 _ rfl
  have i3 : w8.cell? ⟨bI, 3, none⟩ = some (.int .i64 i) := hR8 3 _ rfl
  have HC12 : Hid (CtxAt w8 b12 c) := hC12.keep k8 (by simp; omega)
  have HX : Hid (SBx w8 g (pc4 c)) := hX8
  have HB : Hid (But [] w w8) := but_fresh hB7 k8 (by have := HGS.out; simp; omega)
  clear hX7 hB7 hRI7 hC12 hpc hz6 hX8 k8 hR8
  have ra : w8.cell? ⟨g, a, none⟩ = some (.int .u32 z) := by rw [← HRA.out]; exact HX.out.ctx.reg a (by omega)
  have rb : w8.cell? ⟨g, b, none⟩ = some (.int .u32 y) := by rw [← HRB.out]; exact HX.out.ctx.reg b (by omega)
  go_upto_region 22 with fail
  go_quiet (first | (go_at_call 29; refine quiet_same (HRK.out _)))
  have hX9 := HX.out.keep0 ((But.refl [] w8).drewN nq)
  have hB9 := HB.out.drewN nq
  have hC9 := HC12.out.keep ((But.refl [] w8).drewN nq) (by simp)
  have i1' := cell_keep i1 ((But.refl [] w8).drewN nq) (by simp)
  clear HX HB HC12 HRK i0 i1 i2 i3 ra rb
  generalize w8.drewN nq = w8d at hX9 hB9 hC9 i1' ⊢
  have HX : Hid (SBx w8d g (pc4 c)) := hX9
  have HB : Hid (But [] w w8d) := hB9
  have HC12 : Hid (CtxAt w8d b12 c) := hC9
  clear hX9 hB9 hC9
  have HI9 : Hid ((Try.prog.info? 27).map (·.size) = some (cvl (c)).toArray.size) := by show _ = _; rw [List.size_toArray]; exact cvl_info _ HLN.out
  have HT8' : Hid (w8d.there (g + 1) 0 (cvl (c)).toArray.size) := by show World.there _ _ _ _; rw [List.size_toArray, cvl_len, HLN.out]; exact HX.out.t8
  have HT9' : Hid ((w8d.setCells (g + 1) 0 (cvl (c))).there (g + 1 + 1) 0 4) := World.there_setCells HX.out.t9 _ _ _
  go_wp2_with (first
    | (refine wpList_load_mid rfl 27 _ rfl b12 0 rfl (cvl (c)) _ HC12.out.range Try.underlying27 rfl (cvl_info _ HLN.out) ?_)
    | (refine wpList_store_mid rfl 27 _ _ rfl (g + 1) 0 (cvl (c)).toArray rfl rfl ?ht HI9.out (all_oneCell_toArray (cvl_one _)) ?_; case ht => exact HT8'.out)
    | (refine wpList_store_mid rfl 37 _ _ rfl (g + 1 + 1) 0 #[.int .i64 4, .int .i64 0, .bool false, .int .i64 0] rfl rfl ?ht Try.sizeTrap (Tr.vs_all ⟨4, 0, false, 0⟩) ?_; case ht => exact HT9'.out))
  obtain ⟨v1, v2, hbf⟩ := laid2 w8d (g + 1) (cvl (c)) [.int .i64 4, .int .i64 0, .bool false, .int .i64 0] (by rw [cvl_len, HLN.out]; exact HX.out.t8) HX.out.t9
  refine bodyPost_ret (results_two rfl _ _ (g + 1) 0 (g + 1 + 1) 0 _ _ _ _ rfl v1 Try.underlying27 rfl (cvl_info _ HLN.out) rfl v2 Try.underlying37 rfl Try.sizeTrap) rfl ?_
  have hg0 := HGS.out
  exact ⟨by rw [HDF.out]; rfl, by rw [HDF.out]; exact HRF.out.keep0 (but_fresh HB.out hbf (by simp; omega)), (but_fresh HB.out hbf (by simp; omega)).wider (by simp)⟩
set_option maxHeartbeats 4000000 in
theorem rst_div (bM bx cx : Nat) (xs : List Int) (A : Option Addr) (cA lo : Nat) (l : List En) (s : Int) (c : List Int) (w : World) (h : RefAt w bM bx cx 4 xs A cA lo l) (hl8 : l.length ≤ 1000) (hux : U32s xs) (hl : c.length = 17) (hu : U32s c) (hal : c.getD 16 0 % 4 = 0) (r : Fd) (hr : fnd l s (c.getD 16 0) false = r) (h0 : r.t.cause = 0) (v : Int) (hv : getW 4 xs r.f r.a = v) (hn : vldD v = true) (o : Int) (a b : Nat) (i : Int) (ho : doR v = o) (hea : daR v = a) (heb : dbR v = b) (hi : diR v = i) (ha : a < 16) (hb : b < 16) (hib : -32768 ≤ i ∧ i ≤ 32767) (hop : o = 7) (hs : ¬ c.getD b 0 = 0) :
    Calls Try.prog 9 #[.pointer (some ⟨bM, 0, none⟩), .int .i64 s, .agg (cvl c).toArray] w fun e w' => e = .returned (stepP 4 xs l s c).ans ∧ RefAt w' bM bx cx 4 (stepP 4 xs l s c).xs A cA lo l ∧ But [bx] w w' := by
  obtain ⟨D, hD⟩ : ∃ D, stepP 4 xs l s c = D := ⟨_, rfl⟩
  rw [hD]
  obtain ⟨x, hx16⟩ : ∃ x, c.getD 16 0 = x := ⟨_, rfl⟩
  have hbx := hu 16
  rw [hx16] at hbx
  obtain ⟨hx0, hx1⟩ := hbx
  have hfc : ftc 4 xs l s (c.getD 16 0) = ⟨tr0, o, a, b, i⟩ := by rw [ftc_in hal hr h0 hv hn, ho, hea, heb, hi]
  have hDE : D = endD c (doP 4 xs l s o a b i (pc4 c)) := hD.symm.trans (st_word hfc)
  obtain ⟨hib0, hib1⟩ := hib
  have HOP : Hid (o = 7) := hop
  rw [hop] at hDE
  obtain ⟨z, hz⟩ : ∃ z, c.getD a 0 = z := ⟨_, rfl⟩
  obtain ⟨y, hy⟩ : ∃ y, c.getD b 0 = y := ⟨_, rfl⟩
  obtain ⟨R, hR⟩ : ∃ R, z / y = R := ⟨_, rfl⟩
  have HDF : Hid (D = ⟨tr0, (pc4 c).set a R, xs⟩) := hDE.trans ((s_7 hl ha hb hs).trans (by rw [hz, hy, hR]))
  rw [hy] at hs
  have HRK : Hid (∀ w, Calls Try.prog 29 #[.int .i64 7, .int .u32 z, .int .u32 y] w fun e w' => e = .returned (.tuple #[.int .u32 R, .bool true]) ∧ w = w') := fun w => by rw [← hR]; exact reckon_div z y w hs (by rw [← hz]; exact hu a) (by rw [← hy]; exact hu b)
  clear hs hR
  clear hop hDE hfc
  rw [hx16] at hal
  have HAL : Hid (x % 4 = 0) := hal
  obtain ⟨⟨t1, t2, t3, t4⟩, f, q⟩ := r
  rw [hx16] at hr
  have HR : Hid (fnd l s x false = ⟨⟨t1, t2, t3, t4⟩, f, q⟩) := hr
  dsimp only at h0 hv
  have HT1 : Hid (t1 = 0) := h0
  clear h0
  have HV : Hid (getW 4 xs f q = v) := hv
  have HVD : Hid (vldD v = true) := hn
  have HDO : Hid (doR v = o) := ho
  have HDA : Hid (daR v = a) := hea
  have HDB : Hid (dbR v = b) := heb
  have HDI : Hid (diR v = i) := hi
  clear hal hr hv hn ho hea heb hi
  have ha16 : (a : Int) < 16 := by omega
  have ha0 : (0 : Int) ≤ (a : Int) := by omega
  have hb16 : (b : Int) < 16 := by omega
  have hb0 : (0 : Int) ≤ (b : Int) := by omega
  have hbz := hu a
  have hby := hu b
  rw [hz] at hbz
  rw [hy] at hby
  obtain ⟨hz0, hz1⟩ := hbz
  obtain ⟨hy0, hy1⟩ := hby
  have HZ : Hid (c.getD a 0 = z) := hz
  have HY : Hid (c.getD b 0 = y) := hy
  have HPC : Hid (pc4 c = c.set 16 ((x + 4) % 4294967296)) := by show _ = _; unfold pc4; rw [hx16]
  have HRA : Hid ((pc4 c).getD a 0 = z) := (pc4_reg c hl a ha).trans hz
  have HRB : Hid ((pc4 c).getD b 0 = y) := (pc4_reg c hl b hb).trans hy
  have HL4 : Hid ((pc4 c).length = 17) := by show _ = _; unfold pc4; rw [List.length_set]; exact hl
  have hX1 := SBx.new w c 27 37 hl
  have hB1 : But [] w (((w.alloc (.cells (cvl c).toArray 27)).alloc (.cells #[.int .u32 0, .int .u32 0, .int .u32 0, .int .u32 0, .int .u32 0, .int .u32 0, .int .u32 0, .int .u32 0, .int .u32 0, .int .u32 0, .int .u32 0, .int .u32 0, .int .u32 0, .int .u32 0, .int .u32 0, .int .u32 0, .int .u32 0] 27)).alloc (.cells #[.int .i64 0, .int .i64 0, .bool false, .int .i64 0] 37)) := (((But.refl [] w).alloc _).alloc _).alloc _
  obtain ⟨g, hg⟩ : ∃ g, g = w.heap.size := ⟨_, rfl⟩
  have HGS : Hid (w.heap.size ≤ g) := by show _ ≤ g; omega
  have HRF : Hid (RefAt w bM bx cx 4 xs A cA lo l) := h
  obtain ⟨hlM, hlx⟩ := h.lt
  rw [← hg] at hlM hlx
  have HLX : Hid (bM < g ∧ bx < g) := ⟨hlM, hlx⟩
  have HLN : Hid (c.length = 17) := hl
  have HU : Hid (U32s c) := hu
  have HUX : Hid (U32s xs) := hux
  have HX16 : Hid (c.getD 16 0 = x) := hx16
  clear h hux hu hl hx16 hD
  go_enter Try.func9, Try.ntmps9
  go_upto_region 1 with fail
  rw [← hg] at hX1 ⊢
  generalize ((w.alloc (.cells (cvl c).toArray 27)).alloc (.cells #[.int .u32 0, .int .u32 0, .int .u32 0, .int .u32 0, .int .u32 0, .int .u32 0, .int .u32 0, .int .u32 0, .int .u32 0, .int .u32 0, .int .u32 0, .int .u32 0, .int .u32 0, .int .u32 0, .int .u32 0, .int .u32 0, .int .u32 0] 27)).alloc (.cells #[.int .i64 0, .int .i64 0, .bool false, .int .i64 0] 37) = w1 at hX1 hB1 ⊢
  have HX : Hid (SBx w1 g c) := hX1
  have HB : Hid (But [] w w1) := hB1
  have hpc : w1.cell? ⟨g, 16, none⟩ = some (.int .u32 x) := by rw [← HX16.out]; exact hX1.ctx.reg 16 (by omega)
  clear hX1 hB1 hg
  clear hz hy
  have hne : (x % 4 != 0) = false := by simp [HAL.out]
  go_wp2_with fail
  refine (rfind_c bM bx cx xs A cA lo l s x false _ (HRF.out.keep0 HB.out) hl8 hx0 hx1).mono ?_
  rintro e w2 ⟨rfl, k2⟩
  rw [HR.out]
  simp only [Tr.vs]
  obtain ⟨P, hP⟩ : ∃ P, plc ⟨⟨t1, t2, t3, t4⟩, f, q⟩ = P := ⟨_, rfl⟩
  rw [hP]
  have hPb := plc_bd ⟨⟨t1, t2, t3, t4⟩, f, q⟩
  rw [hP] at hPb
  obtain ⟨hP0, hP1⟩ := hPb
  have HP : Hid (plc ⟨⟨t1, t2, t3, t4⟩, f, q⟩ = P) := hP
  have hX2 := HX.out.keep0 k2
  have hB2 := HB.out.trans k2
  have hRT := new_range w2 [.int .i64 t1, .int .i64 t2, .bool t3, .int .i64 t4] 37
  have hKT : But [] w2 (w2.alloc (.cells #[.int .i64 t1, .int .i64 t2, .bool t3, .int .i64 t4] 37)) := (But.refl [] w2).alloc _
  clear k2 HX HB hP hpc hne
  go_upto_region 4 with fail
  generalize w2.alloc (.cells #[.int .i64 t1, .int .i64 t2, .bool t3, .int .i64 t4] 37) = w3 at hRT hKT ⊢
  obtain ⟨b3, hb3⟩ : ∃ b3, b3 = w2.heap.size := ⟨_, rfl⟩
  have hg3 : g + 2 < b3 := by rw [hb3]; exact lt_of_there hX2.t9 (by omega)
  rw [← hb3] at hRT ⊢
  have HX : Hid (SBx w3 g c) := hX2.keep0 hKT
  have HB : Hid (But [] w w3) := hB2.trans hKT
  have HRT : Hid (w3.rangeAt b3 0 [.int .i64 t1, .int .i64 t2, .bool t3, .int .i64 t4]) := hRT
  have q0 : w3.cell? ⟨b3, 0, none⟩ = some (.int .i64 t1) := hRT 0 _ rfl
  clear hX2 hB2 hRT hKT hb3
  have ht1 := HT1.out
  subst ht1
  have hvv : rgw xs P = v := by rw [← HP.out, ← HV.out]; exact rgw_plc xs ⟨⟨0, t2, t3, t4⟩, f, q⟩ rfl
  have hvb := getW_bd (n := 4) HUX.out f q
  rw [HV.out] at hvb
  obtain ⟨hv0, hv1⟩ := hvb
  have HVV : Hid (rgw xs P = v) := hvv
  clear hvv
  go_wp2_with fail
  refine (rgetm_c bM bx cx xs A cA lo l P _ (HRF.out.keep0 HB.out) hP1).mono ?_
  rintro e w5 ⟨rfl, rfl⟩
  rw [HVV.out]
  go_wp2_with fail
  refine (rdecode_c v _ hv0 hv1).mono ?_
  rintro e w4 ⟨rfl, k4⟩
  rw [HVD.out, HDO.out, HDA.out, HDB.out, HDI.out]
  have hX4 := HX.out.keep0 (But.of_below k4)
  have hB4 := HB.out.trans (But.of_below k4)
  have hRI := new_range w4 [.int .i64 o, .int .i64 a, .int .i64 b, .int .i64 i] 75
  have hKI : But [] w4 (w4.alloc (.cells #[.int .i64 o, .int .i64 a, .int .i64 b, .int .i64 i] 75)) := (But.refl [] w4).alloc _
  clear k4 HX HB q0 HRT
  go_upto_region 7 with fail
  generalize w4.alloc (.cells #[.int .i64 o, .int .i64 a, .int .i64 b, .int .i64 i] 75) = w6 at hRI hKI ⊢
  obtain ⟨bI, hbI⟩ : ∃ bI, bI = w4.heap.size := ⟨_, rfl⟩
  have hgI : g + 2 < bI := by rw [hbI]; exact lt_of_there hX4.t9 (by omega)
  rw [← hbI] at hRI ⊢
  have HX : Hid (SBx w6 g c) := hX4.keep0 hKI
  have HB : Hid (But [] w w6) := hB4.trans hKI
  have HRI : Hid (w6.rangeAt bI 0 [.int .i64 o, .int .i64 a, .int .i64 b, .int .i64 i]) := hRI
  have i0 : w6.cell? ⟨bI, 0, none⟩ = some (.int .i64 o) := hRI 0 _ rfl
  have i1 : w6.cell? ⟨bI, 1, none⟩ = some (.int .i64 a) := hRI 1 _ rfl
  have i2 : w6.cell? ⟨bI, 2, none⟩ = some (.int .i64 b) := hRI 2 _ rfl
  have i3 : w6.cell? ⟨bI, 3, none⟩ = some (.int .i64 i) := hRI 3 _ rfl
  clear hX4 hB4 hRI hKI hbI HVV
  have hop := HOP.out
  subst hop
  have HT12 : Hid ((w6.alloc (.cells #[.int .u32 0, .int .u32 0, .int .u32 0, .int .u32 0, .int .u32 0, .int .u32 0, .int .u32 0, .int .u32 0, .int .u32 0, .int .u32 0, .int .u32 0, .int .u32 0, .int .u32 0, .int .u32 0, .int .u32 0, .int .u32 0, .int .u32 0] 27)).there w6.heap.size 0 (cvl c).toArray.size) := by show World.there _ _ _ _; rw [show (cvl c).toArray.size = 17 by rw [List.size_toArray, cvl_len, HLN.out]]; exact there_new _ _ _ _ rfl
  have HI12 : Hid ((Try.prog.info? 27).map (·.size) = some (cvl c).toArray.size) := by show _ = _; rw [List.size_toArray]; exact cvl_info c HLN.out
  have hC12 : CtxAt ((w6.alloc (.cells #[.int .u32 0, .int .u32 0, .int .u32 0, .int .u32 0, .int .u32 0, .int .u32 0, .int .u32 0, .int .u32 0, .int .u32 0, .int .u32 0, .int .u32 0, .int .u32 0, .int .u32 0, .int .u32 0, .int .u32 0, .int .u32 0, .int .u32 0] 27)).setCells w6.heap.size 0 (cvl c)) w6.heap.size c := CtxAt.sets c (there_new _ _ _ _ rfl) HLN.out
  have k12 : But [] w6 ((w6.alloc (.cells #[.int .u32 0, .int .u32 0, .int .u32 0, .int .u32 0, .int .u32 0, .int .u32 0, .int .u32 0, .int .u32 0, .int .u32 0, .int .u32 0, .int .u32 0, .int .u32 0, .int .u32 0, .int .u32 0, .int .u32 0, .int .u32 0, .int .u32 0] 27)).setCells w6.heap.size 0 (cvl c)) := ((But.refl [] w6).alloc _).setCells (.inr (Nat.le_refl _)) _ _
  have hb12 : bI < w6.heap.size := lt_of_cell i0
  go_upto_region 17 with (first
    | (refine wpList_load_mid rfl 27 _ rfl g 0 rfl (cvl c) _ HX.out.ctx.range Try.underlying27 rfl (cvl_info _ HLN.out) ?_)
    | (refine wpList_store_mid rfl 27 _ _ rfl w6.heap.size 0 (cvl c).toArray rfl rfl ?ht HI12.out (all_oneCell_toArray (cvl_one _)) ?_; case ht => exact HT12.out))
  generalize (w6.alloc (.cells #[.int .u32 0, .int .u32 0, .int .u32 0, .int .u32 0, .int .u32 0, .int .u32 0, .int .u32 0, .int .u32 0, .int .u32 0, .int .u32 0, .int .u32 0, .int .u32 0, .int .u32 0, .int .u32 0, .int .u32 0, .int .u32 0, .int .u32 0] 27)).setCells w6.heap.size 0 (cvl c) = w7 at hC12 k12 ⊢
  obtain ⟨b12, hbe⟩ : ∃ b12, b12 = w6.heap.size := ⟨_, rfl⟩
  rw [← hbe] at hC12 hb12 ⊢
  have hX7 := HX.out.keep0 k12
  have hB7 := HB.out.trans k12
  have hRI7 := range_keep HRI.out k12 (by simp)
  clear HX HB HRI i0 i1 i2 i3 hbe HT12 HI12 k12
  have hpc : w7.cell? ⟨g, 16, none⟩ = some (.int .u32 x) := by rw [← HX16.out]; exact hX7.ctx.reg 16 (by omega)
  have hz6 : w7.frozen? ⟨g, 16, none⟩ = false := hX7.ctx.fz 16 (by omega)
  go_upto_region 18 with fail
  have hX8 := hX7.set 16 (by omega) ((x + 4) % 4294967296)
  rw [← HPC.out] at hX8
  have k8 : But [g] w7 (w7.setCell ⟨g, 16, none⟩ (.int .u32 ((x + 4) % 4294967296))) := (But.refl [g] w7).setCell (by simp) _
  generalize w7.setCell ⟨g, 16, none⟩ (.int .u32 ((x + 4) % 4294967296)) = w8 at hX8 k8 ⊢
  have hR8 := range_keep hRI7 k8 (by simp; omega)
  have i0 : w8.cell? ⟨bI, 0, none⟩ = some (.int .i64 7) := hR8 0 _ rfl
  have i1 : w8.cell? ⟨bI, 1, none⟩ = some (.int .i64 a) := hR8 1 _ rfl
  have i2 : w8.cell? ⟨bI, 2, none⟩ = some (.int .i64 b) := hR8 2 _ rfl
  have i3 : w8.cell? ⟨bI, 3, none⟩ = some (.int .i64 i) := hR8 3 _ rfl
  have HC12 : Hid (CtxAt w8 b12 c) := hC12.keep k8 (by simp; omega)
  have HX : Hid (SBx w8 g (pc4 c)) := hX8
  have HB : Hid (But [] w w8) := but_fresh hB7 k8 (by have := HGS.out; simp; omega)
  clear hX7 hB7 hRI7 hC12 hpc hz6 hX8 k8 hR8
  have ra : w8.cell? ⟨g, a, none⟩ = some (.int .u32 z) := by rw [← HRA.out]; exact HX.out.ctx.reg a (by omega)
  have rb : w8.cell? ⟨g, b, none⟩ = some (.int .u32 y) := by rw [← HRB.out]; exact HX.out.ctx.reg b (by omega)
  go_upto_region 22 with fail
  go_quiet (first | (go_at_call 29; refine quiet_same (HRK.out _)))
  have hX9 := HX.out.keep0 ((But.refl [] w8).drewN nq)
  have hB9 := HB.out.drewN nq
  have hC9 := HC12.out.keep ((But.refl [] w8).drewN nq) (by simp)
  have i1' := cell_keep i1 ((But.refl [] w8).drewN nq) (by simp)
  clear HX HB HC12 HRK i0 i1 i2 i3 ra rb
  generalize w8.drewN nq = w8d at hX9 hB9 hC9 i1' ⊢
  have HX : Hid (SBx w8d g (pc4 c)) := hX9
  have HB : Hid (But [] w w8d) := hB9
  have HC12 : Hid (CtxAt w8d b12 c) := hC9
  clear hX9 hB9 hC9
  have ra : w8d.cell? ⟨g, a, none⟩ = some (.int .u32 z) := by rw [← HRA.out]; exact HX.out.ctx.reg a (by omega)
  have fa : w8d.frozen? ⟨g, a, none⟩ = false := HX.out.ctx.fz a (by omega)
  go_upto_region 35 with fail
  clear ra fa i1'
  have hX9 := HX.out.set a (by omega) (R)
  have k9 : But [g] w8d (w8d.setCell ⟨g, a, none⟩ (.int .u32 (R))) := (But.refl [g] w8d).setCell (by simp) _
  generalize w8d.setCell ⟨g, a, none⟩ (.int .u32 (R)) = w9 at hX9 k9 ⊢
  have hB9 : But [] w w9 := but_fresh HB.out k9 (by have := HGS.out; simp; omega)
  clear HX HB k9
  have HX : Hid (SBx w9 g ((pc4 c).set a (R))) := hX9
  have HB : Hid (But [] w w9) := hB9
  have HL9 : Hid (((pc4 c).set a (R)).length = 17) := hX9.ctx.len
  clear hX9 hB9
  have HI9 : Hid ((Try.prog.info? 27).map (·.size) = some (cvl ((pc4 c).set a (R))).toArray.size) := by show _ = _; rw [List.size_toArray]; exact cvl_info _ HL9.out
  have HT8' : Hid (w9.there (g + 1) 0 (cvl ((pc4 c).set a (R))).toArray.size) := by show World.there _ _ _ _; rw [List.size_toArray, cvl_len, HL9.out]; exact HX.out.t8
  have HT9' : Hid ((w9.setCells (g + 1) 0 (cvl ((pc4 c).set a (R)))).there (g + 1 + 1) 0 4) := World.there_setCells HX.out.t9 _ _ _
  go_wp2_with (first
    | (refine wpList_load_mid rfl 27 _ rfl g 0 rfl (cvl ((pc4 c).set a (R))) _ HX.out.ctx.range Try.underlying27 rfl (cvl_info _ HL9.out) ?_)
    | (refine wpList_store_mid rfl 27 _ _ rfl (g + 1) 0 (cvl ((pc4 c).set a (R))).toArray rfl rfl ?ht HI9.out (all_oneCell_toArray (cvl_one _)) ?_; case ht => exact HT8'.out)
    | (refine wpList_store_mid rfl 37 _ _ rfl (g + 1 + 1) 0 #[.int .i64 0, .int .i64 0, .bool false, .int .i64 0] rfl rfl ?ht Try.sizeTrap (Tr.vs_all tr0) ?_; case ht => exact HT9'.out))
  obtain ⟨v1, v2, hbf⟩ := laid2 w9 (g + 1) (cvl ((pc4 c).set a (R))) [.int .i64 0, .int .i64 0, .bool false, .int .i64 0] (by rw [cvl_len, HL9.out]; exact HX.out.t8) HX.out.t9
  refine bodyPost_ret (results_two rfl _ _ (g + 1) 0 (g + 1 + 1) 0 _ _ _ _ rfl v1 Try.underlying27 rfl (cvl_info _ HL9.out) rfl v2 Try.underlying37 rfl Try.sizeTrap) rfl ?_
  have hg0 := HGS.out
  exact ⟨by rw [HDF.out]; rfl, by rw [HDF.out]; exact HRF.out.keep0 (but_fresh HB.out hbf (by simp; omega)), (but_fresh HB.out hbf (by simp; omega)).wider (by simp)⟩
set_option maxHeartbeats 4000000 in
theorem rst_addi (bM bx cx : Nat) (xs : List Int) (A : Option Addr) (cA lo : Nat) (l : List En) (s : Int) (c : List Int) (w : World) (h : RefAt w bM bx cx 4 xs A cA lo l) (hl8 : l.length ≤ 1000) (hux : U32s xs) (hl : c.length = 17) (hu : U32s c) (hal : c.getD 16 0 % 4 = 0) (r : Fd) (hr : fnd l s (c.getD 16 0) false = r) (h0 : r.t.cause = 0) (v : Int) (hv : getW 4 xs r.f r.a = v) (hn : vldD v = true) (o : Int) (a b : Nat) (i : Int) (ho : doR v = o) (hea : daR v = a) (heb : dbR v = b) (hi : diR v = i) (ha : a < 16) (hb : b < 16) (hib : -32768 ≤ i ∧ i ≤ 32767) (hop : o = 13) :
    Calls Try.prog 9 #[.pointer (some ⟨bM, 0, none⟩), .int .i64 s, .agg (cvl c).toArray] w fun e w' => e = .returned (stepP 4 xs l s c).ans ∧ RefAt w' bM bx cx 4 (stepP 4 xs l s c).xs A cA lo l ∧ But [bx] w w' := by
  obtain ⟨D, hD⟩ : ∃ D, stepP 4 xs l s c = D := ⟨_, rfl⟩
  rw [hD]
  obtain ⟨x, hx16⟩ : ∃ x, c.getD 16 0 = x := ⟨_, rfl⟩
  have hbx := hu 16
  rw [hx16] at hbx
  obtain ⟨hx0, hx1⟩ := hbx
  have hfc : ftc 4 xs l s (c.getD 16 0) = ⟨tr0, o, a, b, i⟩ := by rw [ftc_in hal hr h0 hv hn, ho, hea, heb, hi]
  have hDE : D = endD c (doP 4 xs l s o a b i (pc4 c)) := hD.symm.trans (st_word hfc)
  obtain ⟨hib0, hib1⟩ := hib
  have HOP : Hid (o = 13) := hop
  rw [hop] at hDE
  obtain ⟨z, hz⟩ : ∃ z, c.getD a 0 = z := ⟨_, rfl⟩
  obtain ⟨y, hy⟩ : ∃ y, c.getD b 0 = y := ⟨_, rfl⟩
  obtain ⟨R, hR⟩ : ∃ R, rkP 13 z (i % 4294967296) (i % 4294967296) = R := ⟨_, rfl⟩
  have HDF : Hid (D = ⟨tr0, (pc4 c).set a R, xs⟩) := hDE.trans ((s_rk (by omega) (by omega) hl ha hb).trans (by rw [hz, ← hR]; rfl))
  have HRK : Hid (∀ w, Calls Try.prog 29 #[.int .i64 13, .int .u32 z, .int .u32 (i % 4294967296)] w fun e w' => e = .returned (.tuple #[.int .u32 R, .bool true]) ∧ w = w') := fun w => by rw [← hR]; exact reckon_c 13 z (i % 4294967296) w (by omega) (by omega) (by rw [← hz]; exact hu a) (by omega)
  clear hR
  clear hop hDE hfc
  rw [hx16] at hal
  have HAL : Hid (x % 4 = 0) := hal
  obtain ⟨⟨t1, t2, t3, t4⟩, f, q⟩ := r
  rw [hx16] at hr
  have HR : Hid (fnd l s x false = ⟨⟨t1, t2, t3, t4⟩, f, q⟩) := hr
  dsimp only at h0 hv
  have HT1 : Hid (t1 = 0) := h0
  clear h0
  have HV : Hid (getW 4 xs f q = v) := hv
  have HVD : Hid (vldD v = true) := hn
  have HDO : Hid (doR v = o) := ho
  have HDA : Hid (daR v = a) := hea
  have HDB : Hid (dbR v = b) := heb
  have HDI : Hid (diR v = i) := hi
  clear hal hr hv hn ho hea heb hi
  have ha16 : (a : Int) < 16 := by omega
  have ha0 : (0 : Int) ≤ (a : Int) := by omega
  have hb16 : (b : Int) < 16 := by omega
  have hb0 : (0 : Int) ≤ (b : Int) := by omega
  have hbz := hu a
  have hby := hu b
  rw [hz] at hbz
  rw [hy] at hby
  obtain ⟨hz0, hz1⟩ := hbz
  obtain ⟨hy0, hy1⟩ := hby
  have HZ : Hid (c.getD a 0 = z) := hz
  have HY : Hid (c.getD b 0 = y) := hy
  have HPC : Hid (pc4 c = c.set 16 ((x + 4) % 4294967296)) := by show _ = _; unfold pc4; rw [hx16]
  have HRA : Hid ((pc4 c).getD a 0 = z) := (pc4_reg c hl a ha).trans hz
  have HRB : Hid ((pc4 c).getD b 0 = y) := (pc4_reg c hl b hb).trans hy
  have HL4 : Hid ((pc4 c).length = 17) := by show _ = _; unfold pc4; rw [List.length_set]; exact hl
  have hX1 := SBx.new w c 27 37 hl
  have hB1 : But [] w (((w.alloc (.cells (cvl c).toArray 27)).alloc (.cells #[.int .u32 0, .int .u32 0, .int .u32 0, .int .u32 0, .int .u32 0, .int .u32 0, .int .u32 0, .int .u32 0, .int .u32 0, .int .u32 0, .int .u32 0, .int .u32 0, .int .u32 0, .int .u32 0, .int .u32 0, .int .u32 0, .int .u32 0] 27)).alloc (.cells #[.int .i64 0, .int .i64 0, .bool false, .int .i64 0] 37)) := (((But.refl [] w).alloc _).alloc _).alloc _
  obtain ⟨g, hg⟩ : ∃ g, g = w.heap.size := ⟨_, rfl⟩
  have HGS : Hid (w.heap.size ≤ g) := by show _ ≤ g; omega
  have HRF : Hid (RefAt w bM bx cx 4 xs A cA lo l) := h
  obtain ⟨hlM, hlx⟩ := h.lt
  rw [← hg] at hlM hlx
  have HLX : Hid (bM < g ∧ bx < g) := ⟨hlM, hlx⟩
  have HLN : Hid (c.length = 17) := hl
  have HU : Hid (U32s c) := hu
  have HUX : Hid (U32s xs) := hux
  have HX16 : Hid (c.getD 16 0 = x) := hx16
  clear h hux hu hl hx16 hD
  go_enter Try.func9, Try.ntmps9
  go_upto_region 1 with fail
  rw [← hg] at hX1 ⊢
  generalize ((w.alloc (.cells (cvl c).toArray 27)).alloc (.cells #[.int .u32 0, .int .u32 0, .int .u32 0, .int .u32 0, .int .u32 0, .int .u32 0, .int .u32 0, .int .u32 0, .int .u32 0, .int .u32 0, .int .u32 0, .int .u32 0, .int .u32 0, .int .u32 0, .int .u32 0, .int .u32 0, .int .u32 0] 27)).alloc (.cells #[.int .i64 0, .int .i64 0, .bool false, .int .i64 0] 37) = w1 at hX1 hB1 ⊢
  have HX : Hid (SBx w1 g c) := hX1
  have HB : Hid (But [] w w1) := hB1
  have hpc : w1.cell? ⟨g, 16, none⟩ = some (.int .u32 x) := by rw [← HX16.out]; exact hX1.ctx.reg 16 (by omega)
  clear hX1 hB1 hg
  clear hz hy
  have hne : (x % 4 != 0) = false := by simp [HAL.out]
  go_wp2_with fail
  refine (rfind_c bM bx cx xs A cA lo l s x false _ (HRF.out.keep0 HB.out) hl8 hx0 hx1).mono ?_
  rintro e w2 ⟨rfl, k2⟩
  rw [HR.out]
  simp only [Tr.vs]
  obtain ⟨P, hP⟩ : ∃ P, plc ⟨⟨t1, t2, t3, t4⟩, f, q⟩ = P := ⟨_, rfl⟩
  rw [hP]
  have hPb := plc_bd ⟨⟨t1, t2, t3, t4⟩, f, q⟩
  rw [hP] at hPb
  obtain ⟨hP0, hP1⟩ := hPb
  have HP : Hid (plc ⟨⟨t1, t2, t3, t4⟩, f, q⟩ = P) := hP
  have hX2 := HX.out.keep0 k2
  have hB2 := HB.out.trans k2
  have hRT := new_range w2 [.int .i64 t1, .int .i64 t2, .bool t3, .int .i64 t4] 37
  have hKT : But [] w2 (w2.alloc (.cells #[.int .i64 t1, .int .i64 t2, .bool t3, .int .i64 t4] 37)) := (But.refl [] w2).alloc _
  clear k2 HX HB hP hpc hne
  go_upto_region 4 with fail
  generalize w2.alloc (.cells #[.int .i64 t1, .int .i64 t2, .bool t3, .int .i64 t4] 37) = w3 at hRT hKT ⊢
  obtain ⟨b3, hb3⟩ : ∃ b3, b3 = w2.heap.size := ⟨_, rfl⟩
  have hg3 : g + 2 < b3 := by rw [hb3]; exact lt_of_there hX2.t9 (by omega)
  rw [← hb3] at hRT ⊢
  have HX : Hid (SBx w3 g c) := hX2.keep0 hKT
  have HB : Hid (But [] w w3) := hB2.trans hKT
  have HRT : Hid (w3.rangeAt b3 0 [.int .i64 t1, .int .i64 t2, .bool t3, .int .i64 t4]) := hRT
  have q0 : w3.cell? ⟨b3, 0, none⟩ = some (.int .i64 t1) := hRT 0 _ rfl
  clear hX2 hB2 hRT hKT hb3
  have ht1 := HT1.out
  subst ht1
  have hvv : rgw xs P = v := by rw [← HP.out, ← HV.out]; exact rgw_plc xs ⟨⟨0, t2, t3, t4⟩, f, q⟩ rfl
  have hvb := getW_bd (n := 4) HUX.out f q
  rw [HV.out] at hvb
  obtain ⟨hv0, hv1⟩ := hvb
  have HVV : Hid (rgw xs P = v) := hvv
  clear hvv
  go_wp2_with fail
  refine (rgetm_c bM bx cx xs A cA lo l P _ (HRF.out.keep0 HB.out) hP1).mono ?_
  rintro e w5 ⟨rfl, rfl⟩
  rw [HVV.out]
  go_wp2_with fail
  refine (rdecode_c v _ hv0 hv1).mono ?_
  rintro e w4 ⟨rfl, k4⟩
  rw [HVD.out, HDO.out, HDA.out, HDB.out, HDI.out]
  have hX4 := HX.out.keep0 (But.of_below k4)
  have hB4 := HB.out.trans (But.of_below k4)
  have hRI := new_range w4 [.int .i64 o, .int .i64 a, .int .i64 b, .int .i64 i] 75
  have hKI : But [] w4 (w4.alloc (.cells #[.int .i64 o, .int .i64 a, .int .i64 b, .int .i64 i] 75)) := (But.refl [] w4).alloc _
  clear k4 HX HB q0 HRT
  go_upto_region 7 with fail
  generalize w4.alloc (.cells #[.int .i64 o, .int .i64 a, .int .i64 b, .int .i64 i] 75) = w6 at hRI hKI ⊢
  obtain ⟨bI, hbI⟩ : ∃ bI, bI = w4.heap.size := ⟨_, rfl⟩
  have hgI : g + 2 < bI := by rw [hbI]; exact lt_of_there hX4.t9 (by omega)
  rw [← hbI] at hRI ⊢
  have HX : Hid (SBx w6 g c) := hX4.keep0 hKI
  have HB : Hid (But [] w w6) := hB4.trans hKI
  have HRI : Hid (w6.rangeAt bI 0 [.int .i64 o, .int .i64 a, .int .i64 b, .int .i64 i]) := hRI
  have i0 : w6.cell? ⟨bI, 0, none⟩ = some (.int .i64 o) := hRI 0 _ rfl
  have i1 : w6.cell? ⟨bI, 1, none⟩ = some (.int .i64 a) := hRI 1 _ rfl
  have i2 : w6.cell? ⟨bI, 2, none⟩ = some (.int .i64 b) := hRI 2 _ rfl
  have i3 : w6.cell? ⟨bI, 3, none⟩ = some (.int .i64 i) := hRI 3 _ rfl
  clear hX4 hB4 hRI hKI hbI HVV
  have hop := HOP.out
  subst hop
  have HT12 : Hid ((w6.alloc (.cells #[.int .u32 0, .int .u32 0, .int .u32 0, .int .u32 0, .int .u32 0, .int .u32 0, .int .u32 0, .int .u32 0, .int .u32 0, .int .u32 0, .int .u32 0, .int .u32 0, .int .u32 0, .int .u32 0, .int .u32 0, .int .u32 0, .int .u32 0] 27)).there w6.heap.size 0 (cvl c).toArray.size) := by show World.there _ _ _ _; rw [show (cvl c).toArray.size = 17 by rw [List.size_toArray, cvl_len, HLN.out]]; exact there_new _ _ _ _ rfl
  have HI12 : Hid ((Try.prog.info? 27).map (·.size) = some (cvl c).toArray.size) := by show _ = _; rw [List.size_toArray]; exact cvl_info c HLN.out
  have hC12 : CtxAt ((w6.alloc (.cells #[.int .u32 0, .int .u32 0, .int .u32 0, .int .u32 0, .int .u32 0, .int .u32 0, .int .u32 0, .int .u32 0, .int .u32 0, .int .u32 0, .int .u32 0, .int .u32 0, .int .u32 0, .int .u32 0, .int .u32 0, .int .u32 0, .int .u32 0] 27)).setCells w6.heap.size 0 (cvl c)) w6.heap.size c := CtxAt.sets c (there_new _ _ _ _ rfl) HLN.out
  have k12 : But [] w6 ((w6.alloc (.cells #[.int .u32 0, .int .u32 0, .int .u32 0, .int .u32 0, .int .u32 0, .int .u32 0, .int .u32 0, .int .u32 0, .int .u32 0, .int .u32 0, .int .u32 0, .int .u32 0, .int .u32 0, .int .u32 0, .int .u32 0, .int .u32 0, .int .u32 0] 27)).setCells w6.heap.size 0 (cvl c)) := ((But.refl [] w6).alloc _).setCells (.inr (Nat.le_refl _)) _ _
  have hb12 : bI < w6.heap.size := lt_of_cell i0
  go_upto_region 17 with (first
    | (refine wpList_load_mid rfl 27 _ rfl g 0 rfl (cvl c) _ HX.out.ctx.range Try.underlying27 rfl (cvl_info _ HLN.out) ?_)
    | (refine wpList_store_mid rfl 27 _ _ rfl w6.heap.size 0 (cvl c).toArray rfl rfl ?ht HI12.out (all_oneCell_toArray (cvl_one _)) ?_; case ht => exact HT12.out))
  generalize (w6.alloc (.cells #[.int .u32 0, .int .u32 0, .int .u32 0, .int .u32 0, .int .u32 0, .int .u32 0, .int .u32 0, .int .u32 0, .int .u32 0, .int .u32 0, .int .u32 0, .int .u32 0, .int .u32 0, .int .u32 0, .int .u32 0, .int .u32 0, .int .u32 0] 27)).setCells w6.heap.size 0 (cvl c) = w7 at hC12 k12 ⊢
  obtain ⟨b12, hbe⟩ : ∃ b12, b12 = w6.heap.size := ⟨_, rfl⟩
  rw [← hbe] at hC12 hb12 ⊢
  have hX7 := HX.out.keep0 k12
  have hB7 := HB.out.trans k12
  have hRI7 := range_keep HRI.out k12 (by simp)
  clear HX HB HRI i0 i1 i2 i3 hbe HT12 HI12 k12
  have hpc : w7.cell? ⟨g, 16, none⟩ = some (.int .u32 x) := by rw [← HX16.out]; exact hX7.ctx.reg 16 (by omega)
  have hz6 : w7.frozen? ⟨g, 16, none⟩ = false := hX7.ctx.fz 16 (by omega)
  go_upto_region 18 with fail
  have hX8 := hX7.set 16 (by omega) ((x + 4) % 4294967296)
  rw [← HPC.out] at hX8
  have k8 : But [g] w7 (w7.setCell ⟨g, 16, none⟩ (.int .u32 ((x + 4) % 4294967296))) := (But.refl [g] w7).setCell (by simp) _
  generalize w7.setCell ⟨g, 16, none⟩ (.int .u32 ((x + 4) % 4294967296)) = w8 at hX8 k8 ⊢
  have hR8 := range_keep hRI7 k8 (by simp; omega)
  have i0 : w8.cell? ⟨bI, 0, none⟩ = some (.int .i64 13) := hR8 0 _ rfl
  have i1 : w8.cell? ⟨bI, 1, none⟩ = some (.int .i64 a) := hR8 1 _ rfl
  have i2 : w8.cell? ⟨bI, 2, none⟩ = some (.int .i64 b) := hR8 2 _ rfl
  have i3 : w8.cell? ⟨bI, 3, none⟩ = some (.int .i64 i) := hR8 3 _ rfl
  have HC12 : Hid (CtxAt w8 b12 c) := hC12.keep k8 (by simp; omega)
  have HX : Hid (SBx w8 g (pc4 c)) := hX8
  have HB : Hid (But [] w w8) := but_fresh hB7 k8 (by have := HGS.out; simp; omega)
  clear hX7 hB7 hRI7 hC12 hpc hz6 hX8 k8 hR8
  have ra : w8.cell? ⟨g, a, none⟩ = some (.int .u32 z) := by rw [← HRA.out]; exact HX.out.ctx.reg a (by omega)
  have rb : w8.cell? ⟨g, b, none⟩ = some (.int .u32 y) := by rw [← HRB.out]; exact HX.out.ctx.reg b (by omega)
  go_upto_region 22 with fail
  go_quiet (first | (go_at_call 29; refine quiet_same (HRK.out _)))
  have hX9 := HX.out.keep0 ((But.refl [] w8).drewN nq)
  have hB9 := HB.out.drewN nq
  have hC9 := HC12.out.keep ((But.refl [] w8).drewN nq) (by simp)
  have i1' := cell_keep i1 ((But.refl [] w8).drewN nq) (by simp)
  clear HX HB HC12 HRK i0 i1 i2 i3 ra rb
  generalize w8.drewN nq = w8d at hX9 hB9 hC9 i1' ⊢
  have HX : Hid (SBx w8d g (pc4 c)) := hX9
  have HB : Hid (But [] w w8d) := hB9
  have HC12 : Hid (CtxAt w8d b12 c) := hC9
  clear hX9 hB9 hC9
  have ra : w8d.cell? ⟨g, a, none⟩ = some (.int .u32 z) := by rw [← HRA.out]; exact HX.out.ctx.reg a (by omega)
  have fa : w8d.frozen? ⟨g, a, none⟩ = false := HX.out.ctx.fz a (by omega)
  go_upto_region 35 with fail
  clear ra fa i1'
  have hX9 := HX.out.set a (by omega) (R)
  have k9 : But [g] w8d (w8d.setCell ⟨g, a, none⟩ (.int .u32 (R))) := (But.refl [g] w8d).setCell (by simp) _
  generalize w8d.setCell ⟨g, a, none⟩ (.int .u32 (R)) = w9 at hX9 k9 ⊢
  have hB9 : But [] w w9 := but_fresh HB.out k9 (by have := HGS.out; simp; omega)
  clear HX HB k9
  have HX : Hid (SBx w9 g ((pc4 c).set a (R))) := hX9
  have HB : Hid (But [] w w9) := hB9
  have HL9 : Hid (((pc4 c).set a (R)).length = 17) := hX9.ctx.len
  clear hX9 hB9
  have HI9 : Hid ((Try.prog.info? 27).map (·.size) = some (cvl ((pc4 c).set a (R))).toArray.size) := by show _ = _; rw [List.size_toArray]; exact cvl_info _ HL9.out
  have HT8' : Hid (w9.there (g + 1) 0 (cvl ((pc4 c).set a (R))).toArray.size) := by show World.there _ _ _ _; rw [List.size_toArray, cvl_len, HL9.out]; exact HX.out.t8
  have HT9' : Hid ((w9.setCells (g + 1) 0 (cvl ((pc4 c).set a (R)))).there (g + 1 + 1) 0 4) := World.there_setCells HX.out.t9 _ _ _
  go_wp2_with (first
    | (refine wpList_load_mid rfl 27 _ rfl g 0 rfl (cvl ((pc4 c).set a (R))) _ HX.out.ctx.range Try.underlying27 rfl (cvl_info _ HL9.out) ?_)
    | (refine wpList_store_mid rfl 27 _ _ rfl (g + 1) 0 (cvl ((pc4 c).set a (R))).toArray rfl rfl ?ht HI9.out (all_oneCell_toArray (cvl_one _)) ?_; case ht => exact HT8'.out)
    | (refine wpList_store_mid rfl 37 _ _ rfl (g + 1 + 1) 0 #[.int .i64 0, .int .i64 0, .bool false, .int .i64 0] rfl rfl ?ht Try.sizeTrap (Tr.vs_all tr0) ?_; case ht => exact HT9'.out))
  obtain ⟨v1, v2, hbf⟩ := laid2 w9 (g + 1) (cvl ((pc4 c).set a (R))) [.int .i64 0, .int .i64 0, .bool false, .int .i64 0] (by rw [cvl_len, HL9.out]; exact HX.out.t8) HX.out.t9
  refine bodyPost_ret (results_two rfl _ _ (g + 1) 0 (g + 1 + 1) 0 _ _ _ _ rfl v1 Try.underlying27 rfl (cvl_info _ HL9.out) rfl v2 Try.underlying37 rfl Try.sizeTrap) rfl ?_
  have hg0 := HGS.out
  exact ⟨by rw [HDF.out]; rfl, by rw [HDF.out]; exact HRF.out.keep0 (but_fresh HB.out hbf (by simp; omega)), (but_fresh HB.out hbf (by simp; omega)).wider (by simp)⟩
set_option maxHeartbeats 4000000 in
theorem rst_rk (bM bx cx : Nat) (xs : List Int) (A : Option Addr) (cA lo : Nat) (l : List En) (s : Int) (c : List Int) (w : World) (h : RefAt w bM bx cx 4 xs A cA lo l) (hl8 : l.length ≤ 1000) (hux : U32s xs) (hl : c.length = 17) (hu : U32s c) (hal : c.getD 16 0 % 4 = 0) (r : Fd) (hr : fnd l s (c.getD 16 0) false = r) (h0 : r.t.cause = 0) (v : Int) (hv : getW 4 xs r.f r.a = v) (hn : vldD v = true) (o : Int) (a b : Nat) (i : Int) (ho : doR v = o) (hea : daR v = a) (heb : dbR v = b) (hi : diR v = i) (ha : a < 16) (hb : b < 16) (hib : -32768 ≤ i ∧ i ≤ 32767) (hop : 3 ≤ o ∧ o ≤ 12) (ho7 : o ≠ 7) :
    Calls Try.prog 9 #[.pointer (some ⟨bM, 0, none⟩), .int .i64 s, .agg (cvl c).toArray] w fun e w' => e = .returned (stepP 4 xs l s c).ans ∧ RefAt w' bM bx cx 4 (stepP 4 xs l s c).xs A cA lo l ∧ But [bx] w w' := by
  obtain ⟨D, hD⟩ : ∃ D, stepP 4 xs l s c = D := ⟨_, rfl⟩
  rw [hD]
  obtain ⟨x, hx16⟩ : ∃ x, c.getD 16 0 = x := ⟨_, rfl⟩
  have hbx := hu 16
  rw [hx16] at hbx
  obtain ⟨hx0, hx1⟩ := hbx
  have hfc : ftc 4 xs l s (c.getD 16 0) = ⟨tr0, o, a, b, i⟩ := by rw [ftc_in hal hr h0 hv hn, ho, hea, heb, hi]
  have hDE : D = endD c (doP 4 xs l s o a b i (pc4 c)) := hD.symm.trans (st_word hfc)
  obtain ⟨hib0, hib1⟩ := hib
  obtain ⟨hop0, hop1⟩ := hop
  obtain ⟨z, hz⟩ : ∃ z, c.getD a 0 = z := ⟨_, rfl⟩
  obtain ⟨y, hy⟩ : ∃ y, c.getD b 0 = y := ⟨_, rfl⟩
  obtain ⟨R, hR⟩ : ∃ R, rkP o z y y = R := ⟨_, rfl⟩
  have HDF : Hid (D = ⟨tr0, (pc4 c).set a R, xs⟩) := hDE.trans ((s_rk (by omega) (by omega) hl ha hb).trans (by rw [rk_num (by omega) (by omega) (by omega), hz, hy, hR]))
  have HRK : Hid (∀ w, Calls Try.prog 29 #[.int .i64 o, .int .u32 z, .int .u32 y] w fun e w' => e = .returned (.tuple #[.int .u32 R, .bool true]) ∧ w = w') := fun w => by rw [← hR]; exact reckon_c o z y w (by omega) (by omega) (by rw [← hz]; exact hu a) (by rw [← hy]; exact hu b)
  clear hR ho7
  have e24 : (o == 24) = false := beq_false_of_ne (by omega)
  have e23 : (o == 23) = false := beq_false_of_ne (by omega)
  have e13 : (o == 13) = false := beq_false_of_ne (by omega)
  have e1 : (o == 1) = false := beq_false_of_ne (by omega)
  have e2 : (o == 2) = false := beq_false_of_ne (by omega)
  have HOP : Hid (o = o) := rfl
  have hop := HOP.out
  clear hop hDE hfc
  rw [hx16] at hal
  have HAL : Hid (x % 4 = 0) := hal
  obtain ⟨⟨t1, t2, t3, t4⟩, f, q⟩ := r
  rw [hx16] at hr
  have HR : Hid (fnd l s x false = ⟨⟨t1, t2, t3, t4⟩, f, q⟩) := hr
  dsimp only at h0 hv
  have HT1 : Hid (t1 = 0) := h0
  clear h0
  have HV : Hid (getW 4 xs f q = v) := hv
  have HVD : Hid (vldD v = true) := hn
  have HDO : Hid (doR v = o) := ho
  have HDA : Hid (daR v = a) := hea
  have HDB : Hid (dbR v = b) := heb
  have HDI : Hid (diR v = i) := hi
  clear hal hr hv hn ho hea heb hi
  have ha16 : (a : Int) < 16 := by omega
  have ha0 : (0 : Int) ≤ (a : Int) := by omega
  have hb16 : (b : Int) < 16 := by omega
  have hb0 : (0 : Int) ≤ (b : Int) := by omega
  have hbz := hu a
  have hby := hu b
  rw [hz] at hbz
  rw [hy] at hby
  obtain ⟨hz0, hz1⟩ := hbz
  obtain ⟨hy0, hy1⟩ := hby
  have HZ : Hid (c.getD a 0 = z) := hz
  have HY : Hid (c.getD b 0 = y) := hy
  have HPC : Hid (pc4 c = c.set 16 ((x + 4) % 4294967296)) := by show _ = _; unfold pc4; rw [hx16]
  have HRA : Hid ((pc4 c).getD a 0 = z) := (pc4_reg c hl a ha).trans hz
  have HRB : Hid ((pc4 c).getD b 0 = y) := (pc4_reg c hl b hb).trans hy
  have HL4 : Hid ((pc4 c).length = 17) := by show _ = _; unfold pc4; rw [List.length_set]; exact hl
  have hX1 := SBx.new w c 27 37 hl
  have hB1 : But [] w (((w.alloc (.cells (cvl c).toArray 27)).alloc (.cells #[.int .u32 0, .int .u32 0, .int .u32 0, .int .u32 0, .int .u32 0, .int .u32 0, .int .u32 0, .int .u32 0, .int .u32 0, .int .u32 0, .int .u32 0, .int .u32 0, .int .u32 0, .int .u32 0, .int .u32 0, .int .u32 0, .int .u32 0] 27)).alloc (.cells #[.int .i64 0, .int .i64 0, .bool false, .int .i64 0] 37)) := (((But.refl [] w).alloc _).alloc _).alloc _
  obtain ⟨g, hg⟩ : ∃ g, g = w.heap.size := ⟨_, rfl⟩
  have HGS : Hid (w.heap.size ≤ g) := by show _ ≤ g; omega
  have HRF : Hid (RefAt w bM bx cx 4 xs A cA lo l) := h
  obtain ⟨hlM, hlx⟩ := h.lt
  rw [← hg] at hlM hlx
  have HLX : Hid (bM < g ∧ bx < g) := ⟨hlM, hlx⟩
  have HLN : Hid (c.length = 17) := hl
  have HU : Hid (U32s c) := hu
  have HUX : Hid (U32s xs) := hux
  have HX16 : Hid (c.getD 16 0 = x) := hx16
  clear h hux hu hl hx16 hD
  go_enter Try.func9, Try.ntmps9
  go_upto_region 1 with fail
  rw [← hg] at hX1 ⊢
  generalize ((w.alloc (.cells (cvl c).toArray 27)).alloc (.cells #[.int .u32 0, .int .u32 0, .int .u32 0, .int .u32 0, .int .u32 0, .int .u32 0, .int .u32 0, .int .u32 0, .int .u32 0, .int .u32 0, .int .u32 0, .int .u32 0, .int .u32 0, .int .u32 0, .int .u32 0, .int .u32 0, .int .u32 0] 27)).alloc (.cells #[.int .i64 0, .int .i64 0, .bool false, .int .i64 0] 37) = w1 at hX1 hB1 ⊢
  have HX : Hid (SBx w1 g c) := hX1
  have HB : Hid (But [] w w1) := hB1
  have hpc : w1.cell? ⟨g, 16, none⟩ = some (.int .u32 x) := by rw [← HX16.out]; exact hX1.ctx.reg 16 (by omega)
  clear hX1 hB1 hg
  clear hz hy
  have hne : (x % 4 != 0) = false := by simp [HAL.out]
  go_wp2_with fail
  refine (rfind_c bM bx cx xs A cA lo l s x false _ (HRF.out.keep0 HB.out) hl8 hx0 hx1).mono ?_
  rintro e w2 ⟨rfl, k2⟩
  rw [HR.out]
  simp only [Tr.vs]
  obtain ⟨P, hP⟩ : ∃ P, plc ⟨⟨t1, t2, t3, t4⟩, f, q⟩ = P := ⟨_, rfl⟩
  rw [hP]
  have hPb := plc_bd ⟨⟨t1, t2, t3, t4⟩, f, q⟩
  rw [hP] at hPb
  obtain ⟨hP0, hP1⟩ := hPb
  have HP : Hid (plc ⟨⟨t1, t2, t3, t4⟩, f, q⟩ = P) := hP
  have hX2 := HX.out.keep0 k2
  have hB2 := HB.out.trans k2
  have hRT := new_range w2 [.int .i64 t1, .int .i64 t2, .bool t3, .int .i64 t4] 37
  have hKT : But [] w2 (w2.alloc (.cells #[.int .i64 t1, .int .i64 t2, .bool t3, .int .i64 t4] 37)) := (But.refl [] w2).alloc _
  clear k2 HX HB hP hpc hne
  go_upto_region 4 with fail
  generalize w2.alloc (.cells #[.int .i64 t1, .int .i64 t2, .bool t3, .int .i64 t4] 37) = w3 at hRT hKT ⊢
  obtain ⟨b3, hb3⟩ : ∃ b3, b3 = w2.heap.size := ⟨_, rfl⟩
  have hg3 : g + 2 < b3 := by rw [hb3]; exact lt_of_there hX2.t9 (by omega)
  rw [← hb3] at hRT ⊢
  have HX : Hid (SBx w3 g c) := hX2.keep0 hKT
  have HB : Hid (But [] w w3) := hB2.trans hKT
  have HRT : Hid (w3.rangeAt b3 0 [.int .i64 t1, .int .i64 t2, .bool t3, .int .i64 t4]) := hRT
  have q0 : w3.cell? ⟨b3, 0, none⟩ = some (.int .i64 t1) := hRT 0 _ rfl
  clear hX2 hB2 hRT hKT hb3
  have ht1 := HT1.out
  subst ht1
  have hvv : rgw xs P = v := by rw [← HP.out, ← HV.out]; exact rgw_plc xs ⟨⟨0, t2, t3, t4⟩, f, q⟩ rfl
  have hvb := getW_bd (n := 4) HUX.out f q
  rw [HV.out] at hvb
  obtain ⟨hv0, hv1⟩ := hvb
  have HVV : Hid (rgw xs P = v) := hvv
  clear hvv
  go_wp2_with fail
  refine (rgetm_c bM bx cx xs A cA lo l P _ (HRF.out.keep0 HB.out) hP1).mono ?_
  rintro e w5 ⟨rfl, rfl⟩
  rw [HVV.out]
  go_wp2_with fail
  refine (rdecode_c v _ hv0 hv1).mono ?_
  rintro e w4 ⟨rfl, k4⟩
  rw [HVD.out, HDO.out, HDA.out, HDB.out, HDI.out]
  have hX4 := HX.out.keep0 (But.of_below k4)
  have hB4 := HB.out.trans (But.of_below k4)
  have hRI := new_range w4 [.int .i64 o, .int .i64 a, .int .i64 b, .int .i64 i] 75
  have hKI : But [] w4 (w4.alloc (.cells #[.int .i64 o, .int .i64 a, .int .i64 b, .int .i64 i] 75)) := (But.refl [] w4).alloc _
  clear k4 HX HB q0 HRT
  go_upto_region 7 with fail
  generalize w4.alloc (.cells #[.int .i64 o, .int .i64 a, .int .i64 b, .int .i64 i] 75) = w6 at hRI hKI ⊢
  obtain ⟨bI, hbI⟩ : ∃ bI, bI = w4.heap.size := ⟨_, rfl⟩
  have hgI : g + 2 < bI := by rw [hbI]; exact lt_of_there hX4.t9 (by omega)
  rw [← hbI] at hRI ⊢
  have HX : Hid (SBx w6 g c) := hX4.keep0 hKI
  have HB : Hid (But [] w w6) := hB4.trans hKI
  have HRI : Hid (w6.rangeAt bI 0 [.int .i64 o, .int .i64 a, .int .i64 b, .int .i64 i]) := hRI
  have i0 : w6.cell? ⟨bI, 0, none⟩ = some (.int .i64 o) := hRI 0 _ rfl
  have i1 : w6.cell? ⟨bI, 1, none⟩ = some (.int .i64 a) := hRI 1 _ rfl
  have i2 : w6.cell? ⟨bI, 2, none⟩ = some (.int .i64 b) := hRI 2 _ rfl
  have i3 : w6.cell? ⟨bI, 3, none⟩ = some (.int .i64 i) := hRI 3 _ rfl
  clear hX4 hB4 hRI hKI hbI HVV
  have HT12 : Hid ((w6.alloc (.cells #[.int .u32 0, .int .u32 0, .int .u32 0, .int .u32 0, .int .u32 0, .int .u32 0, .int .u32 0, .int .u32 0, .int .u32 0, .int .u32 0, .int .u32 0, .int .u32 0, .int .u32 0, .int .u32 0, .int .u32 0, .int .u32 0, .int .u32 0] 27)).there w6.heap.size 0 (cvl c).toArray.size) := by show World.there _ _ _ _; rw [show (cvl c).toArray.size = 17 by rw [List.size_toArray, cvl_len, HLN.out]]; exact there_new _ _ _ _ rfl
  have HI12 : Hid ((Try.prog.info? 27).map (·.size) = some (cvl c).toArray.size) := by show _ = _; rw [List.size_toArray]; exact cvl_info c HLN.out
  have hC12 : CtxAt ((w6.alloc (.cells #[.int .u32 0, .int .u32 0, .int .u32 0, .int .u32 0, .int .u32 0, .int .u32 0, .int .u32 0, .int .u32 0, .int .u32 0, .int .u32 0, .int .u32 0, .int .u32 0, .int .u32 0, .int .u32 0, .int .u32 0, .int .u32 0, .int .u32 0] 27)).setCells w6.heap.size 0 (cvl c)) w6.heap.size c := CtxAt.sets c (there_new _ _ _ _ rfl) HLN.out
  have k12 : But [] w6 ((w6.alloc (.cells #[.int .u32 0, .int .u32 0, .int .u32 0, .int .u32 0, .int .u32 0, .int .u32 0, .int .u32 0, .int .u32 0, .int .u32 0, .int .u32 0, .int .u32 0, .int .u32 0, .int .u32 0, .int .u32 0, .int .u32 0, .int .u32 0, .int .u32 0] 27)).setCells w6.heap.size 0 (cvl c)) := ((But.refl [] w6).alloc _).setCells (.inr (Nat.le_refl _)) _ _
  have hb12 : bI < w6.heap.size := lt_of_cell i0
  go_upto_region 17 with (first
    | (refine wpList_load_mid rfl 27 _ rfl g 0 rfl (cvl c) _ HX.out.ctx.range Try.underlying27 rfl (cvl_info _ HLN.out) ?_)
    | (refine wpList_store_mid rfl 27 _ _ rfl w6.heap.size 0 (cvl c).toArray rfl rfl ?ht HI12.out (all_oneCell_toArray (cvl_one _)) ?_; case ht => exact HT12.out))
  generalize (w6.alloc (.cells #[.int .u32 0, .int .u32 0, .int .u32 0, .int .u32 0, .int .u32 0, .int .u32 0, .int .u32 0, .int .u32 0, .int .u32 0, .int .u32 0, .int .u32 0, .int .u32 0, .int .u32 0, .int .u32 0, .int .u32 0, .int .u32 0, .int .u32 0] 27)).setCells w6.heap.size 0 (cvl c) = w7 at hC12 k12 ⊢
  obtain ⟨b12, hbe⟩ : ∃ b12, b12 = w6.heap.size := ⟨_, rfl⟩
  rw [← hbe] at hC12 hb12 ⊢
  have hX7 := HX.out.keep0 k12
  have hB7 := HB.out.trans k12
  have hRI7 := range_keep HRI.out k12 (by simp)
  clear HX HB HRI i0 i1 i2 i3 hbe HT12 HI12 k12
  have hpc : w7.cell? ⟨g, 16, none⟩ = some (.int .u32 x) := by rw [← HX16.out]; exact hX7.ctx.reg 16 (by omega)
  have hz6 : w7.frozen? ⟨g, 16, none⟩ = false := hX7.ctx.fz 16 (by omega)
  go_upto_region 18 with fail
  have hX8 := hX7.set 16 (by omega) ((x + 4) % 4294967296)
  rw [← HPC.out] at hX8
  have k8 : But [g] w7 (w7.setCell ⟨g, 16, none⟩ (.int .u32 ((x + 4) % 4294967296))) := (But.refl [g] w7).setCell (by simp) _
  generalize w7.setCell ⟨g, 16, none⟩ (.int .u32 ((x + 4) % 4294967296)) = w8 at hX8 k8 ⊢
  have hR8 := range_keep hRI7 k8 (by simp; omega)
  have i0 : w8.cell? ⟨bI, 0, none⟩ = some (.int .i64 o) := hR8 0 _ rfl
  have i1 : w8.cell? ⟨bI, 1, none⟩ = some (.int .i64 a) := hR8 1 _ rfl
  have i2 : w8.cell? ⟨bI, 2, none⟩ = some (.int .i64 b) := hR8 2 _ rfl
  have i3 : w8.cell? ⟨bI, 3, none⟩ = some (.int .i64 i) := hR8 3 _ rfl
  have HC12 : Hid (CtxAt w8 b12 c) := hC12.keep k8 (by simp; omega)
  have HX : Hid (SBx w8 g (pc4 c)) := hX8
  have HB : Hid (But [] w w8) := but_fresh hB7 k8 (by have := HGS.out; simp; omega)
  clear hX7 hB7 hRI7 hC12 hpc hz6 hX8 k8 hR8
  have ra : w8.cell? ⟨g, a, none⟩ = some (.int .u32 z) := by rw [← HRA.out]; exact HX.out.ctx.reg a (by omega)
  have rb : w8.cell? ⟨g, b, none⟩ = some (.int .u32 y) := by rw [← HRB.out]; exact HX.out.ctx.reg b (by omega)
  go_upto_region 22 with fail
  go_quiet (first | (go_at_call 29; refine quiet_same (HRK.out _)))
  have hX9 := HX.out.keep0 ((But.refl [] w8).drewN nq)
  have hB9 := HB.out.drewN nq
  have hC9 := HC12.out.keep ((But.refl [] w8).drewN nq) (by simp)
  have i1' := cell_keep i1 ((But.refl [] w8).drewN nq) (by simp)
  clear HX HB HC12 HRK i0 i1 i2 i3 ra rb
  generalize w8.drewN nq = w8d at hX9 hB9 hC9 i1' ⊢
  have HX : Hid (SBx w8d g (pc4 c)) := hX9
  have HB : Hid (But [] w w8d) := hB9
  have HC12 : Hid (CtxAt w8d b12 c) := hC9
  clear hX9 hB9 hC9
  have ra : w8d.cell? ⟨g, a, none⟩ = some (.int .u32 z) := by rw [← HRA.out]; exact HX.out.ctx.reg a (by omega)
  have fa : w8d.frozen? ⟨g, a, none⟩ = false := HX.out.ctx.fz a (by omega)
  go_upto_region 35 with fail
  clear ra fa i1'
  have hX9 := HX.out.set a (by omega) (R)
  have k9 : But [g] w8d (w8d.setCell ⟨g, a, none⟩ (.int .u32 (R))) := (But.refl [g] w8d).setCell (by simp) _
  generalize w8d.setCell ⟨g, a, none⟩ (.int .u32 (R)) = w9 at hX9 k9 ⊢
  have hB9 : But [] w w9 := but_fresh HB.out k9 (by have := HGS.out; simp; omega)
  clear HX HB k9
  have HX : Hid (SBx w9 g ((pc4 c).set a (R))) := hX9
  have HB : Hid (But [] w w9) := hB9
  have HL9 : Hid (((pc4 c).set a (R)).length = 17) := hX9.ctx.len
  clear hX9 hB9
  have HI9 : Hid ((Try.prog.info? 27).map (·.size) = some (cvl ((pc4 c).set a (R))).toArray.size) := by show _ = _; rw [List.size_toArray]; exact cvl_info _ HL9.out
  have HT8' : Hid (w9.there (g + 1) 0 (cvl ((pc4 c).set a (R))).toArray.size) := by show World.there _ _ _ _; rw [List.size_toArray, cvl_len, HL9.out]; exact HX.out.t8
  have HT9' : Hid ((w9.setCells (g + 1) 0 (cvl ((pc4 c).set a (R)))).there (g + 1 + 1) 0 4) := World.there_setCells HX.out.t9 _ _ _
  go_wp2_with (first
    | (refine wpList_load_mid rfl 27 _ rfl g 0 rfl (cvl ((pc4 c).set a (R))) _ HX.out.ctx.range Try.underlying27 rfl (cvl_info _ HL9.out) ?_)
    | (refine wpList_store_mid rfl 27 _ _ rfl (g + 1) 0 (cvl ((pc4 c).set a (R))).toArray rfl rfl ?ht HI9.out (all_oneCell_toArray (cvl_one _)) ?_; case ht => exact HT8'.out)
    | (refine wpList_store_mid rfl 37 _ _ rfl (g + 1 + 1) 0 #[.int .i64 0, .int .i64 0, .bool false, .int .i64 0] rfl rfl ?ht Try.sizeTrap (Tr.vs_all tr0) ?_; case ht => exact HT9'.out))
  obtain ⟨v1, v2, hbf⟩ := laid2 w9 (g + 1) (cvl ((pc4 c).set a (R))) [.int .i64 0, .int .i64 0, .bool false, .int .i64 0] (by rw [cvl_len, HL9.out]; exact HX.out.t8) HX.out.t9
  refine bodyPost_ret (results_two rfl _ _ (g + 1) 0 (g + 1 + 1) 0 _ _ _ _ rfl v1 Try.underlying27 rfl (cvl_info _ HL9.out) rfl v2 Try.underlying37 rfl Try.sizeTrap) rfl ?_
  have hg0 := HGS.out
  exact ⟨by rw [HDF.out]; rfl, by rw [HDF.out]; exact HRF.out.keep0 (but_fresh HB.out hbf (by simp; omega)), (but_fresh HB.out hbf (by simp; omega)).wider (by simp)⟩
end Go.Proofs.Ytjlcncdhlcpklaa.Cp
