/-
  Layer 6 (cpu): contracts of divide and jump, over the translated program.
-/
import Derived.Test.YtjlcncdhlcpklaaCpDo
namespace Go.Proofs.Ytjlcncdhlcpklaa.Cp
open Go.ChangeShapes Go.WideShapes Go.ChangeAt Go.RowKit
open Fr (MemAt Blk hasW hasF) 
open Tl (En TlbAt Ens getE misE ansE en0)
set_option linter.unusedVariables false
set_option maxRecDepth 20000

set_option maxHeartbeats 1000000 in
theorem divide_no (bd bc : Nat) (op : Int) (a b : Nat) (i : Int) (c : List Int) (s : Int) (w : World) (h : DoAt w bd bc op a b i c s) (hnb : c.getD b 0 = 0) :
    Calls Try.prog 45 #[.pointer (some ⟨bd, 0, none⟩)] w fun e w' => e = .returned (.agg (Tr.mk 4 0 false 0).vs.toArray) ∧ DoAt w' bd bc op a b i c s ∧ But [bd] w w' := by
  have HN : Hid (c.getD b 0 = 0) := hnb
  clear hnb
  obtain ⟨g, hg⟩ : ∃ g, g = w.heap.size := ⟨_, rfl⟩
  have hT := there_new w #[.int .i64 0, .int .i64 0, .bool false, .int .i64 0] 37 4 rfl
  have hB0 : But [] w (w.alloc (.cells #[.int .i64 0, .int .i64 0, .bool false, .int .i64 0] 37)) := (But.refl [] w).alloc _
  have HGS : Hid (w.heap.size ≤ g) := by show _ ≤ g; omega
  have hbl := h.lt
  have hgd : ¬ g = bd := by omega
  go_enter Try.func45, Try.ntmps45
  go_wp2
  rw [← hg] at hT ⊢
  generalize w.alloc (.cells #[.int .i64 0, .int .i64 0, .bool false, .int .i64 0] 37) = w1 at hT hB0 ⊢
  have HT : Hid (w1.there g 0 4) := hT
  have HB : Hid (But [] w w1) := hB0
  have H1 : Hid (DoAt w1 bd bc op a b i c s) := h.keep hB0 (by simp)
  clear h hg hT hB0
  have hb := H1.out.b3
  have hr := (H1.out.reg b (by have := H1.out.hb; omega)).1
  have hb16 : (b : Int) < 16 := by have := H1.out.hb; omega
  have hb0 : (0 : Int) ≤ (b : Int) := by omega
  rw [HN.out] at hr
  go_quiet (fail)
  have HT2 : Hid ((w1.drewN nq).there g 0 4) := there_keep HT.out ((But.refl [] w1).drewN _) (by simp)
  have HB2 : Hid (But [] w1 (w1.drewN nq)) := (But.refl [] w1).drewN _
  generalize w1.drewN nq = w2 at HT2 HB2 ⊢
  go_wp2_with (first
    | (refine wpList_store_mid rfl 37 _ _ rfl g 0 #[.int .i64 4, .int .i64 0, .bool false, .int .i64 0] rfl rfl ?ht Try.sizeTrap (Tr.vs_all ⟨4, 0, false, 0⟩) ?_; case ht => exact HT2.out))
  refine bodyPost_ret (results_range1 rfl _ _ g 0 [.int .i64 4, .int .i64 0, .bool false, .int .i64 0] _ rfl (World.rangeAt_setCells_same _ _ _ _ HT2.out) Try.underlying37 rfl Try.sizeTrap) rfl ?_
  exact ⟨rfl, (H1.out.keep HB2.out (by simp)).keep ((But.refl [g] _).setCells (by simp) _ _) (by simp; omega), ((HB.out.any [bd]).trans (HB2.out.any [bd])).setCells (.inr HGS.out) _ _⟩

set_option maxHeartbeats 1000000 in
theorem divide_c (bd bc : Nat) (op : Int) (a b : Nat) (i : Int) (c : List Int) (s : Int) (w : World) (h : DoAt w bd bc op a b i c s) (hnb : c.getD b 0 ≠ 0) :
    Calls Try.prog 45 #[.pointer (some ⟨bd, 0, none⟩)] w fun e w' => e = .returned (.agg tr0.vs.toArray) ∧ DoAt w' bd bc op a b i (c.set a (c.getD a 0 / c.getD b 0)) s ∧ But [bd] w w' := by
  obtain ⟨x, hx⟩ : ∃ x, x = c.getD a 0 := ⟨_, rfl⟩
  obtain ⟨y, hy⟩ : ∃ y, y = c.getD b 0 := ⟨_, rfl⟩
  have hux := h.u a
  have huy := h.u b
  rw [← hy] at hnb huy ⊢
  rw [← hx] at hux ⊢
  have HXX : Hid (x = c.getD a 0) := hx
  have HYY : Hid (y = c.getD b 0) := hy
  have hyz : (y == 0) = false := by simp [hnb]
  clear hx hy
  obtain ⟨g, hg⟩ : ∃ g, g = w.heap.size := ⟨_, rfl⟩
  have hT := there_new w #[.int .i64 0, .int .i64 0, .bool false, .int .i64 0] 37 4 rfl
  have hB0 : But [] w (w.alloc (.cells #[.int .i64 0, .int .i64 0, .bool false, .int .i64 0] 37)) := (But.refl [] w).alloc _
  have HGS : Hid (w.heap.size ≤ g) := by show _ ≤ g; omega
  have hbl := h.lt
  have hgd : ¬ g = bd := by omega
  go_enter Try.func45, Try.ntmps45
  go_wp2
  rw [← hg] at hT ⊢
  generalize w.alloc (.cells #[.int .i64 0, .int .i64 0, .bool false, .int .i64 0] 37) = w1 at hT hB0 ⊢
  have HT : Hid (w1.there g 0 4) := hT
  have HB : Hid (But [] w w1) := hB0
  have H1 : Hid (DoAt w1 bd bc op a b i c s) := h.keep hB0 (by simp)
  clear h hg hT hB0
  have hb := H1.out.b3
  have hr := (H1.out.reg b (by have := H1.out.hb; omega)).1
  have hb16 : (b : Int) < 16 := by have := H1.out.hb; omega
  have hb0 : (0 : Int) ≤ (b : Int) := by omega
  rw [← HYY.out] at hr
  go_quiet (fail)
  have HT2 : Hid ((w1.drewN nq).drew.there g 0 4) := there_keep HT.out ((But.refl [] w1).drewN nq).drew (by simp)
  have HB2 : Hid (But [] w1 (w1.drewN nq).drew) := ((But.refl [] w1).drewN nq).drew
  generalize w1.drewN nq = w2 at HT2 HB2 ⊢
  have HD2 : Hid (DoAt w2.drew bd bc op a b i c s) := H1.out.keep HB2.out (by simp)
  clear hb hr
  have ha := HD2.out.a2
  obtain ⟨hr, hz⟩ := HD2.out.reg a (by have := HD2.out.ha; omega)
  have ha16 : (a : Int) < 16 := by have := HD2.out.ha; omega
  have ha0 : (0 : Int) ≤ (a : Int) := by omega
  rw [← HXX.out] at hr
  have hq : Hid (0 ≤ x / y ∧ x / y ≤ 4294967295) := ⟨Int.ediv_nonneg hux.1 huy.1, Int.le_trans (Int.ediv_le_self _ hux.1) hux.2⟩
  have hdv : ∀ w, (binOp .quo 24 (.int .u32 x) (.int .u32 y)).run Try.prog w = .ok (.int .u32 (x / y)) w := fun w => by
    obtain ⟨q0, q1⟩ := hq.out
    go_simp
    rw [Int.tdiv_eq_ediv_of_nonneg hux.1, IntKind.wrap_u32]
    generalize x / y = q at q0 q1
    omega
  go_wp2
  refine wp_region_still_tail 17 (by kernel_rfl) (by kernel_rfl) ?_
  simp only [List.take_succ_cons, List.take_zero, List.drop_succ_cons, List.drop_zero]
  change wpStill _ _ w2.drew _ _ _
  repeat still_step
  refine wpStill_nil ?_
  change wpList _ _ _ _ _ w2.drew
  generalize w2.drew = w3 at HT2 HB2 HD2 hr ha hz ⊢
  have HS : Hid (DoAt (w3.setCell ⟨bd, 5 + a, none⟩ (.int .u32 (x / y))) bd bc op a b i (c.set a (x / y)) s) := HD2.out.set a (by have := HD2.out.ha; omega) _ hq.out.1 hq.out.2
  have HBS : Hid (But [bd] w3 (w3.setCell ⟨bd, 5 + a, none⟩ (.int .u32 (x / y)))) := (But.refl _ _).setCell (by simp) _
  have HT3 : Hid ((w3.setCell ⟨bd, 5 + a, none⟩ (.int .u32 (x / y))).there g 0 4) := there_keep HT2.out HBS.out (by simp; omega)
  go_wp2_with (first
    | (refine wpList_store_mid rfl 37 _ _ rfl g 0 #[.int .i64 0, .int .i64 0, .bool false, .int .i64 0] rfl rfl ?ht Try.sizeTrap (Tr.vs_all tr0) ?_; case ht => exact HT3.out))
  refine bodyPost_ret (results_range1 rfl _ _ g 0 [.int .i64 0, .int .i64 0, .bool false, .int .i64 0] _ rfl (World.rangeAt_setCells_same _ _ _ _ HT3.out) Try.underlying37 rfl Try.sizeTrap) rfl ?_
  exact ⟨rfl, HS.out.keep ((But.refl [g] _).setCells (by simp) _ _) (by simp; omega), ((HB.out.any [bd]).trans ((HB2.out.any [bd]).trans HBS.out)).setCells (.inr HGS.out) _ _⟩

/-- The program behind a jump. -/
def jmpC (op : Int) (a b : Nat) (i : Int) (c : List Int) : List Int :=
  if op = 18 then c.set 16 (jmpP c i true) else if op = 19 then c.set 16 (jmpP c i (c.getD a 0 == 0)) else if op = 20 then c.set 16 (jmpP c i (c.getD a 0 != 0))
  else if op = 21 then c.set 16 (jmpP c i (decide (vlu (c.getD a 0) < vlu (c.getD b 0)))) else if op = 22 then (c.set 15 (c.getD 16 0)).set 16 (jmpP (c.set 15 (c.getD 16 0)) i true) else c.set 16 (c.getD a 0)
set_option maxHeartbeats 2000000 in
theorem jump_c (bd bc : Nat) (op : Int) (a b : Nat) (i : Int) (c : List Int) (s : Int) (w : World) (h : DoAt w bd bc op a b i c s) (hop : 18 ≤ op ∧ op ≤ 23) :
    Calls Try.prog 46 #[.pointer (some ⟨bd, 0, none⟩)] w fun e w' => e = .returned (.tuple #[]) ∧ DoAt w' bd bc op a b i (jmpC op a b i c) s ∧ But [bd] w w' := by
  have H : Hid (DoAt w bd bc op a b i c s) := h
  have hop' : op = 18 ∨ op = 19 ∨ op = 20 ∨ op = 21 ∨ op = 22 ∨ op = 23 := by omega
  have ha := h.a2
  have hr := (h.reg a (by have := h.ha; omega)).1
  have ha16 : (a : Int) < 16 := by have := h.ha; omega
  have ha0 : (0 : Int) ≤ (a : Int) := by omega
  have hux := h.u a
  obtain ⟨x, hx⟩ : ∃ x, x = c.getD a 0 := ⟨_, rfl⟩
  rw [← hx] at hr hux
  have HXX : Hid (c.getD a 0 = x) := hx.symm
  clear h hx hop
  rcases hop' with rfl | rfl | rfl | rfl | rfl | rfl
  · go_enter Try.func46, Try.ntmps46
    go_wp2
    go_quiet (fail)
    have HB : Hid (But [] w (w.drewN nq)) := (But.refl [] w).drewN _
    generalize w.drewN nq = w1 at HB ⊢
    have H1 : Hid (DoAt w1 bd bc 18 a b i c s) := H.out.keep HB.out (by simp)
    have ho := H1.out.op1
    go_wp2_with fail
    refine (skip_c bd bc 18 a b i c s true _ H1.out).mono ?_
    rintro e w2 ⟨rfl, h2, k2⟩
    have H2 : Hid (DoAt w2 bd bc 18 a b i (jmpC 18 a b i c) s) := h2
    have K2 : Hid (But [bd] w w2) := (HB.out.any _).trans k2
    clear h2 k2
    go_wp2
    go_end0
    exact ⟨rfl, H2.out, K2.out⟩
  · go_enter Try.func46, Try.ntmps46
    go_wp2
    go_quiet (fail)
    have HB : Hid (But [] w (w.drewN nq)) := (But.refl [] w).drewN _
    generalize w.drewN nq = w1 at HB ⊢
    have H1 : Hid (DoAt w1 bd bc 19 a b i c s) := H.out.keep HB.out (by simp)
    have ho := H1.out.op1
    have HJ : Hid (jmpC 19 a b i c = c.set 16 (jmpP c i (x == 0))) := by show _ = _; rw [← HXX.out]; rfl
    go_wp2_with fail
    refine (skip_c bd bc 19 a b i c s (x == 0) _ H1.out).mono ?_
    rintro e w2 ⟨rfl, h2, k2⟩
    have H2 : Hid (DoAt w2 bd bc 19 a b i (c.set 16 (jmpP c i (x == 0))) s) := h2
    have K2 : Hid (But [bd] w w2) := (HB.out.any _).trans k2
    clear h2 k2
    go_wp2
    go_end0
    exact ⟨rfl, by rw [HJ.out]; exact H2.out, K2.out⟩
  · go_enter Try.func46, Try.ntmps46
    go_wp2
    go_quiet (fail)
    have HB : Hid (But [] w (w.drewN nq)) := (But.refl [] w).drewN _
    generalize w.drewN nq = w1 at HB ⊢
    have H1 : Hid (DoAt w1 bd bc 20 a b i c s) := H.out.keep HB.out (by simp)
    have ho := H1.out.op1
    have HJ : Hid (jmpC 20 a b i c = c.set 16 (jmpP c i (x != 0))) := by show _ = _; rw [← HXX.out]; rfl
    go_wp2_with fail
    refine (skip_c bd bc 20 a b i c s (x != 0) _ H1.out).mono ?_
    rintro e w2 ⟨rfl, h2, k2⟩
    have H2 : Hid (DoAt w2 bd bc 20 a b i (c.set 16 (jmpP c i (x != 0))) s) := h2
    have K2 : Hid (But [bd] w w2) := (HB.out.any _).trans k2
    clear h2 k2
    go_wp2
    go_end0
    exact ⟨rfl, by rw [HJ.out]; exact H2.out, K2.out⟩
  · have huy := H.out.u b
    obtain ⟨y, hy⟩ : ∃ y, y = c.getD b 0 := ⟨_, rfl⟩
    rw [← hy] at huy
    have HYY : Hid (c.getD b 0 = y) := hy.symm
    clear hy
    go_enter Try.func46, Try.ntmps46
    go_wp2
    go_quiet (fail)
    have HB : Hid (But [] w (w.drewN nq).drew) := ((But.refl [] w).drewN _).drew
    generalize w.drewN nq = w1 at HB ⊢
    have H1 : Hid (DoAt w1.drew bd bc 21 a b i c s) := H.out.keep HB.out (by simp)
    have ho : w1.cell? ⟨bd, 1, none⟩ = some (.int .i64 21) := H1.out.op1
    have HJ : Hid (jmpC 21 a b i c = c.set 16 (jmpP c i (decide (vlu x < vlu y)))) := by show _ = _; rw [← HXX.out, ← HYY.out]; rfl
    go_wp2
    clear ha hr
    have hb := H1.out.b3
    have hrb := (H1.out.reg b (by have := H1.out.hb; omega)).1
    rw [HYY.out] at hrb
    have hb16 : (b : Int) < 16 := by have := H1.out.hb; omega
    have hb0 : (0 : Int) ≤ (b : Int) := by omega
    have hless : Hid (Calls Try.prog 66 #[.int .u32 x, .int .u32 y] w1.drew fun e w' => e = .returned (.bool (decide (vlu x < vlu y))) ∧ w' = w1.drew) := (Wd.less_c x y _ hux.1 hux.2 huy.1 huy.2).mono fun _ _ h => ⟨h.1, h.2.symm⟩
    refine wp_region_still_tail 14 (by kernel_rfl) (by kernel_rfl) ?_
    simp only [List.take_succ_cons, List.take_zero, List.drop_succ_cons, List.drop_zero]
    change wpStill _ _ w1.drew _ _ _
    repeat (first | still_step | still_call hless.out)
    refine wpStill_nil ?_
    change wpList _ _ _ _ _ w1.drew
    obtain ⟨gs, hgs⟩ : ∃ gs, gs = decide (vlu x < vlu y) := ⟨_, rfl⟩
    rw [← hgs] at HJ ⊢
    clear hgs hless
    generalize w1.drew = w2 at HB H1 ⊢
    go_wp2_with fail
    refine (skip_c bd bc 21 a b i c s gs _ H1.out).mono ?_
    rintro e w3 ⟨rfl, h2, k2⟩
    have H2 : Hid (DoAt w3 bd bc 21 a b i (c.set 16 (jmpP c i gs)) s) := h2
    have K2 : Hid (But [bd] w w3) := (HB.out.any _).trans k2
    clear h2 k2
    go_wp2
    go_end0
    exact ⟨rfl, by rw [HJ.out]; exact H2.out, K2.out⟩
  · go_enter Try.func46, Try.ntmps46
    go_wp2
    go_quiet (fail)
    have HB : Hid (But [] w (w.drewN nq).drew) := ((But.refl [] w).drewN _).drew
    generalize w.drewN nq = w1 at HB ⊢
    have H1 : Hid (DoAt w1.drew bd bc 22 a b i c s) := H.out.keep HB.out (by simp)
    have ho : w1.cell? ⟨bd, 1, none⟩ = some (.int .i64 22) := H1.out.op1
    go_wp2
    clear ha hr
    obtain ⟨z, hz⟩ : ∃ z, z = c.getD 16 0 := ⟨_, rfl⟩
    have huz := H1.out.u 16
    have hpc : w1.drew.cell? ⟨bd, 21, none⟩ = some (.int .u32 z) := by rw [hz]; exact (H1.out.reg 16 (by omega)).1
    obtain ⟨hl, hlz⟩ := H1.out.reg 15 (by omega)
    have HJ : Hid (jmpC 22 a b i c = (c.set 15 z).set 16 (jmpP (c.set 15 z) i true)) := by show _ = _; rw [hz]; rfl
    rw [← hz] at huz
    clear hz
    refine wp_region_still_tail 10 (by kernel_rfl) (by kernel_rfl) ?_
    simp only [List.take_succ_cons, List.take_zero, List.drop_succ_cons, List.drop_zero]
    change wpStill _ _ w1.drew _ _ _
    repeat still_step
    refine wpStill_nil ?_
    change wpList _ _ _ _ _ w1.drew
    generalize w1.drew = w2 at HB H1 hl hlz hpc ⊢
    have HS : Hid (DoAt (w2.setCell ⟨bd, 20, none⟩ (.int .u32 z)) bd bc 22 a b i (c.set 15 z) s) := H1.out.set 15 (by omega) z huz.1 huz.2
    have HBS : Hid (But [bd] w2 (w2.setCell ⟨bd, 20, none⟩ (.int .u32 z))) := (But.refl _ _).setCell (by simp) _
    go_wp2_with fail
    refine (skip_c bd bc 22 a b i (c.set 15 z) s true _ HS.out).mono ?_
    rintro e w3 ⟨rfl, h2, k2⟩
    have H2 : Hid (DoAt w3 bd bc 22 a b i ((c.set 15 z).set 16 (jmpP (c.set 15 z) i true)) s) := h2
    have K2 : Hid (But [bd] w w3) := (HB.out.any _).trans (HBS.out.trans k2)
    clear h2 k2
    go_wp2
    go_end0
    exact ⟨rfl, by rw [HJ.out]; exact H2.out, K2.out⟩
  · go_enter Try.func46, Try.ntmps46
    go_wp2
    go_quiet (fail)
    have HB : Hid (But [] w (w.drewN nq)) := (But.refl [] w).drewN _
    generalize w.drewN nq = w1 at HB ⊢
    have H1 : Hid (DoAt w1 bd bc 23 a b i c s) := H.out.keep HB.out (by simp)
    have ho := H1.out.op1
    have HJ : Hid (jmpC 23 a b i c = c.set 16 x) := by show _ = _; rw [← HXX.out]; rfl
    obtain ⟨hpc, hpz⟩ := H1.out.reg 16 (by omega)
    have HS : Hid (DoAt (w1.setCell ⟨bd, 21, none⟩ (.int .u32 x)) bd bc 23 a b i (c.set 16 x) s) := H1.out.set 16 (by omega) x hux.1 hux.2
    go_wp2
    go_end0
    exact ⟨rfl, by rw [HJ.out]; exact HS.out, (HB.out.any [bd]).setCell (by simp) _⟩
end Go.Proofs.Ytjlcncdhlcpklaa.Cp
