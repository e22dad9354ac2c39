/-
  Layer 6 (cpu): the contract of do, Op by Op, over the translated program.
-/
import Derived.Test.YtjlcncdhlcpklaaCpLd
import Derived.Test.YtjlcncdhlcpklaaCpSt
import Derived.Test.YtjlcncdhlcpklaaCpLb
import Derived.Test.YtjlcncdhlcpklaaCpSb
namespace Go.Proofs.Ytjlcncdhlcpklaa.Cp
open Go.ChangeShapes Go.WideShapes Go.ChangeAt Go.RowKit
open Fr (MemAt Blk hasW hasF) 
open Tl (En TlbAt Ens getE misE ansE en0)
set_option linter.unusedVariables false
set_option maxRecDepth 20000

theorem selC_same {α : Type} (t : Int) (x : α) : selC t x x = x := by unfold selC; split <;> rfl
/-- What is done: the trap, the program, the memory. -/
structure Dn where
  t : Tr
  c : List Int
  xs : List Int
/-- The program with its PC 4 more. -/
def pc4 (c : List Int) : List Int := c.set 16 ((c.getD 16 0 + 4) % 4294967296)
/-- An instruction is done (the program's PC is 4 more already). -/
def doP (n : Nat) (xs : List Int) (l : List En) (s op : Int) (a b : Nat) (i : Int) (c : List Int) : Dn :=
  if op = 14 then ⟨(fndW l s (adr c b i) false).t, selC (fndW l s (adr c b i) false).t.cause (c.set a (getW n xs (fndW l s (adr c b i) false).f (fndW l s (adr c b i) false).a)) c, xs⟩
  else if op = 15 then ⟨(fndW l s (adr c b i) true).t, c, selC (fndW l s (adr c b i) true).t.cause (putW n xs (fndW l s (adr c b i) true).f (fndW l s (adr c b i) true).a (c.getD a 0)) xs⟩
  else if op = 16 then ⟨(fnd l s (adr c b i) false).t, selC (fnd l s (adr c b i) false).t.cause (c.set a (byt (getW n xs (fnd l s (adr c b i) false).f (fnd l s (adr c b i) false).a) (adr c b i % 4))) c, xs⟩
  else if op = 17 then ⟨(fnd l s (adr c b i) true).t, c, selC (fnd l s (adr c b i) true).t.cause (putW n xs (fnd l s (adr c b i) true).f (fnd l s (adr c b i) true).a (wth (getW n xs (fnd l s (adr c b i) true).f (fnd l s (adr c b i) true).a) (adr c b i % 4) (c.getD a 0 % 256))) xs⟩
  else if op = 7 then (if c.getD b 0 = 0 then ⟨⟨4, 0, false, 0⟩, c, xs⟩ else ⟨tr0, c.set a (c.getD a 0 / c.getD b 0), xs⟩)
  else if op = 24 then ⟨⟨6, 0, false, i % 65536⟩, c, xs⟩
  else if 18 ≤ op then ⟨tr0, jmpC op a b i c, xs⟩
  else ⟨tr0, c.set a (rkP op (c.getD a 0) (c.getD b 0) (i % 4294967296)), xs⟩
set_option maxHeartbeats 2000000 in
theorem do_load (bd bc bm bp n : Nat) (xs : List Int) (bt : Nat) (l : List En) (m : Nat) (op : Int) (a b : Nat) (i : Int) (c : List Int) (s : Int) (w : World) (h : DoAt w bd bc op a b i c s) (hC : CpuAt w bc bm bp n xs bt l m) (hA : Ap bd bc bm bp bt) (hm : m < 4611686018427387904) (ho : op = 14) :
    Calls Try.prog 23 #[.pointer (some ⟨bd, 0, none⟩)] w fun e w' => ∃ m', e = .returned (.agg (doP n xs l s op a b i (pc4 c)).t.vs.toArray) ∧ m' ≤ m + 1 ∧ DoAt w' bd bc op a b i (doP n xs l s op a b i (pc4 c)).c s ∧ CpuAt w' bc bm bp n (doP n xs l s op a b i (pc4 c)).xs bt l m' ∧ But [bd, bt, bp] w w' := by
  subst ho
  rcases hF : fndW l s (adr (pc4 c) b i) false with ⟨⟨t1, t2, t3, t4⟩, f, q⟩
  obtain ⟨R, hP⟩ : ∃ R, doP n xs l s 14 a b i (pc4 c) = R := ⟨_, rfl⟩
  have HR : Hid (R = ⟨⟨t1, t2, t3, t4⟩, selC t1 ((pc4 c).set a (getW n xs f q)) (pc4 c), xs⟩) := by
    show R = _
    rw [← hP]
    simp only [doP, hF]
    rfl
  have HF : Hid (fndW l s (adr (pc4 c) b i) false = ⟨⟨t1, t2, t3, t4⟩, f, q⟩) := hF
  clear hF
  obtain ⟨g, hg⟩ : ∃ g, g = w.heap.size := ⟨_, rfl⟩
  have hT := there_new w #[.int .i64 0, .int .i64 0, .bool false, .int .i64 0] 37 4 rfl
  have hB0 : But [] w (w.alloc (.cells #[.int .i64 0, .int .i64 0, .bool false, .int .i64 0] 37)) := (But.refl [] w).alloc _
  have HGS : Hid (w.heap.size ≤ g) := by show _ ≤ g; omega
  have hgt : ¬ bc = g ∧ ¬ bm = g ∧ ¬ bp = g ∧ ¬ bt = g ∧ ¬ bd = g := by have := hC.lt; have := h.lt; omega
  have HP : Hid (doP n xs l s 14 a b i (pc4 c) = R) := hP
  have hD0 := h.keep hB0 (by simp)
  obtain ⟨hpc, hpz⟩ := hD0.reg 16 (by omega)
  have hup := h.u 16
  obtain ⟨z, hz⟩ : ∃ z, z = c.getD 16 0 := ⟨_, rfl⟩
  rw [← hz] at hpc hup
  have HZ : Hid (pc4 c = c.set 16 ((z + 4) % 4294967296)) := by show _ = _; rw [hz]; rfl
  have hD1 : DoAt ((w.alloc (.cells #[.int .i64 0, .int .i64 0, .bool false, .int .i64 0] 37)).setCell ⟨bd, 21, none⟩ (.int .u32 ((z + 4) % 4294967296))) bd bc 14 a b i (pc4 c) s := by
    rw [HZ.out]
    exact hD0.set 16 (by omega) _ (by omega) (by omega)
  have hop1 : ((w.alloc (.cells #[.int .i64 0, .int .i64 0, .bool false, .int .i64 0] 37)).setCell ⟨bd, 21, none⟩ (.int .u32 ((z + 4) % 4294967296))).cell? ⟨bd, 1, none⟩ = some (.int .i64 14) := hD1.op1
  have hK1 : But [bd] w ((w.alloc (.cells #[.int .i64 0, .int .i64 0, .bool false, .int .i64 0] 37)).setCell ⟨bd, 21, none⟩ (.int .u32 ((z + 4) % 4294967296))) := (hB0.any [bd]).setCell (by simp) _
  have hK2 : But [bd] (w.alloc (.cells #[.int .i64 0, .int .i64 0, .bool false, .int .i64 0] 37)) ((w.alloc (.cells #[.int .i64 0, .int .i64 0, .bool false, .int .i64 0] 37)).setCell ⟨bd, 21, none⟩ (.int .u32 ((z + 4) % 4294967296))) := (But.refl [bd] _).setCell (by simp) _
  rw [← hg] at hT
  have hT1 := there_keep hT hK2 (by simp; omega)
  have hC1 : CpuAt ((w.alloc (.cells #[.int .i64 0, .int .i64 0, .bool false, .int .i64 0] 37)).setCell ⟨bd, 21, none⟩ (.int .u32 ((z + 4) % 4294967296))) bc bm bp n xs bt l m := hC.keep hK1 (by simpa using hA.c.symm) (by simpa using hA.m.symm) (by simpa using hA.p.symm) (by simpa using hA.t.symm)
  have HAP : Hid (Ap bd bc bm bp bt) := hA
  obtain ⟨k, hk⟩ : ∃ k, k = pc4 c := ⟨_, rfl⟩
  rw [← hk] at hD1 HP HF HR ⊢
  clear HZ hz hP hB0 hT hC hA h hK2 hk
  go_enter Try.func23, Try.ntmps23
  go_upto_region 2 with fail
  rw [← hg]
  clear hpc hpz hD0 hg
  generalize (w.alloc (.cells #[.int .i64 0, .int .i64 0, .bool false, .int .i64 0] 37)).setCell ⟨bd, 21, none⟩ (.int .u32 ((z + 4) % 4294967296)) = w1 at hD1 hop1 hK1 hT1 hC1 ⊢
  have HD : Hid (DoAt w1 bd bc 14 a b i k s) := hD1
  have HC : Hid (CpuAt w1 bc bm bp n xs bt l m) := hC1
  have HT : Hid (w1.there g 0 4) := hT1
  have HK : Hid (But [bd, bt, bp] w w1) := hK1.wider (by simp)
  clear hD1 hC1 hT1 hK1 hup
  go_wp2_with fail
  refine (load_c bd bc bm bp n xs bt l m 14 a b i k s _ HD.out HC.out HAP.out hm t1 t2 t3 t4 f q HF.out).mono ?_
  rintro e w2 ⟨m', rfl, hm', h2, hC2, k2⟩
  simp only [Tr.vs]
  rw [HR.out] at HP
  have HD2 : Hid (DoAt w2 bd bc 14 a b i (selC t1 (k.set a (getW n xs f q)) k) s) := h2
  have HC2 : Hid (CpuAt w2 bc bm bp n (xs) bt l m') := by have h := hC2; rw [selC_same] at h; exact h
  have HM : Hid (m' ≤ m + 1) := hm'
  have HK2 : Hid (But [bd, bt, bp] w w2) := HK.out.trans k2
  have HT2 : Hid (w2.there g 0 4) := there_keep HT.out k2 (by simp; omega)
  clear h2 hC2 hm' k2
  go_wp2_with (first
    | (refine wpList_store_mid rfl 37 _ _ rfl g 0 #[.int .i64 t1, .int .i64 t2, .bool t3, .int .i64 t4] rfl rfl ?ht Try.sizeTrap (Tr.vs_all ⟨t1, t2, t3, t4⟩) ?_; case ht => exact HT2.out))
  refine bodyPost_ret (results_range1 rfl _ _ g 0 [.int .i64 t1, .int .i64 t2, .bool t3, .int .i64 t4] _ rfl (World.rangeAt_setCells_same _ _ _ _ HT2.out) Try.underlying37 rfl Try.sizeTrap) rfl ?_
  have hK : But [g] w2 (w2.setCells g 0 [.int .i64 t1, .int .i64 t2, .bool t3, .int .i64 t4]) := (But.refl _ _).setCells (by simp) _ _
  refine ⟨m', by rw [HP.out]; rfl, HM.out, by rw [HP.out]; exact HD2.out.keep hK (by simp; omega), by rw [HP.out]; exact HC2.out.keep hK (by simpa using hgt.1) (by simpa using hgt.2.1) (by simpa using hgt.2.2.1) (by simpa using hgt.2.2.2.1), ?_⟩
  exact but_fresh HK2.out hK (by have := HGS.out; simp; omega)
set_option maxHeartbeats 2000000 in
theorem do_store (bd bc bm bp n : Nat) (xs : List Int) (bt : Nat) (l : List En) (m : Nat) (op : Int) (a b : Nat) (i : Int) (c : List Int) (s : Int) (w : World) (h : DoAt w bd bc op a b i c s) (hC : CpuAt w bc bm bp n xs bt l m) (hA : Ap bd bc bm bp bt) (hm : m < 4611686018427387904) (ho : op = 15) :
    Calls Try.prog 23 #[.pointer (some ⟨bd, 0, none⟩)] w fun e w' => ∃ m', e = .returned (.agg (doP n xs l s op a b i (pc4 c)).t.vs.toArray) ∧ m' ≤ m + 1 ∧ DoAt w' bd bc op a b i (doP n xs l s op a b i (pc4 c)).c s ∧ CpuAt w' bc bm bp n (doP n xs l s op a b i (pc4 c)).xs bt l m' ∧ But [bd, bt, bp] w w' := by
  subst ho
  rcases hF : fndW l s (adr (pc4 c) b i) true with ⟨⟨t1, t2, t3, t4⟩, f, q⟩
  obtain ⟨R, hP⟩ : ∃ R, doP n xs l s 15 a b i (pc4 c) = R := ⟨_, rfl⟩
  have HR : Hid (R = ⟨⟨t1, t2, t3, t4⟩, pc4 c, selC t1 (putW n xs f q ((pc4 c).getD a 0)) xs⟩) := by
    show R = _
    rw [← hP]
    simp only [doP, hF]
    rfl
  have HF : Hid (fndW l s (adr (pc4 c) b i) true = ⟨⟨t1, t2, t3, t4⟩, f, q⟩) := hF
  clear hF
  obtain ⟨g, hg⟩ : ∃ g, g = w.heap.size := ⟨_, rfl⟩
  have hT := there_new w #[.int .i64 0, .int .i64 0, .bool false, .int .i64 0] 37 4 rfl
  have hB0 : But [] w (w.alloc (.cells #[.int .i64 0, .int .i64 0, .bool false, .int .i64 0] 37)) := (But.refl [] w).alloc _
  have HGS : Hid (w.heap.size ≤ g) := by show _ ≤ g; omega
  have hgt : ¬ bc = g ∧ ¬ bm = g ∧ ¬ bp = g ∧ ¬ bt = g ∧ ¬ bd = g := by have := hC.lt; have := h.lt; omega
  have HP : Hid (doP n xs l s 15 a b i (pc4 c) = R) := hP
  have hD0 := h.keep hB0 (by simp)
  obtain ⟨hpc, hpz⟩ := hD0.reg 16 (by omega)
  have hup := h.u 16
  obtain ⟨z, hz⟩ : ∃ z, z = c.getD 16 0 := ⟨_, rfl⟩
  rw [← hz] at hpc hup
  have HZ : Hid (pc4 c = c.set 16 ((z + 4) % 4294967296)) := by show _ = _; rw [hz]; rfl
  have hD1 : DoAt ((w.alloc (.cells #[.int .i64 0, .int .i64 0, .bool false, .int .i64 0] 37)).setCell ⟨bd, 21, none⟩ (.int .u32 ((z + 4) % 4294967296))) bd bc 15 a b i (pc4 c) s := by
    rw [HZ.out]
    exact hD0.set 16 (by omega) _ (by omega) (by omega)
  have hop1 : ((w.alloc (.cells #[.int .i64 0, .int .i64 0, .bool false, .int .i64 0] 37)).setCell ⟨bd, 21, none⟩ (.int .u32 ((z + 4) % 4294967296))).cell? ⟨bd, 1, none⟩ = some (.int .i64 15) := hD1.op1
  have hK1 : But [bd] w ((w.alloc (.cells #[.int .i64 0, .int .i64 0, .bool false, .int .i64 0] 37)).setCell ⟨bd, 21, none⟩ (.int .u32 ((z + 4) % 4294967296))) := (hB0.any [bd]).setCell (by simp) _
  have hK2 : But [bd] (w.alloc (.cells #[.int .i64 0, .int .i64 0, .bool false, .int .i64 0] 37)) ((w.alloc (.cells #[.int .i64 0, .int .i64 0, .bool false, .int .i64 0] 37)).setCell ⟨bd, 21, none⟩ (.int .u32 ((z + 4) % 4294967296))) := (But.refl [bd] _).setCell (by simp) _
  rw [← hg] at hT
  have hT1 := there_keep hT hK2 (by simp; omega)
  have hC1 : CpuAt ((w.alloc (.cells #[.int .i64 0, .int .i64 0, .bool false, .int .i64 0] 37)).setCell ⟨bd, 21, none⟩ (.int .u32 ((z + 4) % 4294967296))) bc bm bp n xs bt l m := hC.keep hK1 (by simpa using hA.c.symm) (by simpa using hA.m.symm) (by simpa using hA.p.symm) (by simpa using hA.t.symm)
  have HAP : Hid (Ap bd bc bm bp bt) := hA
  obtain ⟨k, hk⟩ : ∃ k, k = pc4 c := ⟨_, rfl⟩
  rw [← hk] at hD1 HP HF HR ⊢
  clear HZ hz hP hB0 hT hC hA h hK2 hk
  go_enter Try.func23, Try.ntmps23
  go_upto_region 2 with fail
  rw [← hg]
  clear hpc hpz hD0 hg
  generalize (w.alloc (.cells #[.int .i64 0, .int .i64 0, .bool false, .int .i64 0] 37)).setCell ⟨bd, 21, none⟩ (.int .u32 ((z + 4) % 4294967296)) = w1 at hD1 hop1 hK1 hT1 hC1 ⊢
  have HD : Hid (DoAt w1 bd bc 15 a b i k s) := hD1
  have HC : Hid (CpuAt w1 bc bm bp n xs bt l m) := hC1
  have HT : Hid (w1.there g 0 4) := hT1
  have HK : Hid (But [bd, bt, bp] w w1) := hK1.wider (by simp)
  clear hD1 hC1 hT1 hK1 hup
  go_wp2_with fail
  refine (store_c bd bc bm bp n xs bt l m 15 a b i k s _ HD.out HC.out HAP.out hm t1 t2 t3 t4 f q HF.out).mono ?_
  rintro e w2 ⟨m', rfl, hm', h2, hC2, k2⟩
  simp only [Tr.vs]
  rw [HR.out] at HP
  have HD2 : Hid (DoAt w2 bd bc 15 a b i (k) s) := by have h := h2; rw [selC_same] at h; exact h
  have HC2 : Hid (CpuAt w2 bc bm bp n (selC t1 (putW n xs f q (k.getD a 0)) xs) bt l m') := hC2
  have HM : Hid (m' ≤ m + 1) := hm'
  have HK2 : Hid (But [bd, bt, bp] w w2) := HK.out.trans k2
  have HT2 : Hid (w2.there g 0 4) := there_keep HT.out k2 (by simp; omega)
  clear h2 hC2 hm' k2
  go_wp2_with (first
    | (refine wpList_store_mid rfl 37 _ _ rfl g 0 #[.int .i64 t1, .int .i64 t2, .bool t3, .int .i64 t4] rfl rfl ?ht Try.sizeTrap (Tr.vs_all ⟨t1, t2, t3, t4⟩) ?_; case ht => exact HT2.out))
  refine bodyPost_ret (results_range1 rfl _ _ g 0 [.int .i64 t1, .int .i64 t2, .bool t3, .int .i64 t4] _ rfl (World.rangeAt_setCells_same _ _ _ _ HT2.out) Try.underlying37 rfl Try.sizeTrap) rfl ?_
  have hK : But [g] w2 (w2.setCells g 0 [.int .i64 t1, .int .i64 t2, .bool t3, .int .i64 t4]) := (But.refl _ _).setCells (by simp) _ _
  refine ⟨m', by rw [HP.out]; rfl, HM.out, by rw [HP.out]; exact HD2.out.keep hK (by simp; omega), by rw [HP.out]; exact HC2.out.keep hK (by simpa using hgt.1) (by simpa using hgt.2.1) (by simpa using hgt.2.2.1) (by simpa using hgt.2.2.2.1), ?_⟩
  exact but_fresh HK2.out hK (by have := HGS.out; simp; omega)
set_option maxHeartbeats 2000000 in
theorem do_loadByte (bd bc bm bp n : Nat) (xs : List Int) (bt : Nat) (l : List En) (m : Nat) (op : Int) (a b : Nat) (i : Int) (c : List Int) (s : Int) (w : World) (h : DoAt w bd bc op a b i c s) (hC : CpuAt w bc bm bp n xs bt l m) (hA : Ap bd bc bm bp bt) (hm : m < 4611686018427387904) (ho : op = 16) :
    Calls Try.prog 23 #[.pointer (some ⟨bd, 0, none⟩)] w fun e w' => ∃ m', e = .returned (.agg (doP n xs l s op a b i (pc4 c)).t.vs.toArray) ∧ m' ≤ m + 1 ∧ DoAt w' bd bc op a b i (doP n xs l s op a b i (pc4 c)).c s ∧ CpuAt w' bc bm bp n (doP n xs l s op a b i (pc4 c)).xs bt l m' ∧ But [bd, bt, bp] w w' := by
  subst ho
  rcases hF : fnd l s (adr (pc4 c) b i) false with ⟨⟨t1, t2, t3, t4⟩, f, q⟩
  obtain ⟨R, hP⟩ : ∃ R, doP n xs l s 16 a b i (pc4 c) = R := ⟨_, rfl⟩
  have HR : Hid (R = ⟨⟨t1, t2, t3, t4⟩, selC t1 ((pc4 c).set a (byt (getW n xs f q) (adr (pc4 c) b i % 4))) (pc4 c), xs⟩) := by
    show R = _
    rw [← hP]
    simp only [doP, hF]
    rfl
  have HF : Hid (fnd l s (adr (pc4 c) b i) false = ⟨⟨t1, t2, t3, t4⟩, f, q⟩) := hF
  clear hF
  obtain ⟨g, hg⟩ : ∃ g, g = w.heap.size := ⟨_, rfl⟩
  have hT := there_new w #[.int .i64 0, .int .i64 0, .bool false, .int .i64 0] 37 4 rfl
  have hB0 : But [] w (w.alloc (.cells #[.int .i64 0, .int .i64 0, .bool false, .int .i64 0] 37)) := (But.refl [] w).alloc _
  have HGS : Hid (w.heap.size ≤ g) := by show _ ≤ g; omega
  have hgt : ¬ bc = g ∧ ¬ bm = g ∧ ¬ bp = g ∧ ¬ bt = g ∧ ¬ bd = g := by have := hC.lt; have := h.lt; omega
  have HP : Hid (doP n xs l s 16 a b i (pc4 c) = R) := hP
  have hD0 := h.keep hB0 (by simp)
  obtain ⟨hpc, hpz⟩ := hD0.reg 16 (by omega)
  have hup := h.u 16
  obtain ⟨z, hz⟩ : ∃ z, z = c.getD 16 0 := ⟨_, rfl⟩
  rw [← hz] at hpc hup
  have HZ : Hid (pc4 c = c.set 16 ((z + 4) % 4294967296)) := by show _ = _; rw [hz]; rfl
  have hD1 : DoAt ((w.alloc (.cells #[.int .i64 0, .int .i64 0, .bool false, .int .i64 0] 37)).setCell ⟨bd, 21, none⟩ (.int .u32 ((z + 4) % 4294967296))) bd bc 16 a b i (pc4 c) s := by
    rw [HZ.out]
    exact hD0.set 16 (by omega) _ (by omega) (by omega)
  have hop1 : ((w.alloc (.cells #[.int .i64 0, .int .i64 0, .bool false, .int .i64 0] 37)).setCell ⟨bd, 21, none⟩ (.int .u32 ((z + 4) % 4294967296))).cell? ⟨bd, 1, none⟩ = some (.int .i64 16) := hD1.op1
  have hK1 : But [bd] w ((w.alloc (.cells #[.int .i64 0, .int .i64 0, .bool false, .int .i64 0] 37)).setCell ⟨bd, 21, none⟩ (.int .u32 ((z + 4) % 4294967296))) := (hB0.any [bd]).setCell (by simp) _
  have hK2 : But [bd] (w.alloc (.cells #[.int .i64 0, .int .i64 0, .bool false, .int .i64 0] 37)) ((w.alloc (.cells #[.int .i64 0, .int .i64 0, .bool false, .int .i64 0] 37)).setCell ⟨bd, 21, none⟩ (.int .u32 ((z + 4) % 4294967296))) := (But.refl [bd] _).setCell (by simp) _
  rw [← hg] at hT
  have hT1 := there_keep hT hK2 (by simp; omega)
  have hC1 : CpuAt ((w.alloc (.cells #[.int .i64 0, .int .i64 0, .bool false, .int .i64 0] 37)).setCell ⟨bd, 21, none⟩ (.int .u32 ((z + 4) % 4294967296))) bc bm bp n xs bt l m := hC.keep hK1 (by simpa using hA.c.symm) (by simpa using hA.m.symm) (by simpa using hA.p.symm) (by simpa using hA.t.symm)
  have HAP : Hid (Ap bd bc bm bp bt) := hA
  obtain ⟨k, hk⟩ : ∃ k, k = pc4 c := ⟨_, rfl⟩
  rw [← hk] at hD1 HP HF HR ⊢
  clear HZ hz hP hB0 hT hC hA h hK2 hk
  go_enter Try.func23, Try.ntmps23
  go_upto_region 2 with fail
  rw [← hg]
  clear hpc hpz hD0 hg
  generalize (w.alloc (.cells #[.int .i64 0, .int .i64 0, .bool false, .int .i64 0] 37)).setCell ⟨bd, 21, none⟩ (.int .u32 ((z + 4) % 4294967296)) = w1 at hD1 hop1 hK1 hT1 hC1 ⊢
  have HD : Hid (DoAt w1 bd bc 16 a b i k s) := hD1
  have HC : Hid (CpuAt w1 bc bm bp n xs bt l m) := hC1
  have HT : Hid (w1.there g 0 4) := hT1
  have HK : Hid (But [bd, bt, bp] w w1) := hK1.wider (by simp)
  clear hD1 hC1 hT1 hK1 hup
  go_wp2_with fail
  refine (loadByte_c bd bc bm bp n xs bt l m 16 a b i k s _ HD.out HC.out HAP.out hm t1 t2 t3 t4 f q HF.out).mono ?_
  rintro e w2 ⟨m', rfl, hm', h2, hC2, k2⟩
  simp only [Tr.vs]
  rw [HR.out] at HP
  have HD2 : Hid (DoAt w2 bd bc 16 a b i (selC t1 (k.set a (byt (getW n xs f q) (adr k b i % 4))) k) s) := h2
  have HC2 : Hid (CpuAt w2 bc bm bp n (xs) bt l m') := by have h := hC2; rw [selC_same] at h; exact h
  have HM : Hid (m' ≤ m + 1) := hm'
  have HK2 : Hid (But [bd, bt, bp] w w2) := HK.out.trans k2
  have HT2 : Hid (w2.there g 0 4) := there_keep HT.out k2 (by simp; omega)
  clear h2 hC2 hm' k2
  go_wp2_with (first
    | (refine wpList_store_mid rfl 37 _ _ rfl g 0 #[.int .i64 t1, .int .i64 t2, .bool t3, .int .i64 t4] rfl rfl ?ht Try.sizeTrap (Tr.vs_all ⟨t1, t2, t3, t4⟩) ?_; case ht => exact HT2.out))
  refine bodyPost_ret (results_range1 rfl _ _ g 0 [.int .i64 t1, .int .i64 t2, .bool t3, .int .i64 t4] _ rfl (World.rangeAt_setCells_same _ _ _ _ HT2.out) Try.underlying37 rfl Try.sizeTrap) rfl ?_
  have hK : But [g] w2 (w2.setCells g 0 [.int .i64 t1, .int .i64 t2, .bool t3, .int .i64 t4]) := (But.refl _ _).setCells (by simp) _ _
  refine ⟨m', by rw [HP.out]; rfl, HM.out, by rw [HP.out]; exact HD2.out.keep hK (by simp; omega), by rw [HP.out]; exact HC2.out.keep hK (by simpa using hgt.1) (by simpa using hgt.2.1) (by simpa using hgt.2.2.1) (by simpa using hgt.2.2.2.1), ?_⟩
  exact but_fresh HK2.out hK (by have := HGS.out; simp; omega)
set_option maxHeartbeats 2000000 in
theorem do_storeByte (bd bc bm bp n : Nat) (xs : List Int) (bt : Nat) (l : List En) (m : Nat) (op : Int) (a b : Nat) (i : Int) (c : List Int) (s : Int) (w : World) (h : DoAt w bd bc op a b i c s) (hC : CpuAt w bc bm bp n xs bt l m) (hA : Ap bd bc bm bp bt) (hm : m < 4611686018427387904) (ho : op = 17) :
    Calls Try.prog 23 #[.pointer (some ⟨bd, 0, none⟩)] w fun e w' => ∃ m', e = .returned (.agg (doP n xs l s op a b i (pc4 c)).t.vs.toArray) ∧ m' ≤ m + 1 ∧ DoAt w' bd bc op a b i (doP n xs l s op a b i (pc4 c)).c s ∧ CpuAt w' bc bm bp n (doP n xs l s op a b i (pc4 c)).xs bt l m' ∧ But [bd, bt, bp] w w' := by
  subst ho
  rcases hF : fnd l s (adr (pc4 c) b i) true with ⟨⟨t1, t2, t3, t4⟩, f, q⟩
  obtain ⟨R, hP⟩ : ∃ R, doP n xs l s 17 a b i (pc4 c) = R := ⟨_, rfl⟩
  have HR : Hid (R = ⟨⟨t1, t2, t3, t4⟩, pc4 c, selC t1 (putW n xs f q (wth (getW n xs f q) (adr (pc4 c) b i % 4) ((pc4 c).getD a 0 % 256))) xs⟩) := by
    show R = _
    rw [← hP]
    simp only [doP, hF]
    rfl
  have HF : Hid (fnd l s (adr (pc4 c) b i) true = ⟨⟨t1, t2, t3, t4⟩, f, q⟩) := hF
  clear hF
  obtain ⟨g, hg⟩ : ∃ g, g = w.heap.size := ⟨_, rfl⟩
  have hT := there_new w #[.int .i64 0, .int .i64 0, .bool false, .int .i64 0] 37 4 rfl
  have hB0 : But [] w (w.alloc (.cells #[.int .i64 0, .int .i64 0, .bool false, .int .i64 0] 37)) := (But.refl [] w).alloc _
  have HGS : Hid (w.heap.size ≤ g) := by show _ ≤ g; omega
  have hgt : ¬ bc = g ∧ ¬ bm = g ∧ ¬ bp = g ∧ ¬ bt = g ∧ ¬ bd = g := by have := hC.lt; have := h.lt; omega
  have HP : Hid (doP n xs l s 17 a b i (pc4 c) = R) := hP
  have hD0 := h.keep hB0 (by simp)
  obtain ⟨hpc, hpz⟩ := hD0.reg 16 (by omega)
  have hup := h.u 16
  obtain ⟨z, hz⟩ : ∃ z, z = c.getD 16 0 := ⟨_, rfl⟩
  rw [← hz] at hpc hup
  have HZ : Hid (pc4 c = c.set 16 ((z + 4) % 4294967296)) := by show _ = _; rw [hz]; rfl
  have hD1 : DoAt ((w.alloc (.cells #[.int .i64 0, .int .i64 0, .bool false, .int .i64 0] 37)).setCell ⟨bd, 21, none⟩ (.int .u32 ((z + 4) % 4294967296))) bd bc 17 a b i (pc4 c) s := by
    rw [HZ.out]
    exact hD0.set 16 (by omega) _ (by omega) (by omega)
  have hop1 : ((w.alloc (.cells #[.int .i64 0, .int .i64 0, .bool false, .int .i64 0] 37)).setCell ⟨bd, 21, none⟩ (.int .u32 ((z + 4) % 4294967296))).cell? ⟨bd, 1, none⟩ = some (.int .i64 17) := hD1.op1
  have hK1 : But [bd] w ((w.alloc (.cells #[.int .i64 0, .int .i64 0, .bool false, .int .i64 0] 37)).setCell ⟨bd, 21, none⟩ (.int .u32 ((z + 4) % 4294967296))) := (hB0.any [bd]).setCell (by simp) _
  have hK2 : But [bd] (w.alloc (.cells #[.int .i64 0, .int .i64 0, .bool false, .int .i64 0] 37)) ((w.alloc (.cells #[.int .i64 0, .int .i64 0, .bool false, .int .i64 0] 37)).setCell ⟨bd, 21, none⟩ (.int .u32 ((z + 4) % 4294967296))) := (But.refl [bd] _).setCell (by simp) _
  rw [← hg] at hT
  have hT1 := there_keep hT hK2 (by simp; omega)
  have hC1 : CpuAt ((w.alloc (.cells #[.int .i64 0, .int .i64 0, .bool false, .int .i64 0] 37)).setCell ⟨bd, 21, none⟩ (.int .u32 ((z + 4) % 4294967296))) bc bm bp n xs bt l m := hC.keep hK1 (by simpa using hA.c.symm) (by simpa using hA.m.symm) (by simpa using hA.p.symm) (by simpa using hA.t.symm)
  have HAP : Hid (Ap bd bc bm bp bt) := hA
  obtain ⟨k, hk⟩ : ∃ k, k = pc4 c := ⟨_, rfl⟩
  rw [← hk] at hD1 HP HF HR ⊢
  clear HZ hz hP hB0 hT hC hA h hK2 hk
  go_enter Try.func23, Try.ntmps23
  go_upto_region 2 with fail
  rw [← hg]
  clear hpc hpz hD0 hg
  generalize (w.alloc (.cells #[.int .i64 0, .int .i64 0, .bool false, .int .i64 0] 37)).setCell ⟨bd, 21, none⟩ (.int .u32 ((z + 4) % 4294967296)) = w1 at hD1 hop1 hK1 hT1 hC1 ⊢
  have HD : Hid (DoAt w1 bd bc 17 a b i k s) := hD1
  have HC : Hid (CpuAt w1 bc bm bp n xs bt l m) := hC1
  have HT : Hid (w1.there g 0 4) := hT1
  have HK : Hid (But [bd, bt, bp] w w1) := hK1.wider (by simp)
  clear hD1 hC1 hT1 hK1 hup
  go_wp2_with fail
  refine (storeByte_c bd bc bm bp n xs bt l m 17 a b i k s _ HD.out HC.out HAP.out hm t1 t2 t3 t4 f q HF.out).mono ?_
  rintro e w2 ⟨m', rfl, hm', h2, hC2, k2⟩
  simp only [Tr.vs]
  rw [HR.out] at HP
  have HD2 : Hid (DoAt w2 bd bc 17 a b i (k) s) := by have h := h2; rw [selC_same] at h; exact h
  have HC2 : Hid (CpuAt w2 bc bm bp n (selC t1 (putW n xs f q (wth (getW n xs f q) (adr k b i % 4) (k.getD a 0 % 256))) xs) bt l m') := hC2
  have HM : Hid (m' ≤ m + 1) := hm'
  have HK2 : Hid (But [bd, bt, bp] w w2) := HK.out.trans k2
  have HT2 : Hid (w2.there g 0 4) := there_keep HT.out k2 (by simp; omega)
  clear h2 hC2 hm' k2
  go_wp2_with (first
    | (refine wpList_store_mid rfl 37 _ _ rfl g 0 #[.int .i64 t1, .int .i64 t2, .bool t3, .int .i64 t4] rfl rfl ?ht Try.sizeTrap (Tr.vs_all ⟨t1, t2, t3, t4⟩) ?_; case ht => exact HT2.out))
  refine bodyPost_ret (results_range1 rfl _ _ g 0 [.int .i64 t1, .int .i64 t2, .bool t3, .int .i64 t4] _ rfl (World.rangeAt_setCells_same _ _ _ _ HT2.out) Try.underlying37 rfl Try.sizeTrap) rfl ?_
  have hK : But [g] w2 (w2.setCells g 0 [.int .i64 t1, .int .i64 t2, .bool t3, .int .i64 t4]) := (But.refl _ _).setCells (by simp) _ _
  refine ⟨m', by rw [HP.out]; rfl, HM.out, by rw [HP.out]; exact HD2.out.keep hK (by simp; omega), by rw [HP.out]; exact HC2.out.keep hK (by simpa using hgt.1) (by simpa using hgt.2.1) (by simpa using hgt.2.2.1) (by simpa using hgt.2.2.2.1), ?_⟩
  exact but_fresh HK2.out hK (by have := HGS.out; simp; omega)
set_option maxHeartbeats 2000000 in
theorem do_divno (bd bc bm bp n : Nat) (xs : List Int) (bt : Nat) (l : List En) (m : Nat) (op : Int) (a b : Nat) (i : Int) (c : List Int) (s : Int) (w : World) (h : DoAt w bd bc op a b i c s) (hC : CpuAt w bc bm bp n xs bt l m) (hA : Ap bd bc bm bp bt) (hm : m < 4611686018427387904) (ho : op = 7) (hnb : (pc4 c).getD b 0 = 0) :
    Calls Try.prog 23 #[.pointer (some ⟨bd, 0, none⟩)] w fun e w' => ∃ m', e = .returned (.agg (doP n xs l s op a b i (pc4 c)).t.vs.toArray) ∧ m' ≤ m + 1 ∧ DoAt w' bd bc op a b i (doP n xs l s op a b i (pc4 c)).c s ∧ CpuAt w' bc bm bp n (doP n xs l s op a b i (pc4 c)).xs bt l m' ∧ But [bd, bt, bp] w w' := by
  subst ho
  obtain ⟨R, hP⟩ : ∃ R, doP n xs l s 7 a b i (pc4 c) = R := ⟨_, rfl⟩
  have HR : Hid (R = ⟨⟨4, 0, false, 0⟩, pc4 c, xs⟩) := by
    show R = _
    rw [← hP]
    exact if_pos hnb
  have HNB : Hid ((pc4 c).getD b 0 = 0) := hnb
  clear hnb
  obtain ⟨g, hg⟩ : ∃ g, g = w.heap.size := ⟨_, rfl⟩
  have hT := there_new w #[.int .i64 0, .int .i64 0, .bool false, .int .i64 0] 37 4 rfl
  have hB0 : But [] w (w.alloc (.cells #[.int .i64 0, .int .i64 0, .bool false, .int .i64 0] 37)) := (But.refl [] w).alloc _
  have HGS : Hid (w.heap.size ≤ g) := by show _ ≤ g; omega
  have hgt : ¬ bc = g ∧ ¬ bm = g ∧ ¬ bp = g ∧ ¬ bt = g ∧ ¬ bd = g := by have := hC.lt; have := h.lt; omega
  have HP : Hid (doP n xs l s 7 a b i (pc4 c) = R) := hP
  have hD0 := h.keep hB0 (by simp)
  obtain ⟨hpc, hpz⟩ := hD0.reg 16 (by omega)
  have hup := h.u 16
  obtain ⟨z, hz⟩ : ∃ z, z = c.getD 16 0 := ⟨_, rfl⟩
  rw [← hz] at hpc hup
  have HZ : Hid (pc4 c = c.set 16 ((z + 4) % 4294967296)) := by show _ = _; rw [hz]; rfl
  have hD1 : DoAt ((w.alloc (.cells #[.int .i64 0, .int .i64 0, .bool false, .int .i64 0] 37)).setCell ⟨bd, 21, none⟩ (.int .u32 ((z + 4) % 4294967296))) bd bc 7 a b i (pc4 c) s := by
    rw [HZ.out]
    exact hD0.set 16 (by omega) _ (by omega) (by omega)
  have hop1 : ((w.alloc (.cells #[.int .i64 0, .int .i64 0, .bool false, .int .i64 0] 37)).setCell ⟨bd, 21, none⟩ (.int .u32 ((z + 4) % 4294967296))).cell? ⟨bd, 1, none⟩ = some (.int .i64 7) := hD1.op1
  have hK1 : But [bd] w ((w.alloc (.cells #[.int .i64 0, .int .i64 0, .bool false, .int .i64 0] 37)).setCell ⟨bd, 21, none⟩ (.int .u32 ((z + 4) % 4294967296))) := (hB0.any [bd]).setCell (by simp) _
  have hK2 : But [bd] (w.alloc (.cells #[.int .i64 0, .int .i64 0, .bool false, .int .i64 0] 37)) ((w.alloc (.cells #[.int .i64 0, .int .i64 0, .bool false, .int .i64 0] 37)).setCell ⟨bd, 21, none⟩ (.int .u32 ((z + 4) % 4294967296))) := (But.refl [bd] _).setCell (by simp) _
  rw [← hg] at hT
  have hT1 := there_keep hT hK2 (by simp; omega)
  have hC1 : CpuAt ((w.alloc (.cells #[.int .i64 0, .int .i64 0, .bool false, .int .i64 0] 37)).setCell ⟨bd, 21, none⟩ (.int .u32 ((z + 4) % 4294967296))) bc bm bp n xs bt l m := hC.keep hK1 (by simpa using hA.c.symm) (by simpa using hA.m.symm) (by simpa using hA.p.symm) (by simpa using hA.t.symm)
  have HAP : Hid (Ap bd bc bm bp bt) := hA
  obtain ⟨k, hk⟩ : ∃ k, k = pc4 c := ⟨_, rfl⟩
  rw [← hk] at hD1 HP HR HNB ⊢
  clear HZ hz hP hB0 hT hC hA h hK2 hk
  go_enter Try.func23, Try.ntmps23
  go_upto_region 2 with fail
  rw [← hg]
  clear hpc hpz hD0 hg
  generalize (w.alloc (.cells #[.int .i64 0, .int .i64 0, .bool false, .int .i64 0] 37)).setCell ⟨bd, 21, none⟩ (.int .u32 ((z + 4) % 4294967296)) = w1 at hD1 hop1 hK1 hT1 hC1 ⊢
  have HD : Hid (DoAt w1 bd bc 7 a b i k s) := hD1
  have HC : Hid (CpuAt w1 bc bm bp n xs bt l m) := hC1
  have HT : Hid (w1.there g 0 4) := hT1
  have HK : Hid (But [bd, bt, bp] w w1) := hK1.wider (by simp)
  clear hD1 hC1 hT1 hK1 hup
  go_wp2_with fail
  refine (divide_no bd bc 7 a b i k s _ HD.out HNB.out).mono ?_
  rintro e w2 ⟨rfl, h2, k2⟩
  rw [HR.out] at HP
  simp only [Tr.vs]
  have HD2 : Hid (DoAt w2 bd bc 7 a b i (k) s) := h2
  have HC2 : Hid (CpuAt w2 bc bm bp n xs bt l m) := HC.out.keep k2 (by simpa using HAP.out.c.symm) (by simpa using HAP.out.m.symm) (by simpa using HAP.out.p.symm) (by simpa using HAP.out.t.symm)
  have HM : Hid (m ≤ m + 1) := Nat.le_succ m
  have HK2 : Hid (But [bd, bt, bp] w w2) := HK.out.trans (k2.wider (by simp))
  have HT2 : Hid (w2.there g 0 4) := there_keep HT.out k2 (by simp; omega)
  clear h2 k2
  go_wp2_with (first
    | (refine wpList_store_mid rfl 37 _ _ rfl g 0 #[.int .i64 4, .int .i64 0, .bool false, .int .i64 0] rfl rfl ?ht Try.sizeTrap (Tr.vs_all ⟨4, 0, false, 0⟩) ?_; case ht => exact HT2.out))
  refine bodyPost_ret (results_range1 rfl _ _ g 0 [.int .i64 4, .int .i64 0, .bool false, .int .i64 0] _ rfl (World.rangeAt_setCells_same _ _ _ _ HT2.out) Try.underlying37 rfl Try.sizeTrap) rfl ?_
  have hK : But [g] w2 (w2.setCells g 0 [.int .i64 4, .int .i64 0, .bool false, .int .i64 0]) := (But.refl _ _).setCells (by simp) _ _
  refine ⟨m, by rw [HP.out]; rfl, HM.out, by rw [HP.out]; exact HD2.out.keep hK (by simp; omega), by rw [HP.out]; exact HC2.out.keep hK (by simpa using hgt.1) (by simpa using hgt.2.1) (by simpa using hgt.2.2.1) (by simpa using hgt.2.2.2.1), ?_⟩
  exact but_fresh HK2.out hK (by have := HGS.out; simp; omega)
set_option maxHeartbeats 2000000 in
theorem do_div (bd bc bm bp n : Nat) (xs : List Int) (bt : Nat) (l : List En) (m : Nat) (op : Int) (a b : Nat) (i : Int) (c : List Int) (s : Int) (w : World) (h : DoAt w bd bc op a b i c s) (hC : CpuAt w bc bm bp n xs bt l m) (hA : Ap bd bc bm bp bt) (hm : m < 4611686018427387904) (ho : op = 7) (hnb : (pc4 c).getD b 0 ≠ 0) :
    Calls Try.prog 23 #[.pointer (some ⟨bd, 0, none⟩)] w fun e w' => ∃ m', e = .returned (.agg (doP n xs l s op a b i (pc4 c)).t.vs.toArray) ∧ m' ≤ m + 1 ∧ DoAt w' bd bc op a b i (doP n xs l s op a b i (pc4 c)).c s ∧ CpuAt w' bc bm bp n (doP n xs l s op a b i (pc4 c)).xs bt l m' ∧ But [bd, bt, bp] w w' := by
  subst ho
  obtain ⟨R, hP⟩ : ∃ R, doP n xs l s 7 a b i (pc4 c) = R := ⟨_, rfl⟩
  have HR : Hid (R = ⟨tr0, (pc4 c).set a ((pc4 c).getD a 0 / (pc4 c).getD b 0), xs⟩) := by
    show R = _
    rw [← hP]
    exact if_neg hnb
  have HNB : Hid ((pc4 c).getD b 0 ≠ 0) := hnb
  clear hnb
  obtain ⟨g, hg⟩ : ∃ g, g = w.heap.size := ⟨_, rfl⟩
  have hT := there_new w #[.int .i64 0, .int .i64 0, .bool false, .int .i64 0] 37 4 rfl
  have hB0 : But [] w (w.alloc (.cells #[.int .i64 0, .int .i64 0, .bool false, .int .i64 0] 37)) := (But.refl [] w).alloc _
  have HGS : Hid (w.heap.size ≤ g) := by show _ ≤ g; omega
  have hgt : ¬ bc = g ∧ ¬ bm = g ∧ ¬ bp = g ∧ ¬ bt = g ∧ ¬ bd = g := by have := hC.lt; have := h.lt; omega
  have HP : Hid (doP n xs l s 7 a b i (pc4 c) = R) := hP
  have hD0 := h.keep hB0 (by simp)
  obtain ⟨hpc, hpz⟩ := hD0.reg 16 (by omega)
  have hup := h.u 16
  obtain ⟨z, hz⟩ : ∃ z, z = c.getD 16 0 := ⟨_, rfl⟩
  rw [← hz] at hpc hup
  have HZ : Hid (pc4 c = c.set 16 ((z + 4) % 4294967296)) := by show _ = _; rw [hz]; rfl
  have hD1 : DoAt ((w.alloc (.cells #[.int .i64 0, .int .i64 0, .bool false, .int .i64 0] 37)).setCell ⟨bd, 21, none⟩ (.int .u32 ((z + 4) % 4294967296))) bd bc 7 a b i (pc4 c) s := by
    rw [HZ.out]
    exact hD0.set 16 (by omega) _ (by omega) (by omega)
  have hop1 : ((w.alloc (.cells #[.int .i64 0, .int .i64 0, .bool false, .int .i64 0] 37)).setCell ⟨bd, 21, none⟩ (.int .u32 ((z + 4) % 4294967296))).cell? ⟨bd, 1, none⟩ = some (.int .i64 7) := hD1.op1
  have hK1 : But [bd] w ((w.alloc (.cells #[.int .i64 0, .int .i64 0, .bool false, .int .i64 0] 37)).setCell ⟨bd, 21, none⟩ (.int .u32 ((z + 4) % 4294967296))) := (hB0.any [bd]).setCell (by simp) _
  have hK2 : But [bd] (w.alloc (.cells #[.int .i64 0, .int .i64 0, .bool false, .int .i64 0] 37)) ((w.alloc (.cells #[.int .i64 0, .int .i64 0, .bool false, .int .i64 0] 37)).setCell ⟨bd, 21, none⟩ (.int .u32 ((z + 4) % 4294967296))) := (But.refl [bd] _).setCell (by simp) _
  rw [← hg] at hT
  have hT1 := there_keep hT hK2 (by simp; omega)
  have hC1 : CpuAt ((w.alloc (.cells #[.int .i64 0, .int .i64 0, .bool false, .int .i64 0] 37)).setCell ⟨bd, 21, none⟩ (.int .u32 ((z + 4) % 4294967296))) bc bm bp n xs bt l m := hC.keep hK1 (by simpa using hA.c.symm) (by simpa using hA.m.symm) (by simpa using hA.p.symm) (by simpa using hA.t.symm)
  have HAP : Hid (Ap bd bc bm bp bt) := hA
  obtain ⟨k, hk⟩ : ∃ k, k = pc4 c := ⟨_, rfl⟩
  rw [← hk] at hD1 HP HR HNB ⊢
  clear HZ hz hP hB0 hT hC hA h hK2 hk
  go_enter Try.func23, Try.ntmps23
  go_upto_region 2 with fail
  rw [← hg]
  clear hpc hpz hD0 hg
  generalize (w.alloc (.cells #[.int .i64 0, .int .i64 0, .bool false, .int .i64 0] 37)).setCell ⟨bd, 21, none⟩ (.int .u32 ((z + 4) % 4294967296)) = w1 at hD1 hop1 hK1 hT1 hC1 ⊢
  have HD : Hid (DoAt w1 bd bc 7 a b i k s) := hD1
  have HC : Hid (CpuAt w1 bc bm bp n xs bt l m) := hC1
  have HT : Hid (w1.there g 0 4) := hT1
  have HK : Hid (But [bd, bt, bp] w w1) := hK1.wider (by simp)
  clear hD1 hC1 hT1 hK1 hup
  go_wp2_with fail
  refine (divide_c bd bc 7 a b i k s _ HD.out HNB.out).mono ?_
  rintro e w2 ⟨rfl, h2, k2⟩
  rw [HR.out] at HP
  simp only [Tr.vs, tr0]
  have HD2 : Hid (DoAt w2 bd bc 7 a b i (k.set a (k.getD a 0 / k.getD b 0)) s) := h2
  have HC2 : Hid (CpuAt w2 bc bm bp n xs bt l m) := HC.out.keep k2 (by simpa using HAP.out.c.symm) (by simpa using HAP.out.m.symm) (by simpa using HAP.out.p.symm) (by simpa using HAP.out.t.symm)
  have HM : Hid (m ≤ m + 1) := Nat.le_succ m
  have HK2 : Hid (But [bd, bt, bp] w w2) := HK.out.trans (k2.wider (by simp))
  have HT2 : Hid (w2.there g 0 4) := there_keep HT.out k2 (by simp; omega)
  clear h2 k2
  go_wp2_with (first
    | (refine wpList_store_mid rfl 37 _ _ rfl g 0 #[.int .i64 0, .int .i64 0, .bool false, .int .i64 0] rfl rfl ?ht Try.sizeTrap (Tr.vs_all ⟨0, 0, false, 0⟩) ?_; case ht => exact HT2.out))
  refine bodyPost_ret (results_range1 rfl _ _ g 0 [.int .i64 0, .int .i64 0, .bool false, .int .i64 0] _ rfl (World.rangeAt_setCells_same _ _ _ _ HT2.out) Try.underlying37 rfl Try.sizeTrap) rfl ?_
  have hK : But [g] w2 (w2.setCells g 0 [.int .i64 0, .int .i64 0, .bool false, .int .i64 0]) := (But.refl _ _).setCells (by simp) _ _
  refine ⟨m, by rw [HP.out]; rfl, HM.out, by rw [HP.out]; exact HD2.out.keep hK (by simp; omega), by rw [HP.out]; exact HC2.out.keep hK (by simpa using hgt.1) (by simpa using hgt.2.1) (by simpa using hgt.2.2.1) (by simpa using hgt.2.2.2.1), ?_⟩
  exact but_fresh HK2.out hK (by have := HGS.out; simp; omega)
set_option maxHeartbeats 2000000 in
theorem do_sys (bd bc bm bp n : Nat) (xs : List Int) (bt : Nat) (l : List En) (m : Nat) (op : Int) (a b : Nat) (i : Int) (c : List Int) (s : Int) (w : World) (h : DoAt w bd bc op a b i c s) (hC : CpuAt w bc bm bp n xs bt l m) (hA : Ap bd bc bm bp bt) (hm : m < 4611686018427387904) (ho : op = 24) :
    Calls Try.prog 23 #[.pointer (some ⟨bd, 0, none⟩)] w fun e w' => ∃ m', e = .returned (.agg (doP n xs l s op a b i (pc4 c)).t.vs.toArray) ∧ m' ≤ m + 1 ∧ DoAt w' bd bc op a b i (doP n xs l s op a b i (pc4 c)).c s ∧ CpuAt w' bc bm bp n (doP n xs l s op a b i (pc4 c)).xs bt l m' ∧ But [bd, bt, bp] w w' := by
  subst ho
  obtain ⟨R, hP⟩ : ∃ R, doP n xs l s 24 a b i (pc4 c) = R := ⟨_, rfl⟩
  have HR : Hid (R = ⟨⟨6, 0, false, i % 65536⟩, pc4 c, xs⟩) := by
    show R = _
    rw [← hP]
    rfl
  obtain ⟨g, hg⟩ : ∃ g, g = w.heap.size := ⟨_, rfl⟩
  have hT := there_new w #[.int .i64 0, .int .i64 0, .bool false, .int .i64 0] 37 4 rfl
  have hB0 : But [] w (w.alloc (.cells #[.int .i64 0, .int .i64 0, .bool false, .int .i64 0] 37)) := (But.refl [] w).alloc _
  have HGS : Hid (w.heap.size ≤ g) := by show _ ≤ g; omega
  have hgt : ¬ bc = g ∧ ¬ bm = g ∧ ¬ bp = g ∧ ¬ bt = g ∧ ¬ bd = g := by have := hC.lt; have := h.lt; omega
  have HP : Hid (doP n xs l s 24 a b i (pc4 c) = R) := hP
  have hD0 := h.keep hB0 (by simp)
  obtain ⟨hpc, hpz⟩ := hD0.reg 16 (by omega)
  have hup := h.u 16
  obtain ⟨z, hz⟩ : ∃ z, z = c.getD 16 0 := ⟨_, rfl⟩
  rw [← hz] at hpc hup
  have HZ : Hid (pc4 c = c.set 16 ((z + 4) % 4294967296)) := by show _ = _; rw [hz]; rfl
  have hD1 : DoAt ((w.alloc (.cells #[.int .i64 0, .int .i64 0, .bool false, .int .i64 0] 37)).setCell ⟨bd, 21, none⟩ (.int .u32 ((z + 4) % 4294967296))) bd bc 24 a b i (pc4 c) s := by
    rw [HZ.out]
    exact hD0.set 16 (by omega) _ (by omega) (by omega)
  have hop1 : ((w.alloc (.cells #[.int .i64 0, .int .i64 0, .bool false, .int .i64 0] 37)).setCell ⟨bd, 21, none⟩ (.int .u32 ((z + 4) % 4294967296))).cell? ⟨bd, 1, none⟩ = some (.int .i64 24) := hD1.op1
  have hK1 : But [bd] w ((w.alloc (.cells #[.int .i64 0, .int .i64 0, .bool false, .int .i64 0] 37)).setCell ⟨bd, 21, none⟩ (.int .u32 ((z + 4) % 4294967296))) := (hB0.any [bd]).setCell (by simp) _
  have hK2 : But [bd] (w.alloc (.cells #[.int .i64 0, .int .i64 0, .bool false, .int .i64 0] 37)) ((w.alloc (.cells #[.int .i64 0, .int .i64 0, .bool false, .int .i64 0] 37)).setCell ⟨bd, 21, none⟩ (.int .u32 ((z + 4) % 4294967296))) := (But.refl [bd] _).setCell (by simp) _
  rw [← hg] at hT
  have hT1 := there_keep hT hK2 (by simp; omega)
  have hC1 : CpuAt ((w.alloc (.cells #[.int .i64 0, .int .i64 0, .bool false, .int .i64 0] 37)).setCell ⟨bd, 21, none⟩ (.int .u32 ((z + 4) % 4294967296))) bc bm bp n xs bt l m := hC.keep hK1 (by simpa using hA.c.symm) (by simpa using hA.m.symm) (by simpa using hA.p.symm) (by simpa using hA.t.symm)
  have HAP : Hid (Ap bd bc bm bp bt) := hA
  obtain ⟨k, hk⟩ : ∃ k, k = pc4 c := ⟨_, rfl⟩
  rw [← hk] at hD1 HP HR ⊢
  clear HZ hz hP hB0 hT hC hA h hK2 hk
  go_enter Try.func23, Try.ntmps23
  go_upto_region 2 with fail
  rw [← hg]
  clear hpc hpz hD0 hg
  generalize (w.alloc (.cells #[.int .i64 0, .int .i64 0, .bool false, .int .i64 0] 37)).setCell ⟨bd, 21, none⟩ (.int .u32 ((z + 4) % 4294967296)) = w1 at hD1 hop1 hK1 hT1 hC1 ⊢
  have HD : Hid (DoAt w1 bd bc 24 a b i k s) := hD1
  have HC : Hid (CpuAt w1 bc bm bp n xs bt l m) := hC1
  have HT : Hid (w1.there g 0 4) := hT1
  have HK : Hid (But [bd, bt, bp] w w1) := hK1.wider (by simp)
  clear hD1 hC1 hT1 hK1 hup
  rw [HR.out] at HP
  have hi4 := HD.out.i4
  have hwu : IntKind.u16.wrap i = i % 65536 := by simp [IntKind.wrap, IntKind.bits, IntKind.signed]
  have hj0 : 0 ≤ i % 65536 := by omega
  have hj1 : i % 65536 < 65536 := by omega
  obtain ⟨j, hj⟩ : ∃ j, j = i % 65536 := ⟨_, rfl⟩
  rw [← hj] at hwu hj0 hj1 HP
  clear hj
  have HD2 : Hid (DoAt w1 bd bc 24 a b i k s) := HD.out
  have HC2 : Hid (CpuAt w1 bc bm bp n xs bt l m) := HC.out
  have HM : Hid (m ≤ m + 1) := Nat.le_succ m
  have HK2 : Hid (But [bd, bt, bp] w w1) := HK.out
  have HT2 : Hid (w1.there g 0 4) := HT.out
  go_wp2_with (first
    | (refine wpList_store_mid rfl 37 _ _ rfl g 0 #[.int .i64 6, .int .i64 0, .bool false, .int .i64 j] rfl rfl ?ht Try.sizeTrap (Tr.vs_all ⟨6, 0, false, j⟩) ?_; case ht => exact HT2.out))
  refine bodyPost_ret (results_range1 rfl _ _ g 0 [.int .i64 6, .int .i64 0, .bool false, .int .i64 j] _ rfl (World.rangeAt_setCells_same _ _ _ _ HT2.out) Try.underlying37 rfl Try.sizeTrap) rfl ?_
  have hK : But [g] w1 (w1.setCells g 0 [.int .i64 6, .int .i64 0, .bool false, .int .i64 j]) := (But.refl _ _).setCells (by simp) _ _
  refine ⟨m, by rw [HP.out]; rfl, HM.out, by rw [HP.out]; exact HD2.out.keep hK (by simp; omega), by rw [HP.out]; exact HC2.out.keep hK (by simpa using hgt.1) (by simpa using hgt.2.1) (by simpa using hgt.2.2.1) (by simpa using hgt.2.2.2.1), ?_⟩
  exact but_fresh HK2.out hK (by have := HGS.out; simp; omega)
set_option maxHeartbeats 2000000 in
theorem do_j18 (bd bc bm bp n : Nat) (xs : List Int) (bt : Nat) (l : List En) (m : Nat) (op : Int) (a b : Nat) (i : Int) (c : List Int) (s : Int) (w : World) (h : DoAt w bd bc op a b i c s) (hC : CpuAt w bc bm bp n xs bt l m) (hA : Ap bd bc bm bp bt) (hm : m < 4611686018427387904) (ho : op = 18) :
    Calls Try.prog 23 #[.pointer (some ⟨bd, 0, none⟩)] w fun e w' => ∃ m', e = .returned (.agg (doP n xs l s op a b i (pc4 c)).t.vs.toArray) ∧ m' ≤ m + 1 ∧ DoAt w' bd bc op a b i (doP n xs l s op a b i (pc4 c)).c s ∧ CpuAt w' bc bm bp n (doP n xs l s op a b i (pc4 c)).xs bt l m' ∧ But [bd, bt, bp] w w' := by
  subst ho
  obtain ⟨R, hP⟩ : ∃ R, doP n xs l s 18 a b i (pc4 c) = R := ⟨_, rfl⟩
  have HR : Hid (R = ⟨tr0, jmpC 18 a b i (pc4 c), xs⟩) := by
    show R = _
    rw [← hP]
    rfl
  obtain ⟨g, hg⟩ : ∃ g, g = w.heap.size := ⟨_, rfl⟩
  have hT := there_new w #[.int .i64 0, .int .i64 0, .bool false, .int .i64 0] 37 4 rfl
  have hB0 : But [] w (w.alloc (.cells #[.int .i64 0, .int .i64 0, .bool false, .int .i64 0] 37)) := (But.refl [] w).alloc _
  have HGS : Hid (w.heap.size ≤ g) := by show _ ≤ g; omega
  have hgt : ¬ bc = g ∧ ¬ bm = g ∧ ¬ bp = g ∧ ¬ bt = g ∧ ¬ bd = g := by have := hC.lt; have := h.lt; omega
  have HP : Hid (doP n xs l s 18 a b i (pc4 c) = R) := hP
  have hD0 := h.keep hB0 (by simp)
  obtain ⟨hpc, hpz⟩ := hD0.reg 16 (by omega)
  have hup := h.u 16
  obtain ⟨z, hz⟩ : ∃ z, z = c.getD 16 0 := ⟨_, rfl⟩
  rw [← hz] at hpc hup
  have HZ : Hid (pc4 c = c.set 16 ((z + 4) % 4294967296)) := by show _ = _; rw [hz]; rfl
  have hD1 : DoAt ((w.alloc (.cells #[.int .i64 0, .int .i64 0, .bool false, .int .i64 0] 37)).setCell ⟨bd, 21, none⟩ (.int .u32 ((z + 4) % 4294967296))) bd bc 18 a b i (pc4 c) s := by
    rw [HZ.out]
    exact hD0.set 16 (by omega) _ (by omega) (by omega)
  have hop1 : ((w.alloc (.cells #[.int .i64 0, .int .i64 0, .bool false, .int .i64 0] 37)).setCell ⟨bd, 21, none⟩ (.int .u32 ((z + 4) % 4294967296))).cell? ⟨bd, 1, none⟩ = some (.int .i64 18) := hD1.op1
  have hK1 : But [bd] w ((w.alloc (.cells #[.int .i64 0, .int .i64 0, .bool false, .int .i64 0] 37)).setCell ⟨bd, 21, none⟩ (.int .u32 ((z + 4) % 4294967296))) := (hB0.any [bd]).setCell (by simp) _
  have hK2 : But [bd] (w.alloc (.cells #[.int .i64 0, .int .i64 0, .bool false, .int .i64 0] 37)) ((w.alloc (.cells #[.int .i64 0, .int .i64 0, .bool false, .int .i64 0] 37)).setCell ⟨bd, 21, none⟩ (.int .u32 ((z + 4) % 4294967296))) := (But.refl [bd] _).setCell (by simp) _
  rw [← hg] at hT
  have hT1 := there_keep hT hK2 (by simp; omega)
  have hC1 : CpuAt ((w.alloc (.cells #[.int .i64 0, .int .i64 0, .bool false, .int .i64 0] 37)).setCell ⟨bd, 21, none⟩ (.int .u32 ((z + 4) % 4294967296))) bc bm bp n xs bt l m := hC.keep hK1 (by simpa using hA.c.symm) (by simpa using hA.m.symm) (by simpa using hA.p.symm) (by simpa using hA.t.symm)
  have HAP : Hid (Ap bd bc bm bp bt) := hA
  obtain ⟨k, hk⟩ : ∃ k, k = pc4 c := ⟨_, rfl⟩
  rw [← hk] at hD1 HP HR ⊢
  clear HZ hz hP hB0 hT hC hA h hK2 hk
  go_enter Try.func23, Try.ntmps23
  go_upto_region 2 with fail
  rw [← hg]
  clear hpc hpz hD0 hg
  generalize (w.alloc (.cells #[.int .i64 0, .int .i64 0, .bool false, .int .i64 0] 37)).setCell ⟨bd, 21, none⟩ (.int .u32 ((z + 4) % 4294967296)) = w1 at hD1 hop1 hK1 hT1 hC1 ⊢
  have HD : Hid (DoAt w1 bd bc 18 a b i k s) := hD1
  have HC : Hid (CpuAt w1 bc bm bp n xs bt l m) := hC1
  have HT : Hid (w1.there g 0 4) := hT1
  have HK : Hid (But [bd, bt, bp] w w1) := hK1.wider (by simp)
  clear hD1 hC1 hT1 hK1 hup
  go_wp2_with fail
  refine (jump_c bd bc 18 a b i k s _ HD.out (by omega)).mono ?_
  rintro e w2 ⟨rfl, h2, k2⟩
  rw [HR.out] at HP
  have HD2 : Hid (DoAt w2 bd bc 18 a b i (jmpC 18 a b i k) s) := h2
  have HC2 : Hid (CpuAt w2 bc bm bp n xs bt l m) := HC.out.keep k2 (by simpa using HAP.out.c.symm) (by simpa using HAP.out.m.symm) (by simpa using HAP.out.p.symm) (by simpa using HAP.out.t.symm)
  have HM : Hid (m ≤ m + 1) := Nat.le_succ m
  have HK2 : Hid (But [bd, bt, bp] w w2) := HK.out.trans (k2.wider (by simp))
  have HT2 : Hid (w2.there g 0 4) := there_keep HT.out k2 (by simp; omega)
  clear h2 k2
  go_wp2_with (first
    | (refine wpList_store_mid rfl 37 _ _ rfl g 0 #[.int .i64 0, .int .i64 0, .bool false, .int .i64 0] rfl rfl ?ht Try.sizeTrap (Tr.vs_all ⟨0, 0, false, 0⟩) ?_; case ht => exact HT2.out))
  refine bodyPost_ret (results_range1 rfl _ _ g 0 [.int .i64 0, .int .i64 0, .bool false, .int .i64 0] _ rfl (World.rangeAt_setCells_same _ _ _ _ HT2.out) Try.underlying37 rfl Try.sizeTrap) rfl ?_
  have hK : But [g] w2 (w2.setCells g 0 [.int .i64 0, .int .i64 0, .bool false, .int .i64 0]) := (But.refl _ _).setCells (by simp) _ _
  refine ⟨m, by rw [HP.out]; rfl, HM.out, by rw [HP.out]; exact HD2.out.keep hK (by simp; omega), by rw [HP.out]; exact HC2.out.keep hK (by simpa using hgt.1) (by simpa using hgt.2.1) (by simpa using hgt.2.2.1) (by simpa using hgt.2.2.2.1), ?_⟩
  exact but_fresh HK2.out hK (by have := HGS.out; simp; omega)
set_option maxHeartbeats 2000000 in
theorem do_j19 (bd bc bm bp n : Nat) (xs : List Int) (bt : Nat) (l : List En) (m : Nat) (op : Int) (a b : Nat) (i : Int) (c : List Int) (s : Int) (w : World) (h : DoAt w bd bc op a b i c s) (hC : CpuAt w bc bm bp n xs bt l m) (hA : Ap bd bc bm bp bt) (hm : m < 4611686018427387904) (ho : op = 19) :
    Calls Try.prog 23 #[.pointer (some ⟨bd, 0, none⟩)] w fun e w' => ∃ m', e = .returned (.agg (doP n xs l s op a b i (pc4 c)).t.vs.toArray) ∧ m' ≤ m + 1 ∧ DoAt w' bd bc op a b i (doP n xs l s op a b i (pc4 c)).c s ∧ CpuAt w' bc bm bp n (doP n xs l s op a b i (pc4 c)).xs bt l m' ∧ But [bd, bt, bp] w w' := by
  subst ho
  obtain ⟨R, hP⟩ : ∃ R, doP n xs l s 19 a b i (pc4 c) = R := ⟨_, rfl⟩
  have HR : Hid (R = ⟨tr0, jmpC 19 a b i (pc4 c), xs⟩) := by
    show R = _
    rw [← hP]
    rfl
  obtain ⟨g, hg⟩ : ∃ g, g = w.heap.size := ⟨_, rfl⟩
  have hT := there_new w #[.int .i64 0, .int .i64 0, .bool false, .int .i64 0] 37 4 rfl
  have hB0 : But [] w (w.alloc (.cells #[.int .i64 0, .int .i64 0, .bool false, .int .i64 0] 37)) := (But.refl [] w).alloc _
  have HGS : Hid (w.heap.size ≤ g) := by show _ ≤ g; omega
  have hgt : ¬ bc = g ∧ ¬ bm = g ∧ ¬ bp = g ∧ ¬ bt = g ∧ ¬ bd = g := by have := hC.lt; have := h.lt; omega
  have HP : Hid (doP n xs l s 19 a b i (pc4 c) = R) := hP
  have hD0 := h.keep hB0 (by simp)
  obtain ⟨hpc, hpz⟩ := hD0.reg 16 (by omega)
  have hup := h.u 16
  obtain ⟨z, hz⟩ : ∃ z, z = c.getD 16 0 := ⟨_, rfl⟩
  rw [← hz] at hpc hup
  have HZ : Hid (pc4 c = c.set 16 ((z + 4) % 4294967296)) := by show _ = _; rw [hz]; rfl
  have hD1 : DoAt ((w.alloc (.cells #[.int .i64 0, .int .i64 0, .bool false, .int .i64 0] 37)).setCell ⟨bd, 21, none⟩ (.int .u32 ((z + 4) % 4294967296))) bd bc 19 a b i (pc4 c) s := by
    rw [HZ.out]
    exact hD0.set 16 (by omega) _ (by omega) (by omega)
  have hop1 : ((w.alloc (.cells #[.int .i64 0, .int .i64 0, .bool false, .int .i64 0] 37)).setCell ⟨bd, 21, none⟩ (.int .u32 ((z + 4) % 4294967296))).cell? ⟨bd, 1, none⟩ = some (.int .i64 19) := hD1.op1
  have hK1 : But [bd] w ((w.alloc (.cells #[.int .i64 0, .int .i64 0, .bool false, .int .i64 0] 37)).setCell ⟨bd, 21, none⟩ (.int .u32 ((z + 4) % 4294967296))) := (hB0.any [bd]).setCell (by simp) _
  have hK2 : But [bd] (w.alloc (.cells #[.int .i64 0, .int .i64 0, .bool false, .int .i64 0] 37)) ((w.alloc (.cells #[.int .i64 0, .int .i64 0, .bool false, .int .i64 0] 37)).setCell ⟨bd, 21, none⟩ (.int .u32 ((z + 4) % 4294967296))) := (But.refl [bd] _).setCell (by simp) _
  rw [← hg] at hT
  have hT1 := there_keep hT hK2 (by simp; omega)
  have hC1 : CpuAt ((w.alloc (.cells #[.int .i64 0, .int .i64 0, .bool false, .int .i64 0] 37)).setCell ⟨bd, 21, none⟩ (.int .u32 ((z + 4) % 4294967296))) bc bm bp n xs bt l m := hC.keep hK1 (by simpa using hA.c.symm) (by simpa using hA.m.symm) (by simpa using hA.p.symm) (by simpa using hA.t.symm)
  have HAP : Hid (Ap bd bc bm bp bt) := hA
  obtain ⟨k, hk⟩ : ∃ k, k = pc4 c := ⟨_, rfl⟩
  rw [← hk] at hD1 HP HR ⊢
  clear HZ hz hP hB0 hT hC hA h hK2 hk
  go_enter Try.func23, Try.ntmps23
  go_upto_region 2 with fail
  rw [← hg]
  clear hpc hpz hD0 hg
  generalize (w.alloc (.cells #[.int .i64 0, .int .i64 0, .bool false, .int .i64 0] 37)).setCell ⟨bd, 21, none⟩ (.int .u32 ((z + 4) % 4294967296)) = w1 at hD1 hop1 hK1 hT1 hC1 ⊢
  have HD : Hid (DoAt w1 bd bc 19 a b i k s) := hD1
  have HC : Hid (CpuAt w1 bc bm bp n xs bt l m) := hC1
  have HT : Hid (w1.there g 0 4) := hT1
  have HK : Hid (But [bd, bt, bp] w w1) := hK1.wider (by simp)
  clear hD1 hC1 hT1 hK1 hup
  go_wp2_with fail
  refine (jump_c bd bc 19 a b i k s _ HD.out (by omega)).mono ?_
  rintro e w2 ⟨rfl, h2, k2⟩
  rw [HR.out] at HP
  have HD2 : Hid (DoAt w2 bd bc 19 a b i (jmpC 19 a b i k) s) := h2
  have HC2 : Hid (CpuAt w2 bc bm bp n xs bt l m) := HC.out.keep k2 (by simpa using HAP.out.c.symm) (by simpa using HAP.out.m.symm) (by simpa using HAP.out.p.symm) (by simpa using HAP.out.t.symm)
  have HM : Hid (m ≤ m + 1) := Nat.le_succ m
  have HK2 : Hid (But [bd, bt, bp] w w2) := HK.out.trans (k2.wider (by simp))
  have HT2 : Hid (w2.there g 0 4) := there_keep HT.out k2 (by simp; omega)
  clear h2 k2
  go_wp2_with (first
    | (refine wpList_store_mid rfl 37 _ _ rfl g 0 #[.int .i64 0, .int .i64 0, .bool false, .int .i64 0] rfl rfl ?ht Try.sizeTrap (Tr.vs_all ⟨0, 0, false, 0⟩) ?_; case ht => exact HT2.out))
  refine bodyPost_ret (results_range1 rfl _ _ g 0 [.int .i64 0, .int .i64 0, .bool false, .int .i64 0] _ rfl (World.rangeAt_setCells_same _ _ _ _ HT2.out) Try.underlying37 rfl Try.sizeTrap) rfl ?_
  have hK : But [g] w2 (w2.setCells g 0 [.int .i64 0, .int .i64 0, .bool false, .int .i64 0]) := (But.refl _ _).setCells (by simp) _ _
  refine ⟨m, by rw [HP.out]; rfl, HM.out, by rw [HP.out]; exact HD2.out.keep hK (by simp; omega), by rw [HP.out]; exact HC2.out.keep hK (by simpa using hgt.1) (by simpa using hgt.2.1) (by simpa using hgt.2.2.1) (by simpa using hgt.2.2.2.1), ?_⟩
  exact but_fresh HK2.out hK (by have := HGS.out; simp; omega)
set_option maxHeartbeats 2000000 in
theorem do_j20 (bd bc bm bp n : Nat) (xs : List Int) (bt : Nat) (l : List En) (m : Nat) (op : Int) (a b : Nat) (i : Int) (c : List Int) (s : Int) (w : World) (h : DoAt w bd bc op a b i c s) (hC : CpuAt w bc bm bp n xs bt l m) (hA : Ap bd bc bm bp bt) (hm : m < 4611686018427387904) (ho : op = 20) :
    Calls Try.prog 23 #[.pointer (some ⟨bd, 0, none⟩)] w fun e w' => ∃ m', e = .returned (.agg (doP n xs l s op a b i (pc4 c)).t.vs.toArray) ∧ m' ≤ m + 1 ∧ DoAt w' bd bc op a b i (doP n xs l s op a b i (pc4 c)).c s ∧ CpuAt w' bc bm bp n (doP n xs l s op a b i (pc4 c)).xs bt l m' ∧ But [bd, bt, bp] w w' := by
  subst ho
  obtain ⟨R, hP⟩ : ∃ R, doP n xs l s 20 a b i (pc4 c) = R := ⟨_, rfl⟩
  have HR : Hid (R = ⟨tr0, jmpC 20 a b i (pc4 c), xs⟩) := by
    show R = _
    rw [← hP]
    rfl
  obtain ⟨g, hg⟩ : ∃ g, g = w.heap.size := ⟨_, rfl⟩
  have hT := there_new w #[.int .i64 0, .int .i64 0, .bool false, .int .i64 0] 37 4 rfl
  have hB0 : But [] w (w.alloc (.cells #[.int .i64 0, .int .i64 0, .bool false, .int .i64 0] 37)) := (But.refl [] w).alloc _
  have HGS : Hid (w.heap.size ≤ g) := by show _ ≤ g; omega
  have hgt : ¬ bc = g ∧ ¬ bm = g ∧ ¬ bp = g ∧ ¬ bt = g ∧ ¬ bd = g := by have := hC.lt; have := h.lt; omega
  have HP : Hid (doP n xs l s 20 a b i (pc4 c) = R) := hP
  have hD0 := h.keep hB0 (by simp)
  obtain ⟨hpc, hpz⟩ := hD0.reg 16 (by omega)
  have hup := h.u 16
  obtain ⟨z, hz⟩ : ∃ z, z = c.getD 16 0 := ⟨_, rfl⟩
  rw [← hz] at hpc hup
  have HZ : Hid (pc4 c = c.set 16 ((z + 4) % 4294967296)) := by show _ = _; rw [hz]; rfl
  have hD1 : DoAt ((w.alloc (.cells #[.int .i64 0, .int .i64 0, .bool false, .int .i64 0] 37)).setCell ⟨bd, 21, none⟩ (.int .u32 ((z + 4) % 4294967296))) bd bc 20 a b i (pc4 c) s := by
    rw [HZ.out]
    exact hD0.set 16 (by omega) _ (by omega) (by omega)
  have hop1 : ((w.alloc (.cells #[.int .i64 0, .int .i64 0, .bool false, .int .i64 0] 37)).setCell ⟨bd, 21, none⟩ (.int .u32 ((z + 4) % 4294967296))).cell? ⟨bd, 1, none⟩ = some (.int .i64 20) := hD1.op1
  have hK1 : But [bd] w ((w.alloc (.cells #[.int .i64 0, .int .i64 0, .bool false, .int .i64 0] 37)).setCell ⟨bd, 21, none⟩ (.int .u32 ((z + 4) % 4294967296))) := (hB0.any [bd]).setCell (by simp) _
  have hK2 : But [bd] (w.alloc (.cells #[.int .i64 0, .int .i64 0, .bool false, .int .i64 0] 37)) ((w.alloc (.cells #[.int .i64 0, .int .i64 0, .bool false, .int .i64 0] 37)).setCell ⟨bd, 21, none⟩ (.int .u32 ((z + 4) % 4294967296))) := (But.refl [bd] _).setCell (by simp) _
  rw [← hg] at hT
  have hT1 := there_keep hT hK2 (by simp; omega)
  have hC1 : CpuAt ((w.alloc (.cells #[.int .i64 0, .int .i64 0, .bool false, .int .i64 0] 37)).setCell ⟨bd, 21, none⟩ (.int .u32 ((z + 4) % 4294967296))) bc bm bp n xs bt l m := hC.keep hK1 (by simpa using hA.c.symm) (by simpa using hA.m.symm) (by simpa using hA.p.symm) (by simpa using hA.t.symm)
  have HAP : Hid (Ap bd bc bm bp bt) := hA
  obtain ⟨k, hk⟩ : ∃ k, k = pc4 c := ⟨_, rfl⟩
  rw [← hk] at hD1 HP HR ⊢
  clear HZ hz hP hB0 hT hC hA h hK2 hk
  go_enter Try.func23, Try.ntmps23
  go_upto_region 2 with fail
  rw [← hg]
  clear hpc hpz hD0 hg
  generalize (w.alloc (.cells #[.int .i64 0, .int .i64 0, .bool false, .int .i64 0] 37)).setCell ⟨bd, 21, none⟩ (.int .u32 ((z + 4) % 4294967296)) = w1 at hD1 hop1 hK1 hT1 hC1 ⊢
  have HD : Hid (DoAt w1 bd bc 20 a b i k s) := hD1
  have HC : Hid (CpuAt w1 bc bm bp n xs bt l m) := hC1
  have HT : Hid (w1.there g 0 4) := hT1
  have HK : Hid (But [bd, bt, bp] w w1) := hK1.wider (by simp)
  clear hD1 hC1 hT1 hK1 hup
  go_wp2_with fail
  refine (jump_c bd bc 20 a b i k s _ HD.out (by omega)).mono ?_
  rintro e w2 ⟨rfl, h2, k2⟩
  rw [HR.out] at HP
  have HD2 : Hid (DoAt w2 bd bc 20 a b i (jmpC 20 a b i k) s) := h2
  have HC2 : Hid (CpuAt w2 bc bm bp n xs bt l m) := HC.out.keep k2 (by simpa using HAP.out.c.symm) (by simpa using HAP.out.m.symm) (by simpa using HAP.out.p.symm) (by simpa using HAP.out.t.symm)
  have HM : Hid (m ≤ m + 1) := Nat.le_succ m
  have HK2 : Hid (But [bd, bt, bp] w w2) := HK.out.trans (k2.wider (by simp))
  have HT2 : Hid (w2.there g 0 4) := there_keep HT.out k2 (by simp; omega)
  clear h2 k2
  go_wp2_with (first
    | (refine wpList_store_mid rfl 37 _ _ rfl g 0 #[.int .i64 0, .int .i64 0, .bool false, .int .i64 0] rfl rfl ?ht Try.sizeTrap (Tr.vs_all ⟨0, 0, false, 0⟩) ?_; case ht => exact HT2.out))
  refine bodyPost_ret (results_range1 rfl _ _ g 0 [.int .i64 0, .int .i64 0, .bool false, .int .i64 0] _ rfl (World.rangeAt_setCells_same _ _ _ _ HT2.out) Try.underlying37 rfl Try.sizeTrap) rfl ?_
  have hK : But [g] w2 (w2.setCells g 0 [.int .i64 0, .int .i64 0, .bool false, .int .i64 0]) := (But.refl _ _).setCells (by simp) _ _
  refine ⟨m, by rw [HP.out]; rfl, HM.out, by rw [HP.out]; exact HD2.out.keep hK (by simp; omega), by rw [HP.out]; exact HC2.out.keep hK (by simpa using hgt.1) (by simpa using hgt.2.1) (by simpa using hgt.2.2.1) (by simpa using hgt.2.2.2.1), ?_⟩
  exact but_fresh HK2.out hK (by have := HGS.out; simp; omega)
set_option maxHeartbeats 2000000 in
theorem do_j21 (bd bc bm bp n : Nat) (xs : List Int) (bt : Nat) (l : List En) (m : Nat) (op : Int) (a b : Nat) (i : Int) (c : List Int) (s : Int) (w : World) (h : DoAt w bd bc op a b i c s) (hC : CpuAt w bc bm bp n xs bt l m) (hA : Ap bd bc bm bp bt) (hm : m < 4611686018427387904) (ho : op = 21) :
    Calls Try.prog 23 #[.pointer (some ⟨bd, 0, none⟩)] w fun e w' => ∃ m', e = .returned (.agg (doP n xs l s op a b i (pc4 c)).t.vs.toArray) ∧ m' ≤ m + 1 ∧ DoAt w' bd bc op a b i (doP n xs l s op a b i (pc4 c)).c s ∧ CpuAt w' bc bm bp n (doP n xs l s op a b i (pc4 c)).xs bt l m' ∧ But [bd, bt, bp] w w' := by
  subst ho
  obtain ⟨R, hP⟩ : ∃ R, doP n xs l s 21 a b i (pc4 c) = R := ⟨_, rfl⟩
  have HR : Hid (R = ⟨tr0, jmpC 21 a b i (pc4 c), xs⟩) := by
    show R = _
    rw [← hP]
    rfl
  obtain ⟨g, hg⟩ : ∃ g, g = w.heap.size := ⟨_, rfl⟩
  have hT := there_new w #[.int .i64 0, .int .i64 0, .bool false, .int .i64 0] 37 4 rfl
  have hB0 : But [] w (w.alloc (.cells #[.int .i64 0, .int .i64 0, .bool false, .int .i64 0] 37)) := (But.refl [] w).alloc _
  have HGS : Hid (w.heap.size ≤ g) := by show _ ≤ g; omega
  have hgt : ¬ bc = g ∧ ¬ bm = g ∧ ¬ bp = g ∧ ¬ bt = g ∧ ¬ bd = g := by have := hC.lt; have := h.lt; omega
  have HP : Hid (doP n xs l s 21 a b i (pc4 c) = R) := hP
  have hD0 := h.keep hB0 (by simp)
  obtain ⟨hpc, hpz⟩ := hD0.reg 16 (by omega)
  have hup := h.u 16
  obtain ⟨z, hz⟩ : ∃ z, z = c.getD 16 0 := ⟨_, rfl⟩
  rw [← hz] at hpc hup
  have HZ : Hid (pc4 c = c.set 16 ((z + 4) % 4294967296)) := by show _ = _; rw [hz]; rfl
  have hD1 : DoAt ((w.alloc (.cells #[.int .i64 0, .int .i64 0, .bool false, .int .i64 0] 37)).setCell ⟨bd, 21, none⟩ (.int .u32 ((z + 4) % 4294967296))) bd bc 21 a b i (pc4 c) s := by
    rw [HZ.out]
    exact hD0.set 16 (by omega) _ (by omega) (by omega)
  have hop1 : ((w.alloc (.cells #[.int .i64 0, .int .i64 0, .bool false, .int .i64 0] 37)).setCell ⟨bd, 21, none⟩ (.int .u32 ((z + 4) % 4294967296))).cell? ⟨bd, 1, none⟩ = some (.int .i64 21) := hD1.op1
  have hK1 : But [bd] w ((w.alloc (.cells #[.int .i64 0, .int .i64 0, .bool false, .int .i64 0] 37)).setCell ⟨bd, 21, none⟩ (.int .u32 ((z + 4) % 4294967296))) := (hB0.any [bd]).setCell (by simp) _
  have hK2 : But [bd] (w.alloc (.cells #[.int .i64 0, .int .i64 0, .bool false, .int .i64 0] 37)) ((w.alloc (.cells #[.int .i64 0, .int .i64 0, .bool false, .int .i64 0] 37)).setCell ⟨bd, 21, none⟩ (.int .u32 ((z + 4) % 4294967296))) := (But.refl [bd] _).setCell (by simp) _
  rw [← hg] at hT
  have hT1 := there_keep hT hK2 (by simp; omega)
  have hC1 : CpuAt ((w.alloc (.cells #[.int .i64 0, .int .i64 0, .bool false, .int .i64 0] 37)).setCell ⟨bd, 21, none⟩ (.int .u32 ((z + 4) % 4294967296))) bc bm bp n xs bt l m := hC.keep hK1 (by simpa using hA.c.symm) (by simpa using hA.m.symm) (by simpa using hA.p.symm) (by simpa using hA.t.symm)
  have HAP : Hid (Ap bd bc bm bp bt) := hA
  obtain ⟨k, hk⟩ : ∃ k, k = pc4 c := ⟨_, rfl⟩
  rw [← hk] at hD1 HP HR ⊢
  clear HZ hz hP hB0 hT hC hA h hK2 hk
  go_enter Try.func23, Try.ntmps23
  go_upto_region 2 with fail
  rw [← hg]
  clear hpc hpz hD0 hg
  generalize (w.alloc (.cells #[.int .i64 0, .int .i64 0, .bool false, .int .i64 0] 37)).setCell ⟨bd, 21, none⟩ (.int .u32 ((z + 4) % 4294967296)) = w1 at hD1 hop1 hK1 hT1 hC1 ⊢
  have HD : Hid (DoAt w1 bd bc 21 a b i k s) := hD1
  have HC : Hid (CpuAt w1 bc bm bp n xs bt l m) := hC1
  have HT : Hid (w1.there g 0 4) := hT1
  have HK : Hid (But [bd, bt, bp] w w1) := hK1.wider (by simp)
  clear hD1 hC1 hT1 hK1 hup
  go_wp2_with fail
  refine (jump_c bd bc 21 a b i k s _ HD.out (by omega)).mono ?_
  rintro e w2 ⟨rfl, h2, k2⟩
  rw [HR.out] at HP
  have HD2 : Hid (DoAt w2 bd bc 21 a b i (jmpC 21 a b i k) s) := h2
  have HC2 : Hid (CpuAt w2 bc bm bp n xs bt l m) := HC.out.keep k2 (by simpa using HAP.out.c.symm) (by simpa using HAP.out.m.symm) (by simpa using HAP.out.p.symm) (by simpa using HAP.out.t.symm)
  have HM : Hid (m ≤ m + 1) := Nat.le_succ m
  have HK2 : Hid (But [bd, bt, bp] w w2) := HK.out.trans (k2.wider (by simp))
  have HT2 : Hid (w2.there g 0 4) := there_keep HT.out k2 (by simp; omega)
  clear h2 k2
  go_wp2_with (first
    | (refine wpList_store_mid rfl 37 _ _ rfl g 0 #[.int .i64 0, .int .i64 0, .bool false, .int .i64 0] rfl rfl ?ht Try.sizeTrap (Tr.vs_all ⟨0, 0, false, 0⟩) ?_; case ht => exact HT2.out))
  refine bodyPost_ret (results_range1 rfl _ _ g 0 [.int .i64 0, .int .i64 0, .bool false, .int .i64 0] _ rfl (World.rangeAt_setCells_same _ _ _ _ HT2.out) Try.underlying37 rfl Try.sizeTrap) rfl ?_
  have hK : But [g] w2 (w2.setCells g 0 [.int .i64 0, .int .i64 0, .bool false, .int .i64 0]) := (But.refl _ _).setCells (by simp) _ _
  refine ⟨m, by rw [HP.out]; rfl, HM.out, by rw [HP.out]; exact HD2.out.keep hK (by simp; omega), by rw [HP.out]; exact HC2.out.keep hK (by simpa using hgt.1) (by simpa using hgt.2.1) (by simpa using hgt.2.2.1) (by simpa using hgt.2.2.2.1), ?_⟩
  exact but_fresh HK2.out hK (by have := HGS.out; simp; omega)
set_option maxHeartbeats 2000000 in
theorem do_j22 (bd bc bm bp n : Nat) (xs : List Int) (bt : Nat) (l : List En) (m : Nat) (op : Int) (a b : Nat) (i : Int) (c : List Int) (s : Int) (w : World) (h : DoAt w bd bc op a b i c s) (hC : CpuAt w bc bm bp n xs bt l m) (hA : Ap bd bc bm bp bt) (hm : m < 4611686018427387904) (ho : op = 22) :
    Calls Try.prog 23 #[.pointer (some ⟨bd, 0, none⟩)] w fun e w' => ∃ m', e = .returned (.agg (doP n xs l s op a b i (pc4 c)).t.vs.toArray) ∧ m' ≤ m + 1 ∧ DoAt w' bd bc op a b i (doP n xs l s op a b i (pc4 c)).c s ∧ CpuAt w' bc bm bp n (doP n xs l s op a b i (pc4 c)).xs bt l m' ∧ But [bd, bt, bp] w w' := by
  subst ho
  obtain ⟨R, hP⟩ : ∃ R, doP n xs l s 22 a b i (pc4 c) = R := ⟨_, rfl⟩
  have HR : Hid (R = ⟨tr0, jmpC 22 a b i (pc4 c), xs⟩) := by
    show R = _
    rw [← hP]
    rfl
  obtain ⟨g, hg⟩ : ∃ g, g = w.heap.size := ⟨_, rfl⟩
  have hT := there_new w #[.int .i64 0, .int .i64 0, .bool false, .int .i64 0] 37 4 rfl
  have hB0 : But [] w (w.alloc (.cells #[.int .i64 0, .int .i64 0, .bool false, .int .i64 0] 37)) := (But.refl [] w).alloc _
  have HGS : Hid (w.heap.size ≤ g) := by show _ ≤ g; omega
  have hgt : ¬ bc = g ∧ ¬ bm = g ∧ ¬ bp = g ∧ ¬ bt = g ∧ ¬ bd = g := by have := hC.lt; have := h.lt; omega
  have HP : Hid (doP n xs l s 22 a b i (pc4 c) = R) := hP
  have hD0 := h.keep hB0 (by simp)
  obtain ⟨hpc, hpz⟩ := hD0.reg 16 (by omega)
  have hup := h.u 16
  obtain ⟨z, hz⟩ : ∃ z, z = c.getD 16 0 := ⟨_, rfl⟩
  rw [← hz] at hpc hup
  have HZ : Hid (pc4 c = c.set 16 ((z + 4) % 4294967296)) := by show _ = _; rw [hz]; rfl
  have hD1 : DoAt ((w.alloc (.cells #[.int .i64 0, .int .i64 0, .bool false, .int .i64 0] 37)).setCell ⟨bd, 21, none⟩ (.int .u32 ((z + 4) % 4294967296))) bd bc 22 a b i (pc4 c) s := by
    rw [HZ.out]
    exact hD0.set 16 (by omega) _ (by omega) (by omega)
  have hop1 : ((w.alloc (.cells #[.int .i64 0, .int .i64 0, .bool false, .int .i64 0] 37)).setCell ⟨bd, 21, none⟩ (.int .u32 ((z + 4) % 4294967296))).cell? ⟨bd, 1, none⟩ = some (.int .i64 22) := hD1.op1
  have hK1 : But [bd] w ((w.alloc (.cells #[.int .i64 0, .int .i64 0, .bool false, .int .i64 0] 37)).setCell ⟨bd, 21, none⟩ (.int .u32 ((z + 4) % 4294967296))) := (hB0.any [bd]).setCell (by simp) _
  have hK2 : But [bd] (w.alloc (.cells #[.int .i64 0, .int .i64 0, .bool false, .int .i64 0] 37)) ((w.alloc (.cells #[.int .i64 0, .int .i64 0, .bool false, .int .i64 0] 37)).setCell ⟨bd, 21, none⟩ (.int .u32 ((z + 4) % 4294967296))) := (But.refl [bd] _).setCell (by simp) _
  rw [← hg] at hT
  have hT1 := there_keep hT hK2 (by simp; omega)
  have hC1 : CpuAt ((w.alloc (.cells #[.int .i64 0, .int .i64 0, .bool false, .int .i64 0] 37)).setCell ⟨bd, 21, none⟩ (.int .u32 ((z + 4) % 4294967296))) bc bm bp n xs bt l m := hC.keep hK1 (by simpa using hA.c.symm) (by simpa using hA.m.symm) (by simpa using hA.p.symm) (by simpa using hA.t.symm)
  have HAP : Hid (Ap bd bc bm bp bt) := hA
  obtain ⟨k, hk⟩ : ∃ k, k = pc4 c := ⟨_, rfl⟩
  rw [← hk] at hD1 HP HR ⊢
  clear HZ hz hP hB0 hT hC hA h hK2 hk
  go_enter Try.func23, Try.ntmps23
  go_upto_region 2 with fail
  rw [← hg]
  clear hpc hpz hD0 hg
  generalize (w.alloc (.cells #[.int .i64 0, .int .i64 0, .bool false, .int .i64 0] 37)).setCell ⟨bd, 21, none⟩ (.int .u32 ((z + 4) % 4294967296)) = w1 at hD1 hop1 hK1 hT1 hC1 ⊢
  have HD : Hid (DoAt w1 bd bc 22 a b i k s) := hD1
  have HC : Hid (CpuAt w1 bc bm bp n xs bt l m) := hC1
  have HT : Hid (w1.there g 0 4) := hT1
  have HK : Hid (But [bd, bt, bp] w w1) := hK1.wider (by simp)
  clear hD1 hC1 hT1 hK1 hup
  go_wp2_with fail
  refine (jump_c bd bc 22 a b i k s _ HD.out (by omega)).mono ?_
  rintro e w2 ⟨rfl, h2, k2⟩
  rw [HR.out] at HP
  have HD2 : Hid (DoAt w2 bd bc 22 a b i (jmpC 22 a b i k) s) := h2
  have HC2 : Hid (CpuAt w2 bc bm bp n xs bt l m) := HC.out.keep k2 (by simpa using HAP.out.c.symm) (by simpa using HAP.out.m.symm) (by simpa using HAP.out.p.symm) (by simpa using HAP.out.t.symm)
  have HM : Hid (m ≤ m + 1) := Nat.le_succ m
  have HK2 : Hid (But [bd, bt, bp] w w2) := HK.out.trans (k2.wider (by simp))
  have HT2 : Hid (w2.there g 0 4) := there_keep HT.out k2 (by simp; omega)
  clear h2 k2
  go_wp2_with (first
    | (refine wpList_store_mid rfl 37 _ _ rfl g 0 #[.int .i64 0, .int .i64 0, .bool false, .int .i64 0] rfl rfl ?ht Try.sizeTrap (Tr.vs_all ⟨0, 0, false, 0⟩) ?_; case ht => exact HT2.out))
  refine bodyPost_ret (results_range1 rfl _ _ g 0 [.int .i64 0, .int .i64 0, .bool false, .int .i64 0] _ rfl (World.rangeAt_setCells_same _ _ _ _ HT2.out) Try.underlying37 rfl Try.sizeTrap) rfl ?_
  have hK : But [g] w2 (w2.setCells g 0 [.int .i64 0, .int .i64 0, .bool false, .int .i64 0]) := (But.refl _ _).setCells (by simp) _ _
  refine ⟨m, by rw [HP.out]; rfl, HM.out, by rw [HP.out]; exact HD2.out.keep hK (by simp; omega), by rw [HP.out]; exact HC2.out.keep hK (by simpa using hgt.1) (by simpa using hgt.2.1) (by simpa using hgt.2.2.1) (by simpa using hgt.2.2.2.1), ?_⟩
  exact but_fresh HK2.out hK (by have := HGS.out; simp; omega)
set_option maxHeartbeats 2000000 in
theorem do_j23 (bd bc bm bp n : Nat) (xs : List Int) (bt : Nat) (l : List En) (m : Nat) (op : Int) (a b : Nat) (i : Int) (c : List Int) (s : Int) (w : World) (h : DoAt w bd bc op a b i c s) (hC : CpuAt w bc bm bp n xs bt l m) (hA : Ap bd bc bm bp bt) (hm : m < 4611686018427387904) (ho : op = 23) :
    Calls Try.prog 23 #[.pointer (some ⟨bd, 0, none⟩)] w fun e w' => ∃ m', e = .returned (.agg (doP n xs l s op a b i (pc4 c)).t.vs.toArray) ∧ m' ≤ m + 1 ∧ DoAt w' bd bc op a b i (doP n xs l s op a b i (pc4 c)).c s ∧ CpuAt w' bc bm bp n (doP n xs l s op a b i (pc4 c)).xs bt l m' ∧ But [bd, bt, bp] w w' := by
  subst ho
  obtain ⟨R, hP⟩ : ∃ R, doP n xs l s 23 a b i (pc4 c) = R := ⟨_, rfl⟩
  have HR : Hid (R = ⟨tr0, jmpC 23 a b i (pc4 c), xs⟩) := by
    show R = _
    rw [← hP]
    rfl
  obtain ⟨g, hg⟩ : ∃ g, g = w.heap.size := ⟨_, rfl⟩
  have hT := there_new w #[.int .i64 0, .int .i64 0, .bool false, .int .i64 0] 37 4 rfl
  have hB0 : But [] w (w.alloc (.cells #[.int .i64 0, .int .i64 0, .bool false, .int .i64 0] 37)) := (But.refl [] w).alloc _
  have HGS : Hid (w.heap.size ≤ g) := by show _ ≤ g; omega
  have hgt : ¬ bc = g ∧ ¬ bm = g ∧ ¬ bp = g ∧ ¬ bt = g ∧ ¬ bd = g := by have := hC.lt; have := h.lt; omega
  have HP : Hid (doP n xs l s 23 a b i (pc4 c) = R) := hP
  have hD0 := h.keep hB0 (by simp)
  obtain ⟨hpc, hpz⟩ := hD0.reg 16 (by omega)
  have hup := h.u 16
  obtain ⟨z, hz⟩ : ∃ z, z = c.getD 16 0 := ⟨_, rfl⟩
  rw [← hz] at hpc hup
  have HZ : Hid (pc4 c = c.set 16 ((z + 4) % 4294967296)) := by show _ = _; rw [hz]; rfl
  have hD1 : DoAt ((w.alloc (.cells #[.int .i64 0, .int .i64 0, .bool false, .int .i64 0] 37)).setCell ⟨bd, 21, none⟩ (.int .u32 ((z + 4) % 4294967296))) bd bc 23 a b i (pc4 c) s := by
    rw [HZ.out]
    exact hD0.set 16 (by omega) _ (by omega) (by omega)
  have hop1 : ((w.alloc (.cells #[.int .i64 0, .int .i64 0, .bool false, .int .i64 0] 37)).setCell ⟨bd, 21, none⟩ (.int .u32 ((z + 4) % 4294967296))).cell? ⟨bd, 1, none⟩ = some (.int .i64 23) := hD1.op1
  have hK1 : But [bd] w ((w.alloc (.cells #[.int .i64 0, .int .i64 0, .bool false, .int .i64 0] 37)).setCell ⟨bd, 21, none⟩ (.int .u32 ((z + 4) % 4294967296))) := (hB0.any [bd]).setCell (by simp) _
  have hK2 : But [bd] (w.alloc (.cells #[.int .i64 0, .int .i64 0, .bool false, .int .i64 0] 37)) ((w.alloc (.cells #[.int .i64 0, .int .i64 0, .bool false, .int .i64 0] 37)).setCell ⟨bd, 21, none⟩ (.int .u32 ((z + 4) % 4294967296))) := (But.refl [bd] _).setCell (by simp) _
  rw [← hg] at hT
  have hT1 := there_keep hT hK2 (by simp; omega)
  have hC1 : CpuAt ((w.alloc (.cells #[.int .i64 0, .int .i64 0, .bool false, .int .i64 0] 37)).setCell ⟨bd, 21, none⟩ (.int .u32 ((z + 4) % 4294967296))) bc bm bp n xs bt l m := hC.keep hK1 (by simpa using hA.c.symm) (by simpa using hA.m.symm) (by simpa using hA.p.symm) (by simpa using hA.t.symm)
  have HAP : Hid (Ap bd bc bm bp bt) := hA
  obtain ⟨k, hk⟩ : ∃ k, k = pc4 c := ⟨_, rfl⟩
  rw [← hk] at hD1 HP HR ⊢
  clear HZ hz hP hB0 hT hC hA h hK2 hk
  go_enter Try.func23, Try.ntmps23
  go_upto_region 2 with fail
  rw [← hg]
  clear hpc hpz hD0 hg
  generalize (w.alloc (.cells #[.int .i64 0, .int .i64 0, .bool false, .int .i64 0] 37)).setCell ⟨bd, 21, none⟩ (.int .u32 ((z + 4) % 4294967296)) = w1 at hD1 hop1 hK1 hT1 hC1 ⊢
  have HD : Hid (DoAt w1 bd bc 23 a b i k s) := hD1
  have HC : Hid (CpuAt w1 bc bm bp n xs bt l m) := hC1
  have HT : Hid (w1.there g 0 4) := hT1
  have HK : Hid (But [bd, bt, bp] w w1) := hK1.wider (by simp)
  clear hD1 hC1 hT1 hK1 hup
  go_wp2_with fail
  refine (jump_c bd bc 23 a b i k s _ HD.out (by omega)).mono ?_
  rintro e w2 ⟨rfl, h2, k2⟩
  rw [HR.out] at HP
  have HD2 : Hid (DoAt w2 bd bc 23 a b i (jmpC 23 a b i k) s) := h2
  have HC2 : Hid (CpuAt w2 bc bm bp n xs bt l m) := HC.out.keep k2 (by simpa using HAP.out.c.symm) (by simpa using HAP.out.m.symm) (by simpa using HAP.out.p.symm) (by simpa using HAP.out.t.symm)
  have HM : Hid (m ≤ m + 1) := Nat.le_succ m
  have HK2 : Hid (But [bd, bt, bp] w w2) := HK.out.trans (k2.wider (by simp))
  have HT2 : Hid (w2.there g 0 4) := there_keep HT.out k2 (by simp; omega)
  clear h2 k2
  go_wp2_with (first
    | (refine wpList_store_mid rfl 37 _ _ rfl g 0 #[.int .i64 0, .int .i64 0, .bool false, .int .i64 0] rfl rfl ?ht Try.sizeTrap (Tr.vs_all ⟨0, 0, false, 0⟩) ?_; case ht => exact HT2.out))
  refine bodyPost_ret (results_range1 rfl _ _ g 0 [.int .i64 0, .int .i64 0, .bool false, .int .i64 0] _ rfl (World.rangeAt_setCells_same _ _ _ _ HT2.out) Try.underlying37 rfl Try.sizeTrap) rfl ?_
  have hK : But [g] w2 (w2.setCells g 0 [.int .i64 0, .int .i64 0, .bool false, .int .i64 0]) := (But.refl _ _).setCells (by simp) _ _
  refine ⟨m, by rw [HP.out]; rfl, HM.out, by rw [HP.out]; exact HD2.out.keep hK (by simp; omega), by rw [HP.out]; exact HC2.out.keep hK (by simpa using hgt.1) (by simpa using hgt.2.1) (by simpa using hgt.2.2.1) (by simpa using hgt.2.2.2.1), ?_⟩
  exact but_fresh HK2.out hK (by have := HGS.out; simp; omega)
set_option maxHeartbeats 4000000 in
theorem do_rk (bd bc bm bp n : Nat) (xs : List Int) (bt : Nat) (l : List En) (m : Nat) (op : Int) (a b : Nat) (i : Int) (c : List Int) (s : Int) (w : World) (h : DoAt w bd bc op a b i c s) (hC : CpuAt w bc bm bp n xs bt l m) (hA : Ap bd bc bm bp bt) (hm : m < 4611686018427387904) (ho : 1 ≤ op ∧ op ≤ 13) (ho7 : op ≠ 7) :
    Calls Try.prog 23 #[.pointer (some ⟨bd, 0, none⟩)] w fun e w' => ∃ m', e = .returned (.agg (doP n xs l s op a b i (pc4 c)).t.vs.toArray) ∧ m' ≤ m + 1 ∧ DoAt w' bd bc op a b i (doP n xs l s op a b i (pc4 c)).c s ∧ CpuAt w' bc bm bp n (doP n xs l s op a b i (pc4 c)).xs bt l m' ∧ But [bd, bt, bp] w w' := by
  obtain ⟨R, hP⟩ : ∃ R, doP n xs l s op a b i (pc4 c) = R := ⟨_, rfl⟩
  have HR : Hid (R = ⟨tr0, (pc4 c).set a (rkP op ((pc4 c).getD a 0) ((pc4 c).getD b 0) (i % 4294967296)), xs⟩) := by
    show R = _
    rw [← hP]
    unfold doP
    rw [if_neg (by omega), if_neg (by omega), if_neg (by omega), if_neg (by omega), if_neg (by omega), if_neg (by omega), if_neg (by omega)]
  obtain ⟨g, hg⟩ : ∃ g, g = w.heap.size := ⟨_, rfl⟩
  have hT := there_new w #[.int .i64 0, .int .i64 0, .bool false, .int .i64 0] 37 4 rfl
  have hB0 : But [] w (w.alloc (.cells #[.int .i64 0, .int .i64 0, .bool false, .int .i64 0] 37)) := (But.refl [] w).alloc _
  have HGS : Hid (w.heap.size ≤ g) := by show _ ≤ g; omega
  have hgt : ¬ bc = g ∧ ¬ bm = g ∧ ¬ bp = g ∧ ¬ bt = g ∧ ¬ bd = g := by have := hC.lt; have := h.lt; omega
  have HP : Hid (doP n xs l s op a b i (pc4 c) = R) := hP
  have hD0 := h.keep hB0 (by simp)
  obtain ⟨hpc, hpz⟩ := hD0.reg 16 (by omega)
  have hup := h.u 16
  obtain ⟨z, hz⟩ : ∃ z, z = c.getD 16 0 := ⟨_, rfl⟩
  rw [← hz] at hpc hup
  have HZ : Hid (pc4 c = c.set 16 ((z + 4) % 4294967296)) := by show _ = _; rw [hz]; rfl
  have hD1 : DoAt ((w.alloc (.cells #[.int .i64 0, .int .i64 0, .bool false, .int .i64 0] 37)).setCell ⟨bd, 21, none⟩ (.int .u32 ((z + 4) % 4294967296))) bd bc op a b i (pc4 c) s := by
    rw [HZ.out]
    exact hD0.set 16 (by omega) _ (by omega) (by omega)
  have hop1 : ((w.alloc (.cells #[.int .i64 0, .int .i64 0, .bool false, .int .i64 0] 37)).setCell ⟨bd, 21, none⟩ (.int .u32 ((z + 4) % 4294967296))).cell? ⟨bd, 1, none⟩ = some (.int .i64 op) := hD1.op1
  have hK1 : But [bd] w ((w.alloc (.cells #[.int .i64 0, .int .i64 0, .bool false, .int .i64 0] 37)).setCell ⟨bd, 21, none⟩ (.int .u32 ((z + 4) % 4294967296))) := (hB0.any [bd]).setCell (by simp) _
  have hK2 : But [bd] (w.alloc (.cells #[.int .i64 0, .int .i64 0, .bool false, .int .i64 0] 37)) ((w.alloc (.cells #[.int .i64 0, .int .i64 0, .bool false, .int .i64 0] 37)).setCell ⟨bd, 21, none⟩ (.int .u32 ((z + 4) % 4294967296))) := (But.refl [bd] _).setCell (by simp) _
  rw [← hg] at hT
  have hT1 := there_keep hT hK2 (by simp; omega)
  have hC1 : CpuAt ((w.alloc (.cells #[.int .i64 0, .int .i64 0, .bool false, .int .i64 0] 37)).setCell ⟨bd, 21, none⟩ (.int .u32 ((z + 4) % 4294967296))) bc bm bp n xs bt l m := hC.keep hK1 (by simpa using hA.c.symm) (by simpa using hA.m.symm) (by simpa using hA.p.symm) (by simpa using hA.t.symm)
  have HAP : Hid (Ap bd bc bm bp bt) := hA
  obtain ⟨k, hk⟩ : ∃ k, k = pc4 c := ⟨_, rfl⟩
  rw [← hk] at hD1 HP HR ⊢
  clear HZ hz hP hB0 hT hC hA h hK2 hk
  go_enter Try.func23, Try.ntmps23
  go_upto_region 2 with fail
  rw [← hg]
  clear hpc hpz hD0 hg
  generalize (w.alloc (.cells #[.int .i64 0, .int .i64 0, .bool false, .int .i64 0] 37)).setCell ⟨bd, 21, none⟩ (.int .u32 ((z + 4) % 4294967296)) = w1 at hD1 hop1 hK1 hT1 hC1 ⊢
  have HD : Hid (DoAt w1 bd bc op a b i k s) := hD1
  have HC : Hid (CpuAt w1 bc bm bp n xs bt l m) := hC1
  have HT : Hid (w1.there g 0 4) := hT1
  have HK : Hid (But [bd, bt, bp] w w1) := hK1.wider (by simp)
  clear hD1 hC1 hT1 hK1 hup
  have HO : Hid ((1 ≤ op ∧ op ≤ 13) ∧ op ≠ 7) := ⟨ho, ho7⟩
  have y14 : (op == 14) = false := by simp; omega
  have y15 : (op == 15) = false := by simp; omega
  have y16 : (op == 16) = false := by simp; omega
  have y17 : (op == 17) = false := by simp; omega
  have y7 : (op == 7) = false := by simp; omega
  have y24 : (op == 24) = false := by simp; omega
  have y18 : (op == 18) = false := by simp; omega
  have y19 : (op == 19) = false := by simp; omega
  have y20 : (op == 20) = false := by simp; omega
  have y21 : (op == 21) = false := by simp; omega
  have y22 : (op == 22) = false := by simp; omega
  have y23 : (op == 23) = false := by simp; omega
  clear ho ho7
  go_upto_region 3 with fail
  rw [HR.out] at HP
  obtain ⟨x, hx⟩ : ∃ x, x = k.getD a 0 := ⟨_, rfl⟩
  obtain ⟨y, hy⟩ : ∃ y, y = k.getD b 0 := ⟨_, rfl⟩
  obtain ⟨v, hv⟩ : ∃ v, v = rkP op x y (i % 4294967296) := ⟨_, rfl⟩
  rw [← hx, ← hy, ← hv] at HP
  have hux := HD.out.u a
  have huy := HD.out.u b
  rw [← hx] at hux
  rw [← hy] at huy
  have HVB : Hid (0 ≤ v ∧ v ≤ 4294967295) := by show _ ∧ _; rw [hv]; exact rkP_bd _ _ _ _ hux huy (by omega)
  have HDD : Hid (DoAt w1.drew bd bc op a b i k s) := HD.out.keep (But.refl [] _).drew (by simp)
  have hnum : Hid (Calls Try.prog 48 #[.pointer (some ⟨bd, 0, none⟩)] w1.drew fun e w' => e = .returned (.int .u32 (i % 4294967296)) ∧ w' = w1.drew) := (number_c bd bc op a b i k s _ HDD.out).mono fun _ _ h => ⟨h.1, h.2.symm⟩
  have hrk : Hid (Calls Try.prog 47 #[.int .i64 op, .int .u32 x, .int .u32 y, .int .u32 (i % 4294967296)] w1.drew fun e w' => e = .returned (.int .u32 v) ∧ w' = w1.drew) := by
    show Calls _ _ _ _ _
    rw [hv]
    exact (reckoned_c op x y (i % 4294967296) _ HO.out.1 HO.out.2 hux huy (by omega)).mono fun _ _ h => ⟨h.1, h.2.symm⟩
  have ha16 : (a : Int) < 16 := by have := HD.out.ha; omega
  have ha0 : (0 : Int) ≤ (a : Int) := by omega
  have hb16 : (b : Int) < 16 := by have := HD.out.hb; omega
  have hb0 : (0 : Int) ≤ (b : Int) := by omega
  have e1 := HDD.out.op1
  have e2 := HDD.out.a2
  have e3 := HDD.out.b3
  obtain ⟨e4, e5⟩ := HDD.out.reg a (by omega)
  have e6 := (HDD.out.reg b (by omega)).1
  rw [← hx] at e4
  rw [← hy] at e6
  clear hx hy hv hop1
  refine wp_region_still_tail 40 (by kernel_rfl) (by kernel_rfl) ?_
  simp only [List.take_succ_cons, List.take_zero, List.drop_succ_cons, List.drop_zero]
  change wpStill _ _ w1.drew _ _ _
  repeat (first | still_step | still_call hnum.out | still_call hrk.out)
  refine wpStill_nil ?_
  change wpList _ _ _ _ _ w1.drew
  have HD2 : Hid (DoAt (w1.drew.setCell ⟨bd, 5 + a, none⟩ (.int .u32 v)) bd bc op a b i (k.set a v) s) := HDD.out.set a (by omega) _ HVB.out.1 HVB.out.2
  have k2 : But [bd] w1 (w1.drew.setCell ⟨bd, 5 + a, none⟩ (.int .u32 v)) := ((But.refl [bd] _).drew).setCell (by simp) _
  have HC2 : Hid (CpuAt (w1.drew.setCell ⟨bd, 5 + a, none⟩ (.int .u32 v)) bc bm bp n xs bt l m) := HC.out.keep k2 (by simpa using HAP.out.c.symm) (by simpa using HAP.out.m.symm) (by simpa using HAP.out.p.symm) (by simpa using HAP.out.t.symm)
  have HM : Hid (m ≤ m + 1) := Nat.le_succ m
  have HK2 : Hid (But [bd, bt, bp] w (w1.drew.setCell ⟨bd, 5 + a, none⟩ (.int .u32 v))) := HK.out.trans (k2.wider (by simp))
  have HT2 : Hid ((w1.drew.setCell ⟨bd, 5 + a, none⟩ (.int .u32 v)).there g 0 4) := there_keep HT.out k2 (by simp; omega)
  clear k2 hnum hrk
  generalize hww : w1.drew = w3 at e1 e2 e3 e4 e5 e6 HD2 HC2 HK2 HT2 ⊢
  go_wp2_with (first
    | (refine wpList_store_mid rfl 37 _ _ rfl g 0 #[.int .i64 0, .int .i64 0, .bool false, .int .i64 0] rfl rfl ?ht Try.sizeTrap (Tr.vs_all ⟨0, 0, false, 0⟩) ?_; case ht => exact HT2.out))
  refine bodyPost_ret (results_range1 rfl _ _ g 0 [.int .i64 0, .int .i64 0, .bool false, .int .i64 0] _ rfl (World.rangeAt_setCells_same _ _ _ _ HT2.out) Try.underlying37 rfl Try.sizeTrap) rfl ?_
  have hK : But [g] (w3.setCell ⟨bd, 5 + a, none⟩ (.int .u32 v)) ((w3.setCell ⟨bd, 5 + a, none⟩ (.int .u32 v)).setCells g 0 [.int .i64 0, .int .i64 0, .bool false, .int .i64 0]) := (But.refl _ _).setCells (by simp) _ _
  refine ⟨m, by rw [HP.out]; rfl, HM.out, by rw [HP.out]; exact HD2.out.keep hK (by simp; omega), by rw [HP.out]; exact HC2.out.keep hK (by simpa using hgt.1) (by simpa using hgt.2.1) (by simpa using hgt.2.2.1) (by simpa using hgt.2.2.2.1), ?_⟩
  exact but_fresh HK2.out hK (by have := HGS.out; simp; omega)
theorem do_c (bd bc bm bp n : Nat) (xs : List Int) (bt : Nat) (l : List En) (m : Nat) (op : Int) (a b : Nat) (i : Int) (c : List Int) (s : Int) (w : World) (h : DoAt w bd bc op a b i c s) (hC : CpuAt w bc bm bp n xs bt l m) (hA : Ap bd bc bm bp bt) (hm : m < 4611686018427387904) (ho : 1 ≤ op ∧ op ≤ 24) :
    Calls Try.prog 23 #[.pointer (some ⟨bd, 0, none⟩)] w fun e w' => ∃ m', e = .returned (.agg (doP n xs l s op a b i (pc4 c)).t.vs.toArray) ∧ m' ≤ m + 1 ∧ DoAt w' bd bc op a b i (doP n xs l s op a b i (pc4 c)).c s ∧ CpuAt w' bc bm bp n (doP n xs l s op a b i (pc4 c)).xs bt l m' ∧ But [bd, bt, bp] w w' := by
  by_cases h14 : op = 14
  · exact do_load bd bc bm bp n xs bt l m op a b i c s w h hC hA hm h14
  by_cases h15 : op = 15
  · exact do_store bd bc bm bp n xs bt l m op a b i c s w h hC hA hm h15
  by_cases h16 : op = 16
  · exact do_loadByte bd bc bm bp n xs bt l m op a b i c s w h hC hA hm h16
  by_cases h17 : op = 17
  · exact do_storeByte bd bc bm bp n xs bt l m op a b i c s w h hC hA hm h17
  by_cases h7 : op = 7
  · by_cases hnb : (pc4 c).getD b 0 = 0
    · exact do_divno bd bc bm bp n xs bt l m op a b i c s w h hC hA hm h7 hnb
    · exact do_div bd bc bm bp n xs bt l m op a b i c s w h hC hA hm h7 hnb
  by_cases h24 : op = 24
  · exact do_sys bd bc bm bp n xs bt l m op a b i c s w h hC hA hm h24
  by_cases h18 : op = 18
  · exact do_j18 bd bc bm bp n xs bt l m op a b i c s w h hC hA hm h18
  by_cases h19 : op = 19
  · exact do_j19 bd bc bm bp n xs bt l m op a b i c s w h hC hA hm h19
  by_cases h20 : op = 20
  · exact do_j20 bd bc bm bp n xs bt l m op a b i c s w h hC hA hm h20
  by_cases h21 : op = 21
  · exact do_j21 bd bc bm bp n xs bt l m op a b i c s w h hC hA hm h21
  by_cases h22 : op = 22
  · exact do_j22 bd bc bm bp n xs bt l m op a b i c s w h hC hA hm h22
  by_cases h23 : op = 23
  · exact do_j23 bd bc bm bp n xs bt l m op a b i c s w h hC hA hm h23
  exact do_rk bd bc bm bp n xs bt l m op a b i c s w h hC hA hm (by omega) h7
end Go.Proofs.Ytjlcncdhlcpklaa.Cp
