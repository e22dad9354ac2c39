/-
  Layer 6 (cpu): the contract of Step, over the translated program.
-/
import Derived.Test.YtjlcncdhlcpklaaCpDoes
import Derived.Test.YtjlcncdhlcpklaaCpFetch
import Derived.Laws.Tables
namespace Go.Proofs.Ytjlcncdhlcpklaa.Cp
open Go.ChangeShapes Go.WideShapes Go.ChangeAt Go.RowKit
open Fr (MemAt Blk hasW hasF) 
open Tl (En TlbAt Ens getE misE ansE en0)
set_option linter.unusedVariables false
set_option maxRecDepth 20000

/-- A program's cells. -/
def cvl (c : List Int) : List Value := c.map (Value.int .u32)
theorem cvl_len (c : List Int) : (cvl c).length = c.length := by simp [cvl]
theorem cvl_get (c : List Int) (j : Nat) (h : j < c.length) : (cvl c)[j]? = some (.int .u32 (c.getD j 0)) := by simp [cvl, List.getD, h]
theorem cvl_one (c : List Int) : ∀ v ∈ cvl c, v.oneCell' = true := by
  intro v hv
  simp only [cvl, List.mem_map] at hv
  obtain ⟨x, _, rfl⟩ := hv
  rfl
theorem Try.sizeCtx : (Try.prog.info? 27).map (·.size) = some 17 := by kernel_rfl
theorem cvl_info (c : List Int) (h : c.length = 17) : (Try.prog.info? 27).map (·.size) = some (cvl c).length := by rw [cvl_len, h]; exact Try.sizeCtx
/-- What a step tells: the program, the trap; the memory then. -/
def stepD (n : Nat) (xs : List Int) (l : List En) (s : Int) (c : List Int) (F : Ft) : Dn := doP n xs l s F.o F.a.toNat F.b.toNat F.i (pc4 c)
def endD (c : List Int) (D : Dn) : Dn := if D.t.cause ≠ 0 ∧ D.t.cause ≠ 6 then ⟨D.t, c, D.xs⟩ else D
def stepP (n : Nat) (xs : List Int) (l : List En) (s : Int) (c : List Int) : Dn :=
  if (ftc n xs l s (c.getD 16 0)).t.cause ≠ 0 then ⟨(ftc n xs l s (c.getD 16 0)).t, c, xs⟩ else endD c (stepD n xs l s c (ftc n xs l s (c.getD 16 0)))
def Dn.ans (d : Dn) : Value := .tuple #[.agg (cvl d.c).toArray, .agg d.t.vs.toArray]
theorem ftc_ok {n : Nat} {xs : List Int} {l : List En} {s addr : Int} {F : Ft} (h : ftc n xs l s addr = F) (ht : F.t.cause = 0) : F.t = tr0 ∧ (1 ≤ F.o ∧ F.o ≤ 24) ∧ (0 ≤ F.a ∧ F.a ≤ 15) ∧ (0 ≤ F.b ∧ F.b ≤ 15) := by
  subst h
  rcases hr : fndW l s addr false with ⟨tt, f, q⟩
  by_cases h1 : tt.cause = 0
  · cases h2 : vldD (getW n xs f q) with
    | true =>
      have e : ftc n xs l s addr = ⟨tr0, doR (getW n xs f q), daR (getW n xs f q), dbR (getW n xs f q), diR (getW n xs f q)⟩ := by
        unfold ftc
        rw [hr]
        show (if tt.cause = 0 then _ else _) = _
        rw [if_pos h1, if_pos h2]
      rw [e]
      have h3 := vldD_bounds (getW n xs f q)
      rw [h2] at h3
      obtain ⟨b1, b2, b3, b4⟩ := vld_bounds h3
      exact ⟨rfl, b1, b2, b3⟩
    | false =>
      have e : ftc n xs l s addr = ⟨⟨3, 0, false, 0⟩, 0, 0, 0, 0⟩ := by
        unfold ftc
        rw [hr]
        show (if tt.cause = 0 then _ else _) = _
        rw [if_pos h1, if_neg (by rw [h2]; simp)]
      rw [e] at ht
      exact absurd ht (by decide)
  · have e : ftc n xs l s addr = ⟨tt, 0, 0, 0, 0⟩ := by
      unfold ftc
      rw [hr]
      show (if tt.cause = 0 then _ else _) = _
      rw [if_neg h1]
    rw [e] at ht
    exact absurd ht h1
theorem three_new (w : World) (C D E : Array Value) (t t' t'' : TypeId) (n' n'' : Nat) (hn' : D.size = n') (hn'' : E.size = n'') (cs : List Value) (hC : C = cs.toArray) :
    (((w.alloc (.cells C t)).alloc (.cells D t')).alloc (.cells E t'')).rangeAt w.heap.size 0 cs ∧ (((w.alloc (.cells C t)).alloc (.cells D t')).alloc (.cells E t'')).there (w.heap.size + 1) 0 n' ∧ (((w.alloc (.cells C t)).alloc (.cells D t')).alloc (.cells E t'')).there (w.heap.size + 2) 0 n'' := by
  subst hC
  have h := two_new (w.alloc (.cells cs.toArray t)) D E t' t'' n' n'' hn' hn''
  rw [show (w.alloc (.cells cs.toArray t)).heap.size = w.heap.size + 1 by simp] at h
  exact ⟨range_keep (new_range w cs t) (((But.refl [] _).alloc _).alloc _) (by simp), h.1, h.2⟩

theorem seventeen (c : List Int) (h : c.length = 17) : ∃ x0 x1 x2 x3 x4 x5 x6 x7 x8 x9 x10 x11 x12 x13 x14 x15 x16 : Int, c = [x0, x1, x2, x3, x4, x5, x6, x7, x8, x9, x10, x11, x12, x13, x14, x15, x16] := by
  match c, h with
  | [x0, x1, x2, x3, x4, x5, x6, x7, x8, x9, x10, x11, x12, x13, x14, x15, x16], _ => exact ⟨x0, x1, x2, x3, x4, x5, x6, x7, x8, x9, x10, x11, x12, x13, x14, x15, x16, rfl⟩
/-- The cells of an instruction that is being done, as a list. -/
def dvl (bc : Nat) (o a b i : Int) (c : List Int) (s : Int) : List Value := [.pointer (some ⟨bc, 0, none⟩), .int .i64 o, .int .i64 a, .int .i64 b, .int .i64 i] ++ cvl c ++ [.int .i64 s]
theorem dvl_len (bc : Nat) (o a b i : Int) (c : List Int) (s : Int) (h : c.length = 17) : (dvl bc o a b i c s).length = 23 := by simp [dvl, cvl_len, h]
theorem dvl_one (bc : Nat) (o a b i : Int) (c : List Int) (s : Int) : ∀ v ∈ dvl bc o a b i c s, v.oneCell' = true := by
  intro v hv
  simp only [dvl, List.mem_append, List.mem_cons, List.not_mem_nil, or_false] at hv
  rcases hv with ((rfl | rfl | rfl | rfl | rfl) | hv) | rfl
  · rfl
  · rfl
  · rfl
  · rfl
  · rfl
  · exact cvl_one c v hv
  · rfl
theorem dvl_get (bc : Nat) (o a b i : Int) (c : List Int) (s : Int) (h : c.length = 17) (j : Nat) (hj : j < 23) : (dvl bc o a b i c s)[j]? = some (df bc o a b i c s j) := by
  obtain ⟨x0, x1, x2, x3, x4, x5, x6, x7, x8, x9, x10, x11, x12, x13, x14, x15, x16, rfl⟩ := seventeen c h
  have : j = 0 ∨ j = 1 ∨ j = 2 ∨ j = 3 ∨ j = 4 ∨ j = 5 ∨ j = 6 ∨ j = 7 ∨ j = 8 ∨ j = 9 ∨ j = 10 ∨ j = 11 ∨ j = 12 ∨ j = 13 ∨ j = 14 ∨ j = 15 ∨ j = 16 ∨ j = 17 ∨ j = 18 ∨ j = 19 ∨ j = 20 ∨ j = 21 ∨ j = 22 := by omega
  rcases this with rfl | rfl | rfl | rfl | rfl | rfl | rfl | rfl | rfl | rfl | rfl | rfl | rfl | rfl | rfl | rfl | rfl | rfl | rfl | rfl | rfl | rfl | rfl <;> rfl
theorem dvl_built (bc : Nat) (o a b i : Int) (c : List Int) (s : Int) (h : c.length = 17) : Try.prog.built 71 [(0, .pointer (some ⟨bc, 0, none⟩)), (1, .agg #[.int .i64 o, .int .i64 a, .int .i64 b, .int .i64 i]), (2, .agg (cvl c).toArray), (3, .int .i64 s)] = some (dvl bc o a b i c s).toArray := by
  obtain ⟨x0, x1, x2, x3, x4, x5, x6, x7, x8, x9, x10, x11, x12, x13, x14, x15, x16, rfl⟩ := seventeen c h
  kernel_rfl

theorem wpList_build' {P : Program} {ops : Array Oper} {rest : List Oper} {o : Oper} {a : Act} {w : World} {Q : Exit → Act → World → Prop} (hg : o.guard = none) (t : TypeId) (parts : List (Nat × Operand)) (ho : o.op = .build t parts.toArray)
    (cells : Array Value) (hf : P.built t (parts.map fun (i, x) => (i, a.eval x)) = some cells)
    (h : wpList P ops Q rest (a.put o.dst (.agg cells)) w) : wpList P ops Q (o :: rest) a w := by
  have e : (parts.toArray.map fun (i, x) => (i, a.eval x)).toList = parts.map fun (i, x) => (i, a.eval x) := by simp
  exact wpList_build hg t parts.toArray ho (by rw [e, hf]; rfl) (by rw [e, hf]; exact h)
def zdo : Array Value := #[.pointer none, .int .i64 0, .int .i64 0, .int .i64 0, .int .i64 0] ++ Array.replicate 17 (.int .u32 0) ++ #[.int .i64 0]
theorem zdo_zero (w : World) : Sem.run Try.prog (zeroValue 71) w = .ok (.agg zdo) w := by kernel_rfl

theorem do_new (w : World) (bc : Nat) (o : Int) (a b : Nat) (i : Int) (c : List Int) (s : Int) (hl : c.length = 17) (ha : a < 16) (hb : b < 16) (hu : U32s c) :
    DoAt ((w.alloc (.cells zdo 71)).setCells w.heap.size 0 (dvl bc o a b i c s)) w.heap.size bc o a b i c s := by
  have hT : (w.alloc (.cells zdo 71)).there w.heap.size 0 23 := there_new _ _ _ _ rfl
  have hR := World.rangeAt_setCells_same (w.alloc (.cells zdo 71)) w.heap.size 0 (dvl bc o a b i c s) (by rw [dvl_len _ _ _ _ _ _ _ hl]; exact hT)
  have hT2 := World.there_setCells hT w.heap.size 0 (dvl bc o a b i c s)
  refine ⟨fun j hj => ⟨?_, ?_⟩, hl, ha, hb, hu⟩
  · have := hR j _ (dvl_get bc o a b i c s hl j hj)
    rwa [Nat.zero_add] at this
  · have := (hT2 j hj).2
    rwa [Nat.zero_add] at this
/-- The two results are laid: what they hold, and what may have turned. -/
theorem ends (w : World) (g : Nat) (cs ds : List Value) (h1 : w.there (g + 1) 0 cs.length) (h2 : w.there (g + 2) 0 4) (hd : ds.length = 4 := by rfl) :
    ((w.drew.setCells (g + 1) 0 cs).setCells (g + 2) 0 ds).rangeAt (g + 1) 0 cs ∧ ((w.drew.setCells (g + 1) 0 cs).setCells (g + 2) 0 ds).rangeAt (g + 2) 0 ds ∧ But [g + 1, g + 2] w ((w.drew.setCells (g + 1) 0 cs).setCells (g + 2) 0 ds) := by
  obtain ⟨q1, q2⟩ := two_laid w.drew (g + 1) (g + 2) cs ds (there_keep h1 (But.refl [] _).drew (by simp)) (by rw [hd]; exact there_keep h2 (But.refl [] _).drew (by simp)) (by omega)
  exact ⟨q1, q2, (((But.refl [g + 1, g + 2] w).drew).setCells (by simp) _ _).setCells (by simp) _ _⟩

set_option maxHeartbeats 4000000 in
theorem step_c (bc bm bp n : Nat) (xs : List Int) (bt : Nat) (l : List En) (m : Nat) (s : Int) (c : List Int) (w : World) (hC : CpuAt w bc bm bp n xs bt l m) (hm : m < 4611686018427387900) (hl : c.length = 17) (hu : U32s c) :
    Calls Try.prog 8 #[.pointer (some ⟨bc, 0, none⟩), .int .i64 s, .agg (cvl c).toArray] w fun e w' => ∃ m', e = .returned (stepP n xs l s c).ans ∧ m' ≤ m + 2 ∧ CpuAt w' bc bm bp n (stepP n xs l s c).xs bt l m' ∧ But [bt, bc, bp] w w' := by
  obtain ⟨g, hg⟩ : ∃ g, g = w.heap.size := ⟨_, rfl⟩
  obtain ⟨hR5, hT6, hT7⟩ := three_new w (cvl c).toArray #[.int .u32 0, .int .u32 0, .int .u32 0, .int .u32 0, .int .u32 0, .int .u32 0, .int .u32 0, .int .u32 0, .int .u32 0, .int .u32 0, .int .u32 0, .int .u32 0, .int .u32 0, .int .u32 0, .int .u32 0, .int .u32 0, .int .u32 0] #[.int .i64 0, .int .i64 0, .bool false, .int .i64 0] 27 27 37 17 4 rfl rfl (cvl c) rfl
  have hB0 : But [] w (((w.alloc (.cells (cvl c).toArray 27)).alloc (.cells #[.int .u32 0, .int .u32 0, .int .u32 0, .int .u32 0, .int .u32 0, .int .u32 0, .int .u32 0, .int .u32 0, .int .u32 0, .int .u32 0, .int .u32 0, .int .u32 0, .int .u32 0, .int .u32 0, .int .u32 0, .int .u32 0, .int .u32 0] 27)).alloc (.cells #[.int .i64 0, .int .i64 0, .bool false, .int .i64 0] 37)) := (((But.refl [] w).alloc _).alloc _).alloc _
  have HGS : Hid (w.heap.size ≤ g) := by show _ ≤ g; omega
  have HL0 : Hid (bc < g ∧ bm < g ∧ bp < g ∧ bt < g) := by show _ ∧ _; rw [hg]; exact hC.lt
  have hlt := HL0.out
  have HU : Hid (U32s c) := hu
  have HLN : Hid (c.length = 17) := hl
  obtain ⟨z, hz⟩ : ∃ z, z = c.getD 16 0 := ⟨_, rfl⟩
  have hzb := hu 16
  rw [← hz] at hzb
  rcases hF : ftc n xs l s z with ⟨⟨t1, t2, t3, t4⟩, o, a, b, i⟩
  have HF : Hid (ftc n xs l s z = ⟨⟨t1, t2, t3, t4⟩, o, a, b, i⟩) := hF
  have HSP : Hid (stepP n xs l s c = if t1 ≠ 0 then ⟨⟨t1, t2, t3, t4⟩, c, xs⟩ else endD c (doP n xs l s o a.toNat b.toNat i (pc4 c))) := by
    show _ = _
    unfold stepP
    rw [← hz, hF]
    rfl
  go_enter Try.func8, Try.ntmps8
  go_upto_region 3 with fail
  rw [← hg] at hR5 hT6 hT7 ⊢
  generalize ((w.alloc (.cells (cvl c).toArray 27)).alloc (.cells #[.int .u32 0, .int .u32 0, .int .u32 0, .int .u32 0, .int .u32 0, .int .u32 0, .int .u32 0, .int .u32 0, .int .u32 0, .int .u32 0, .int .u32 0, .int .u32 0, .int .u32 0, .int .u32 0, .int .u32 0, .int .u32 0, .int .u32 0] 27)).alloc (.cells #[.int .i64 0, .int .i64 0, .bool false, .int .i64 0] 37) = w1 at hR5 hT6 hT7 hB0 ⊢
  have hpc : w1.cell? ⟨g, 16, none⟩ = some (.int .u32 z) := by
    have := hR5 16 _ (cvl_get c 16 (by omega))
    rwa [← hz, Nat.zero_add] at this
  have HR5 : Hid (w1.rangeAt g 0 (cvl c)) := hR5
  clear hz hF hu hl hg hR5
  go_wp2_with fail
  refine (fetch_c bc bm bp n xs bt l m s z _ (hC.keep0 hB0) (by omega) hzb.1 hzb.2).mono ?_
  rintro e w2 ⟨m', rfl, hm', hC2, k2⟩
  rw [HF.out]
  simp only [Ft.ans, Tr.vs]
  have hz2 := k2.size
  have hT6' := there_keep hT6 k2 (by simp; omega)
  have hT7' := there_keep hT7 k2 (by simp; omega)
  have hR5' := range_keep HR5.out k2 (by simp; omega)
  have hB2 : But [bt, bc] w w2 := (hB0.any _).trans k2
  have hg2 : g + 2 < w2.heap.size := lt_of_there hT7' (by omega)
  clear hT6 hT7 hB0 hpc HR5 k2 hz2 hC
  obtain ⟨r1, r2⟩ := two_range w2 [.int .i64 o, .int .i64 a, .int .i64 b, .int .i64 i] [.int .i64 t1, .int .i64 t2, .bool t3, .int .i64 t4] 67 37
  have K3 : But [] w2 ((w2.alloc (.cells #[.int .i64 o, .int .i64 a, .int .i64 b, .int .i64 i] 67)).alloc (.cells #[.int .i64 t1, .int .i64 t2, .bool t3, .int .i64 t4] 37)) := ((But.refl [] w2).alloc _).alloc _
  obtain ⟨hTB, hTT⟩ := two_new w2 #[.int .i64 o, .int .i64 a, .int .i64 b, .int .i64 i] #[.int .i64 t1, .int .i64 t2, .bool t3, .int .i64 t4] 67 37 4 4 rfl rfl
  clear hTB
  go_upto_if 25 with fail
  generalize (w2.alloc (.cells #[.int .i64 o, .int .i64 a, .int .i64 b, .int .i64 i] 67)).alloc (.cells #[.int .i64 t1, .int .i64 t2, .bool t3, .int .i64 t4] 37) = w3 at r1 r2 K3 hTT ⊢
  obtain ⟨b8, hb8⟩ : ∃ b8, b8 = w2.heap.size := ⟨_, rfl⟩
  have hge : g + 2 < b8 := by omega
  rw [← hb8] at r1 r2 hTT ⊢
  have HT6 : Hid (w3.there (g + 1) 0 17) := there_keep hT6' K3 (by simp)
  have HT7 : Hid (w3.there (g + 2) 0 4) := there_keep hT7' K3 (by simp)
  have HR5 : Hid (w3.rangeAt g 0 (cvl c)) := range_keep hR5' K3 (by simp)
  have HTT : Hid (w3.there (b8 + 1) 0 4) := hTT
  have HC : Hid (CpuAt w3 bc bm bp n xs bt l m') := hC2.keep0 K3
  have HB : Hid (But [bt, bc] w w3) := hB2.trans (K3.any _)
  have HRT : Hid (w3.rangeAt (b8 + 1) 0 [.int .i64 t1, .int .i64 t2, .bool t3, .int .i64 t4]) := r2
  have i0 : w3.cell? ⟨b8, 0, none⟩ = some (.int .i64 o) := r1 0 _ rfl
  have i1 : w3.cell? ⟨b8, 1, none⟩ = some (.int .i64 a) := r1 1 _ rfl
  have i2 : w3.cell? ⟨b8, 2, none⟩ = some (.int .i64 b) := r1 2 _ rfl
  have i3 : w3.cell? ⟨b8, 3, none⟩ = some (.int .i64 i) := r1 3 _ rfl
  have q0 : w3.cell? ⟨b8 + 1, 0, none⟩ = some (.int .i64 t1) := r2 0 _ rfl
  have q1 : w3.cell? ⟨b8 + 1, 1, none⟩ = some (.int .i64 t2) := r2 1 _ rfl
  have q2 : w3.cell? ⟨b8 + 1, 2, none⟩ = some (.bool t3) := r2 2 _ rfl
  have q3 : w3.cell? ⟨b8 + 1, 3, none⟩ = some (.int .i64 t4) := r2 3 _ rfl
  clear r1 r2 K3 hTT hT6' hT7' hR5' hB2 hC2 hg2 hb8
  by_cases ht : t1 = 0
  · subst ht
    have hok := ftc_ok HF.out rfl
    obtain ⟨-, ⟨ho1, ho2⟩, ⟨ha1, ha2⟩, hb1, hb2⟩ := hok
    have hSD : stepP n xs l s c = endD c (doP n xs l s o a.toNat b.toNat i (pc4 c)) := by rw [HSP.out]; rfl
    dsimp only at ho1 ho2 ha1 ha2 hb1 hb2
    obtain ⟨a', rfl⟩ := Int.eq_ofNat_of_zero_le ha1
    obtain ⟨b', rfl⟩ := Int.eq_ofNat_of_zero_le hb1
    rw [Int.toNat_natCast, Int.toNat_natCast] at hSD
    have hcl : (cvl c).length = 17 := (cvl_len c).trans HLN.out
    have HBL : Hid (Try.prog.built 71 [(0, .pointer (some ⟨bc, 0, none⟩)), (1, .agg #[.int .i64 o, .int .i64 a', .int .i64 b', .int .i64 i]), (2, .agg (cvl c).toArray), (3, .int .i64 s)] = some (dvl bc o a' b' i c s).toArray) := dvl_built bc o a' b' i c s HLN.out
    have hzd := zdo_zero
    have hds : (dvl bc o a' b' i c s).toArray.size = 23 := by rw [List.size_toArray]; exact dvl_len _ _ _ _ _ _ _ HLN.out
    have HTD : Hid ((w3.alloc (.cells zdo 71)).there w3.heap.size 0 (dvl bc o a' b' i c s).toArray.size) := by show World.there _ _ _ _; rw [hds]; exact there_new _ _ _ _ rfl
    have HDI : Hid ((Try.prog.info? 71).map (·.size) = some (dvl bc o a' b' i c s).toArray.size) := by show _ = _; rw [hds]; kernel_rfl
    have hDo : DoAt ((w3.alloc (.cells zdo 71)).setCells w3.heap.size 0 (dvl bc o a' b' i c s)) w3.heap.size bc o a' b' i c s := do_new w3 bc o a' b' i c s HLN.out (by omega) (by omega) HU.out
    have hKd : But [] w3 ((w3.alloc (.cells zdo 71)).setCells w3.heap.size 0 (dvl bc o a' b' i c s)) := ((But.refl [] w3).alloc _).setCells (.inr (Nat.le_refl _)) _ _
    have hb3 : b8 + 1 < w3.heap.size := lt_of_cell q0
    clear hds HSP
    go_wp2_with (first
      | (refine wpList_load_mid rfl 27 _ rfl g 0 rfl (cvl c) _ HR5.out Try.underlying27 rfl (cvl_info c HLN.out) ?_)
      | (refine wpList_build' rfl 71 _ rfl (dvl bc o a' b' i c s).toArray ?hb ?_; case hb => exact HBL.out)
      | (refine wpList_store_mid rfl 71 _ _ rfl w3.heap.size 0 (dvl bc o a' b' i c s).toArray rfl rfl ?ht HDI.out (all_oneCell_toArray (dvl_one _ _ _ _ _ _ _)) ?_; case ht => exact HTD.out))
    obtain ⟨bd, hbd⟩ : ∃ bd, bd = w3.heap.size := ⟨_, rfl⟩
    rw [← hbd] at hDo hKd hb3 ⊢
    generalize (w3.alloc (.cells zdo 71)).setCells bd 0 (dvl bc o a' b' i c s) = w4 at hDo hKd ⊢
    have hll : bc < bd ∧ bm < bd ∧ bp < bd ∧ bt < bd := by rw [hbd]; exact HC.out.lt
    clear hbd
    refine (do_c bd bc bm bp n xs bt l m' o a' b' i c s _ hDo (HC.out.keep0 hKd) ⟨by omega, by omega, by omega, by omega⟩ (by omega) ⟨ho1, ho2⟩).mono ?_
    rintro e w5 ⟨m'', rfl, hm'', hD5, hC5, k5⟩
    rcases hD : doP n xs l s o a' b' i (pc4 c) with ⟨⟨u1, u2, u3, u4⟩, c', xs'⟩
    rw [hD] at hSD hD5 hC5
    have HSD : Hid (stepP n xs l s c = endD c ⟨⟨u1, u2, u3, u4⟩, c', xs'⟩) := hSD
    have HD5 : Hid (DoAt w5 bd bc o a' b' i c' s) := hD5
    have HC5 : Hid (CpuAt w5 bc bm bp n xs' bt l m'') := hC5
    have HK5 : Hid (But [bd, bt, bp] w3 w5) := (hKd.any _).trans k5
    have HLC : Hid (c'.length = 17) := hD5.len
    have HTU : Hid (w5.there (b8 + 1) 0 4) := there_keep HTT.out HK5.out (by simp; omega)
    clear hSD hD5 hC5 k5 hDo hKd hD HBL HTD HDI hzd i0 i1 i2 i3 q0 q1 q2 q3 HF
    simp only [Tr.vs]
    go_upto_region 8 with (first
      | (refine wpList_store_mid rfl 37 _ _ rfl (b8 + 1) 0 #[.int .i64 u1, .int .i64 u2, .bool u3, .int .i64 u4] rfl rfl ?ht Try.sizeTrap (Tr.vs_all ⟨u1, u2, u3, u4⟩) ?_; case ht => exact HTU.out))
    have hrU : (w5.setCells (b8 + 1) 0 [.int .i64 u1, .int .i64 u2, .bool u3, .int .i64 u4]).rangeAt (b8 + 1) 0 [.int .i64 u1, .int .i64 u2, .bool u3, .int .i64 u4] := World.rangeAt_setCells_same _ _ _ _ HTU.out
    have hK6 : But [b8 + 1] w5 (w5.setCells (b8 + 1) 0 [.int .i64 u1, .int .i64 u2, .bool u3, .int .i64 u4]) := (But.refl _ _).setCells (by simp) _ _
    generalize w5.setCells (b8 + 1) 0 [.int .i64 u1, .int .i64 u2, .bool u3, .int .i64 u4] = w6 at hrU hK6 ⊢
    have HRU : Hid (w6.rangeAt (b8 + 1) 0 [.int .i64 u1, .int .i64 u2, .bool u3, .int .i64 u4]) := hrU
    have HD6 : Hid (DoAt w6 bd bc o a' b' i c' s) := HD5.out.keep hK6 (by simp; omega)
    have HC6 : Hid (CpuAt w6 bc bm bp n xs' bt l m'') := HC5.out.keep hK6 (by simp; omega) (by simp; omega) (by simp; omega) (by simp; omega)
    have HK6 : Hid (But [bd, bt, bp, b8 + 1] w3 w6) := (HK5.out.wider (by simp)).trans (hK6.wider (by simp))
    have HB6 : Hid (But [bt, bc, bp] w w6) := but_fresh (HB.out.wider (by simp)) HK6.out (by have := HB.out.size; have := HGS.out; simp; omega)
    have HTa : Hid (w6.there (g + 1) 0 17) := there_keep HT6.out HK6.out (by simp; omega)
    have HTb : Hid (w6.there (g + 2) 0 4) := there_keep HT7.out HK6.out (by simp; omega)
    have HR6g : Hid (w6.rangeAt g 0 (cvl c)) := range_keep HR5.out HK6.out (by simp; omega)
    have HR6 : Hid (w6.rangeAt bd 5 (cvl c')) := fun j v hv => by
      have hj : j < 17 := by have := (List.getElem?_eq_some_iff.1 hv).1; rw [cvl_len, HLC.out] at this; exact this
      rw [cvl_get c' j (by rw [HLC.out]; exact hj)] at hv
      obtain rfl := Option.some.inj hv
      exact (HD6.out.reg j hj).1
    have e0 : w6.cell? ⟨b8 + 1, 0, none⟩ = some (.int .i64 u1) := hrU 0 _ rfl
    clear hrU hK6 HTU HT6 HT7 HR5 HTT HB
    by_cases hu1 : u1 = 0
    · have HSQ : Hid (stepP n xs l s c = ⟨⟨u1, u2, u3, u4⟩, c', xs'⟩) := by show _ = _; rw [HSD.out]; exact if_neg (by simp [hu1])
      have hub : (u1 != 0) = false := by simp [hu1]
      clear hu1
      go_wp2
      refine wp_region_held_drew (S := fun w' => w'.rangeAt bd 5 (cvl c') ∧ w'.rangeAt (b8 + 1) 0 [.int .i64 u1, .int .i64 u2, .bool u3, .int .i64 u4]) (by kernel_rfl) ⟨(World.rangeAt_drew _ _ _ _).2 HR6.out, (World.rangeAt_drew _ _ _ _).2 HRU.out⟩ (fun hS => ?_)
      refine wpAnyH_take (i := 0) (v := .pointer (some ⟨bd, 5, none⟩)) rfl (by kernel_rfl) (by kernel_rfl) (by kernel_rfl) (fun _ _ _ h => h) (Or.inl ⟨by rfl, fun w' hw' => by go_simp⟩) hS ?_
      simp only [Act.put, List.setIfInBounds_toArray]
      refine wpAnyH_take (i := 1) (v := .agg (cvl c').toArray) rfl (by kernel_rfl) (by kernel_rfl) (by kernel_rfl) (fun _ _ _ h => h) (yieldsIf_load_mid (by rfl) _ _ rfl bd 5 rfl (cvl c') _ (fun w' h => h.1) Try.underlying27 rfl (cvl_info c' HLC.out)) hS ?_
      simp only [Act.put]
      refine wpAnyH_take (i := 2) (v := .agg (List.toArray [.int .i64 u1, .int .i64 u2, .bool u3, .int .i64 u4])) rfl (by kernel_rfl) (by kernel_rfl) (by kernel_rfl) (fun _ _ _ h => h) (yieldsIf_load_mid (by rfl) _ _ rfl (b8 + 1) 0 rfl [.int .i64 u1, .int .i64 u2, .bool u3, .int .i64 u4] _ (fun w' h => h.2) Try.underlying37 rfl Try.sizeTrap) hS ?_
      simp only [Act.put]
      refine wpAnyH_ready (rs := [3]) (by kernel_rfl) (by simp) ?_
      refine AllReadyH.cons rfl (fun K hK => ?_) AllReadyH.nil
      rw [if_pos (by rfl)]
      refine wp_store_mid _ _ _ rfl (g + 1) 0 (cvl c').toArray rfl rfl ?_ ?_ (all_oneCell_toArray (cvl_one c')) ?_
      · rw [List.size_toArray, cvl_len, HLC.out]; exact there_keep HTa.out (But.refl [] _).drew (by simp)
      · rw [List.size_toArray]; exact cvl_info c' HLC.out
      refine hK.out _ _ ⟨range_keep hS.1 ((But.refl [g + 1] _).setCells (by simp) _ _) (by simp; try omega), range_keep hS.2 ((But.refl [g + 1] _).setCells (by simp) _ _) (by simp; try omega)⟩ (fun hS2 => ?_)
      clear hK K
      simp only [Act.put]
      refine wpAnyH_ready (rs := [4]) (by kernel_rfl) (by simp) ?_
      refine AllReadyH.cons rfl (fun K hK => ?_) AllReadyH.nil
      rw [if_pos (by rfl)]
      refine wp_store_mid _ _ _ rfl (g + 2) 0 (List.toArray [.int .i64 u1, .int .i64 u2, .bool u3, .int .i64 u4]) rfl rfl ?_ Try.sizeTrap (Tr.vs_all ⟨u1, u2, u3, u4⟩) ?_
      · exact World.there_setCells (there_keep HTb.out (But.refl [] _).drew (by simp)) _ _ _
      refine hK.out _ _ ⟨range_keep hS2.1 ((But.refl [g + 2] _).setCells (by simp) _ _) (by simp; try omega), range_keep hS2.2 ((But.refl [g + 2] _).setCells (by simp) _ _) (by simp; try omega)⟩ (fun hS3 => ?_)
      clear hK K
      simp only [Act.put]
      refine wpAnyH_done (by kernel_rfl) ?_ _
      go_wp2
      obtain ⟨v1, v2, hbf⟩ := ends w6 g (cvl c') [.int .i64 u1, .int .i64 u2, .bool u3, .int .i64 u4] (by rw [cvl_len, HLC.out]; exact HTa.out) HTb.out
      refine bodyPost_ret (results_two rfl _ _ (g + 1) 0 (g + 2) 0 _ _ _ _ rfl v1 Try.underlying27 rfl (cvl_info c' HLC.out) rfl v2 Try.underlying37 rfl Try.sizeTrap) rfl ?_
      have hg0 := HGS.out
      first
        | exact ⟨by rw [HSQ.out]; rfl, m'', by omega, by rw [HSQ.out]; exact HC6.out.keep hbf (by simp; omega) (by simp; omega) (by simp; omega) (by simp; omega), but_fresh HB6.out hbf (by simp; omega)⟩
        | exact ⟨m'', by rw [HSQ.out]; rfl, by omega, by rw [HSQ.out]; exact HC6.out.keep hbf (by simp; omega) (by simp; omega) (by simp; omega) (by simp; omega), but_fresh HB6.out hbf (by simp; omega)⟩
    · by_cases hu6 : u1 = 6
      · have HSQ : Hid (stepP n xs l s c = ⟨⟨u1, u2, u3, u4⟩, c', xs'⟩) := by show _ = _; rw [HSD.out]; exact if_neg (by simp [hu6])
        have hub : (u1 != 0) = true := by simp [hu1]
        have hub6 : (u1 != 6) = false := by simp [hu6]
        clear hu1 hu6
        go_wp2
        refine wp_region_held_drew (S := fun w' => w'.rangeAt bd 5 (cvl c') ∧ w'.rangeAt (b8 + 1) 0 [.int .i64 u1, .int .i64 u2, .bool u3, .int .i64 u4]) (by kernel_rfl) ⟨(World.rangeAt_drew _ _ _ _).2 HR6.out, (World.rangeAt_drew _ _ _ _).2 HRU.out⟩ (fun hS => ?_)
        refine wpAnyH_take (i := 0) (v := .pointer (some ⟨bd, 5, none⟩)) rfl (by kernel_rfl) (by kernel_rfl) (by kernel_rfl) (fun _ _ _ h => h) (Or.inl ⟨by rfl, fun w' hw' => by go_simp⟩) hS ?_
        simp only [Act.put, List.setIfInBounds_toArray]
        refine wpAnyH_take (i := 1) (v := .agg (cvl c').toArray) rfl (by kernel_rfl) (by kernel_rfl) (by kernel_rfl) (fun _ _ _ h => h) (yieldsIf_load_mid (by rfl) _ _ rfl bd 5 rfl (cvl c') _ (fun w' h => h.1) Try.underlying27 rfl (cvl_info c' HLC.out)) hS ?_
        simp only [Act.put]
        refine wpAnyH_take (i := 2) (v := .agg (List.toArray [.int .i64 u1, .int .i64 u2, .bool u3, .int .i64 u4])) rfl (by kernel_rfl) (by kernel_rfl) (by kernel_rfl) (fun _ _ _ h => h) (yieldsIf_load_mid (by rfl) _ _ rfl (b8 + 1) 0 rfl [.int .i64 u1, .int .i64 u2, .bool u3, .int .i64 u4] _ (fun w' h => h.2) Try.underlying37 rfl Try.sizeTrap) hS ?_
        simp only [Act.put]
        refine wpAnyH_ready (rs := [3]) (by kernel_rfl) (by simp) ?_
        refine AllReadyH.cons rfl (fun K hK => ?_) AllReadyH.nil
        rw [if_pos (by rfl)]
        refine wp_store_mid _ _ _ rfl (g + 1) 0 (cvl c').toArray rfl rfl ?_ ?_ (all_oneCell_toArray (cvl_one c')) ?_
        · rw [List.size_toArray, cvl_len, HLC.out]; exact there_keep HTa.out (But.refl [] _).drew (by simp)
        · rw [List.size_toArray]; exact cvl_info c' HLC.out
        refine hK.out _ _ ⟨range_keep hS.1 ((But.refl [g + 1] _).setCells (by simp) _ _) (by simp; try omega), range_keep hS.2 ((But.refl [g + 1] _).setCells (by simp) _ _) (by simp; try omega)⟩ (fun hS2 => ?_)
        clear hK K
        simp only [Act.put]
        refine wpAnyH_ready (rs := [4]) (by kernel_rfl) (by simp) ?_
        refine AllReadyH.cons rfl (fun K hK => ?_) AllReadyH.nil
        rw [if_pos (by rfl)]
        refine wp_store_mid _ _ _ rfl (g + 2) 0 (List.toArray [.int .i64 u1, .int .i64 u2, .bool u3, .int .i64 u4]) rfl rfl ?_ Try.sizeTrap (Tr.vs_all ⟨u1, u2, u3, u4⟩) ?_
        · exact World.there_setCells (there_keep HTb.out (But.refl [] _).drew (by simp)) _ _ _
        refine hK.out _ _ ⟨range_keep hS2.1 ((But.refl [g + 2] _).setCells (by simp) _ _) (by simp; try omega), range_keep hS2.2 ((But.refl [g + 2] _).setCells (by simp) _ _) (by simp; try omega)⟩ (fun hS3 => ?_)
        clear hK K
        simp only [Act.put]
        refine wpAnyH_done (by kernel_rfl) ?_ _
        go_wp2
        obtain ⟨v1, v2, hbf⟩ := ends w6 g (cvl c') [.int .i64 u1, .int .i64 u2, .bool u3, .int .i64 u4] (by rw [cvl_len, HLC.out]; exact HTa.out) HTb.out
        refine bodyPost_ret (results_two rfl _ _ (g + 1) 0 (g + 2) 0 _ _ _ _ rfl v1 Try.underlying27 rfl (cvl_info c' HLC.out) rfl v2 Try.underlying37 rfl Try.sizeTrap) rfl ?_
        have hg0 := HGS.out
        first
          | exact ⟨by rw [HSQ.out]; rfl, m'', by omega, by rw [HSQ.out]; exact HC6.out.keep hbf (by simp; omega) (by simp; omega) (by simp; omega) (by simp; omega), but_fresh HB6.out hbf (by simp; omega)⟩
          | exact ⟨m'', by rw [HSQ.out]; rfl, by omega, by rw [HSQ.out]; exact HC6.out.keep hbf (by simp; omega) (by simp; omega) (by simp; omega) (by simp; omega), but_fresh HB6.out hbf (by simp; omega)⟩
      · have HSQ : Hid (stepP n xs l s c = ⟨⟨u1, u2, u3, u4⟩, c, xs'⟩) := by show _ = _; rw [HSD.out]; exact if_pos ⟨hu1, hu6⟩
        have hub : (u1 != 0) = true := by simp [hu1]
        have hub6 : (u1 != 6) = true := by simp [hu6]
        clear hu1 hu6
        go_wp2
        refine wp_region_held_drew (S := fun w' => w'.rangeAt g 0 (cvl c) ∧ w'.rangeAt (b8 + 1) 0 [.int .i64 u1, .int .i64 u2, .bool u3, .int .i64 u4]) (by kernel_rfl) ⟨(World.rangeAt_drew _ _ _ _).2 HR6g.out, (World.rangeAt_drew _ _ _ _).2 HRU.out⟩ (fun hS => ?_)
        refine wpAnyH_take (i := 0) (v := .agg (cvl c).toArray) rfl (by kernel_rfl) (by kernel_rfl) (by kernel_rfl) (fun _ _ _ h => h) (yieldsIf_load_mid (by rfl) _ _ rfl g 0 rfl (cvl c) _ (fun w' h => h.1) Try.underlying27 rfl (cvl_info c HLN.out)) hS ?_
        simp only [Act.put, List.setIfInBounds_toArray]
        refine wpAnyH_take (i := 1) (v := .agg (List.toArray [.int .i64 u1, .int .i64 u2, .bool u3, .int .i64 u4])) rfl (by kernel_rfl) (by kernel_rfl) (by kernel_rfl) (fun _ _ _ h => h) (yieldsIf_load_mid (by rfl) _ _ rfl (b8 + 1) 0 rfl [.int .i64 u1, .int .i64 u2, .bool u3, .int .i64 u4] _ (fun w' h => h.2) Try.underlying37 rfl Try.sizeTrap) hS ?_
        simp only [Act.put]
        refine wpAnyH_ready (rs := [2]) (by kernel_rfl) (by simp) ?_
        refine AllReadyH.cons rfl (fun K hK => ?_) AllReadyH.nil
        rw [if_pos (by rfl)]
        refine wp_store_mid _ _ _ rfl (g + 1) 0 (cvl c).toArray rfl rfl ?_ ?_ (all_oneCell_toArray (cvl_one c)) ?_
        · rw [List.size_toArray, cvl_len, HLN.out]; exact there_keep HTa.out (But.refl [] _).drew (by simp)
        · rw [List.size_toArray]; exact cvl_info c HLN.out
        refine hK.out _ _ ⟨range_keep hS.1 ((But.refl [g + 1] _).setCells (by simp) _ _) (by simp; try omega), range_keep hS.2 ((But.refl [g + 1] _).setCells (by simp) _ _) (by simp; try omega)⟩ (fun hS2 => ?_)
        clear hK K
        simp only [Act.put]
        refine wpAnyH_ready (rs := [3]) (by kernel_rfl) (by simp) ?_
        refine AllReadyH.cons rfl (fun K hK => ?_) AllReadyH.nil
        rw [if_pos (by rfl)]
        refine wp_store_mid _ _ _ rfl (g + 2) 0 (List.toArray [.int .i64 u1, .int .i64 u2, .bool u3, .int .i64 u4]) rfl rfl ?_ Try.sizeTrap (Tr.vs_all ⟨u1, u2, u3, u4⟩) ?_
        · exact World.there_setCells (there_keep HTb.out (But.refl [] _).drew (by simp)) _ _ _
        refine hK.out _ _ ⟨range_keep hS2.1 ((But.refl [g + 2] _).setCells (by simp) _ _) (by simp; try omega), range_keep hS2.2 ((But.refl [g + 2] _).setCells (by simp) _ _) (by simp; try omega)⟩ (fun hS3 => ?_)
        clear hK K
        simp only [Act.put]
        refine wpAnyH_done (by kernel_rfl) ?_ _
        go_wp2
        obtain ⟨v1, v2, hbf⟩ := ends w6 g (cvl c) [.int .i64 u1, .int .i64 u2, .bool u3, .int .i64 u4] (by rw [cvl_len, HLN.out]; exact HTa.out) HTb.out
        refine bodyPost_ret (results_two rfl _ _ (g + 1) 0 (g + 2) 0 _ _ _ _ rfl v1 Try.underlying27 rfl (cvl_info c HLN.out) rfl v2 Try.underlying37 rfl Try.sizeTrap) rfl ?_
        have hg0 := HGS.out
        first
          | exact ⟨by rw [HSQ.out]; rfl, m'', by omega, by rw [HSQ.out]; exact HC6.out.keep hbf (by simp; omega) (by simp; omega) (by simp; omega) (by simp; omega), but_fresh HB6.out hbf (by simp; omega)⟩
          | exact ⟨m'', by rw [HSQ.out]; rfl, by omega, by rw [HSQ.out]; exact HC6.out.keep hbf (by simp; omega) (by simp; omega) (by simp; omega) (by simp; omega), but_fresh HB6.out hbf (by simp; omega)⟩
  · have htb : (t1 != 0) = true := by simp [ht]
    have HSQ : Hid (stepP n xs l s c = ⟨⟨t1, t2, t3, t4⟩, c, xs⟩) := by show _ = _; rw [HSP.out]; exact if_pos ht
    go_wp2
    refine wp_region_held_drew (S := fun w' => w'.rangeAt g 0 (cvl c) ∧ w'.rangeAt (b8 + 1) 0 [.int .i64 t1, .int .i64 t2, .bool t3, .int .i64 t4]) (by kernel_rfl) ⟨(World.rangeAt_drew _ _ _ _).2 HR5.out, (World.rangeAt_drew _ _ _ _).2 HRT.out⟩ (fun hS => ?_)
    refine wpAnyH_take (i := 0) (v := .agg (cvl c).toArray) rfl (by kernel_rfl) (by kernel_rfl) (by kernel_rfl) (fun _ _ _ h => h) (yieldsIf_load_mid (by rfl) _ _ rfl g 0 rfl (cvl c) _ (fun w' h => h.1) Try.underlying27 rfl (cvl_info c HLN.out)) hS ?_
    simp only [Act.put, List.setIfInBounds_toArray]
    refine wpAnyH_take (i := 1) (v := .agg (List.toArray [.int .i64 t1, .int .i64 t2, .bool t3, .int .i64 t4])) rfl (by kernel_rfl) (by kernel_rfl) (by kernel_rfl) (fun _ _ _ h => h) (yieldsIf_load_mid (by rfl) _ _ rfl (b8 + 1) 0 rfl [.int .i64 t1, .int .i64 t2, .bool t3, .int .i64 t4] _ (fun w' h => h.2) Try.underlying37 rfl Try.sizeTrap) hS ?_
    simp only [Act.put]
    refine wpAnyH_ready (rs := [2]) (by kernel_rfl) (by simp) ?_
    refine AllReadyH.cons rfl (fun K hK => ?_) AllReadyH.nil
    rw [if_pos (by rfl)]
    refine wp_store_mid _ _ _ rfl (g + 1) 0 (cvl c).toArray rfl rfl ?_ ?_ (all_oneCell_toArray (cvl_one c)) ?_
    · rw [List.size_toArray, cvl_len, HLN.out]; exact there_keep HT6.out (But.refl [] _).drew (by simp)
    · rw [List.size_toArray]; exact cvl_info c HLN.out
    refine hK.out _ _ ⟨range_keep hS.1 ((But.refl [g + 1] _).setCells (by simp) _ _) (by simp; try omega), range_keep hS.2 ((But.refl [g + 1] _).setCells (by simp) _ _) (by simp; try omega)⟩ (fun hS2 => ?_)
    clear hK K
    simp only [Act.put]
    refine wpAnyH_ready (rs := [3]) (by kernel_rfl) (by simp) ?_
    refine AllReadyH.cons rfl (fun K hK => ?_) AllReadyH.nil
    rw [if_pos (by rfl)]
    refine wp_store_mid _ _ _ rfl (g + 2) 0 (List.toArray [.int .i64 t1, .int .i64 t2, .bool t3, .int .i64 t4]) rfl rfl ?_ Try.sizeTrap (Tr.vs_all ⟨t1, t2, t3, t4⟩) ?_
    · exact World.there_setCells (there_keep HT7.out (But.refl [] _).drew (by simp)) _ _ _
    refine hK.out _ _ ⟨range_keep hS2.1 ((But.refl [g + 2] _).setCells (by simp) _ _) (by simp; try omega), range_keep hS2.2 ((But.refl [g + 2] _).setCells (by simp) _ _) (by simp; try omega)⟩ (fun hS3 => ?_)
    clear hK K
    simp only [Act.put]
    refine wpAnyH_done (by kernel_rfl) ?_ _
    go_wp2
    obtain ⟨v1, v2, hbf⟩ := ends w3 g (cvl c) [.int .i64 t1, .int .i64 t2, .bool t3, .int .i64 t4] (by rw [cvl_len, HLN.out]; exact HT6.out) HT7.out
    refine bodyPost_ret (results_two rfl _ _ (g + 1) 0 (g + 2) 0 _ _ _ _ rfl v1 Try.underlying27 rfl (cvl_info c HLN.out) rfl v2 Try.underlying37 rfl Try.sizeTrap) rfl ?_
    have hg0 := HGS.out
    first
      | exact ⟨by rw [HSQ.out]; rfl, m', by omega, by rw [HSQ.out]; exact HC.out.keep hbf (by simp; omega) (by simp; omega) (by simp; omega) (by simp; omega), but_fresh (HB.out.wider (l' := [bt, bc, bp]) (by simp)) hbf (by simp; omega)⟩
      | exact ⟨m', by rw [HSQ.out]; rfl, by omega, by rw [HSQ.out]; exact HC.out.keep hbf (by simp; omega) (by simp; omega) (by simp; omega) (by simp; omega), but_fresh (HB.out.wider (l' := [bt, bc, bp]) (by simp)) hbf (by simp; omega)⟩
end Go.Proofs.Ytjlcncdhlcpklaa.Cp
