/-
  Layer 6 (cpu): the document's machine: the contract of its Step, over the translated program.
-/
import Derived.Test.YtjlcncdhlcpklaaCpRefM
namespace Go.Proofs.Ytjlcncdhlcpklaa.Cp
open Go.ChangeShapes Go.WideShapes Go.ChangeAt Go.RowKit
open Fr (MemAt Blk hasW hasF) 
open Tl (En TlbAt Ens getE misE ansE en0)
set_option linter.unusedVariables false
set_option maxRecDepth 20000

/-- The boxes of Step. -/
structure SBx (w : World) (g : Nat) (c : List Int) : Prop where
  ctx : CtxAt w g c
  t8 : w.there (g + 1) 0 17
  t9 : w.there (g + 2) 0 4
theorem SBx.keep {k : List Nat} {w w' : World} {g : Nat} {c : List Int} (h : SBx w g c) (hk : But k w w') (hn : ∀ x ∈ k, x < g ∨ g + 2 < x) : SBx w' g c := by
  have n0 : g ∉ k := fun e => by have := hn _ e; omega
  have n1 : g + 1 ∉ k := fun e => by have := hn _ e; omega
  have n2 : g + 2 ∉ k := fun e => by have := hn _ e; omega
  exact ⟨h.ctx.keep hk n0, there_keep h.t8 hk n1, there_keep h.t9 hk n2⟩
theorem SBx.keep0 {w w' : World} {g : Nat} {c : List Int} (h : SBx w g c) (hk : But [] w w') : SBx w' g c := h.keep hk (by simp)
theorem SBx.set {w : World} {g : Nat} {c : List Int} (h : SBx w g c) (k : Nat) (hk : k < 17) (v : Int) : SBx (w.setCell ⟨g, k, none⟩ (.int .u32 v)) g (c.set k v) := by
  have e : But [g] w (w.setCell ⟨g, k, none⟩ (.int .u32 v)) := (But.refl [g] w).setCell (by simp) _
  exact ⟨h.ctx.set k hk v, there_keep h.t8 e (by simp), there_keep h.t9 e (by simp)⟩
theorem SBx.new (w : World) (c : List Int) (t t'' : TypeId) (hl : c.length = 17) :
    SBx (((w.alloc (.cells (cvl c).toArray t)).alloc (.cells #[.int .u32 0, .int .u32 0, .int .u32 0, .int .u32 0, .int .u32 0, .int .u32 0, .int .u32 0, .int .u32 0, .int .u32 0, .int .u32 0, .int .u32 0, .int .u32 0, .int .u32 0, .int .u32 0, .int .u32 0, .int .u32 0, .int .u32 0] t)).alloc (.cells #[.int .i64 0, .int .i64 0, .bool false, .int .i64 0] t'')) w.heap.size c := by
  have h := two_new (w.alloc (.cells (cvl c).toArray t)) #[.int .u32 0, .int .u32 0, .int .u32 0, .int .u32 0, .int .u32 0, .int .u32 0, .int .u32 0, .int .u32 0, .int .u32 0, .int .u32 0, .int .u32 0, .int .u32 0, .int .u32 0, .int .u32 0, .int .u32 0, .int .u32 0, .int .u32 0] #[.int .i64 0, .int .i64 0, .bool false, .int .i64 0] t t'' 17 4 rfl rfl
  rw [show (w.alloc (.cells (cvl c).toArray t)).heap.size = w.heap.size + 1 by simp] at h
  exact ⟨(CtxAt.new w c t hl).keep (((But.refl [] _).alloc _).alloc _) (by simp), h.1, h.2⟩

/-- The instruction that a program is at. -/
theorem ftc_al {xs : List Int} {l : List En} {s z : Int} (h : ¬ z % 4 = 0) : ftc 4 xs l s z = ⟨⟨5, 0, false, 0⟩, 0, 0, 0, 0⟩ := by
  have e : fndW l s z false = ⟨⟨5, 0, false, 0⟩, 0, 0⟩ := if_neg h
  unfold ftc
  rw [e]
  rfl
theorem ftc_tr {xs : List Int} {l : List En} {s z : Int} {r : Fd} (h : z % 4 = 0) (hr : fnd l s z false = r) (h0 : r.t.cause ≠ 0) : ftc 4 xs l s z = ⟨r.t, 0, 0, 0, 0⟩ := by
  have e : fndW l s z false = r := (if_pos h).trans hr
  unfold ftc
  rw [e]
  exact if_neg h0
theorem ftc_il {xs : List Int} {l : List En} {s z v : Int} {r : Fd} (h : z % 4 = 0) (hr : fnd l s z false = r) (h0 : r.t.cause = 0) (hv : getW 4 xs r.f r.a = v) (hn : vldD v = false) : ftc 4 xs l s z = ⟨⟨3, 0, false, 0⟩, 0, 0, 0, 0⟩ := by
  have e : fndW l s z false = r := (if_pos h).trans hr
  unfold ftc
  rw [e]
  show (if r.t.cause = 0 then _ else _) = _
  rw [if_pos h0, hv, if_neg (by rw [hn]; simp)]
theorem ftc_in {xs : List Int} {l : List En} {s z v : Int} {r : Fd} (h : z % 4 = 0) (hr : fnd l s z false = r) (h0 : r.t.cause = 0) (hv : getW 4 xs r.f r.a = v) (hn : vldD v = true) : ftc 4 xs l s z = ⟨tr0, doR v, daR v, dbR v, diR v⟩ := by
  have e : fndW l s z false = r := (if_pos h).trans hr
  unfold ftc
  rw [e]
  show (if r.t.cause = 0 then _ else _) = _
  rw [if_pos h0, hv, if_pos hn]
theorem st_trap {xs : List Int} {l : List En} {s : Int} {c : List Int} {t : Tr} {o a b i : Int} (h : ftc 4 xs l s (c.getD 16 0) = ⟨t, o, a, b, i⟩) (h0 : t.cause ≠ 0) : stepP 4 xs l s c = ⟨t, c, xs⟩ := by
  unfold stepP
  rw [h]
  exact if_pos h0

theorem st_word {xs : List Int} {l : List En} {s : Int} {c : List Int} {o : Int} {a b : Nat} {i : Int} (hf : ftc 4 xs l s (c.getD 16 0) = ⟨tr0, o, a, b, i⟩) : stepP 4 xs l s c = endD c (doP 4 xs l s o a b i (pc4 c)) := by
  unfold stepP
  rw [hf]
  exact if_neg (by simp [tr0])
theorem bit_or (x y : Nat) (hy : y < 65536) (hx : x < 65536) : bits .or .u32 ((x : Int) * 65536) (y : Int) = (x : Int) * 65536 + y := by
  have e1 : (BitVec.ofInt 32 ((x : Int) * 65536)).toNat = 2 ^ 16 * x := by
    rw [BitVec.toNat_ofInt]
    omega
  have e2 : (BitVec.ofInt 32 (y : Int)).toNat = y := by
    rw [BitVec.toNat_ofInt]
    omega
  have key : (BitVec.ofInt 32 ((x : Int) * 65536) ||| BitVec.ofInt 32 (y : Int)).toNat = 2 ^ 16 * x + y := by
    rw [BitVec.toNat_or, e1, e2, ← Nat.two_pow_add_eq_or_of_lt (by omega)]
  show IntKind.u32.wrap ((BitVec.ofInt 32 ((x : Int) * 65536) ||| BitVec.ofInt 32 (y : Int)).toNat : Nat) = _
  rw [key, IntKind.wrap_u32]
  omega
theorem bit_and (z : Int) (h0 : 0 ≤ z) (h1 : z ≤ 4294967295) : bits .and .u32 z 65535 = z % 65536 := by
  obtain ⟨n, rfl⟩ := Int.eq_ofNat_of_zero_le h0
  have h3 : (BitVec.ofInt 32 65535).toNat = 2 ^ 16 - 1 := by decide
  have key : (BitVec.ofInt 32 (n : Int) &&& BitVec.ofInt 32 65535).toNat = ((n : Int) % ((2 ^ 32 : Nat) : Int)).toNat % 2 ^ 16 := by
    rw [BitVec.toNat_and, BitVec.toNat_ofInt, h3, Nat.and_two_pow_sub_one_eq_mod]
  show IntKind.u32.wrap ((BitVec.ofInt 32 (n : Int) &&& BitVec.ofInt 32 65535).toNat : Nat) = (n : Int) % 65536
  rw [key, IntKind.wrap_u32]
  omega
theorem high_eq (num z y : Int) (hn0 : 0 ≤ num) (hn1 : num ≤ 4294967295) (hz0 : 0 ≤ z) (hz1 : z ≤ 4294967295) : rkP 2 z y num = (num * 65536 + z % 65536) % 4294967296 := by
  show bits .or .u32 (num * 65536 % 4294967296) (bits .and .u32 z 65535) = _
  rw [bit_and z hz0 hz1]
  have h := bit_or (num % 65536).toNat (z % 65536).toNat (by omega) (by omega)
  rw [show ((num % 65536).toNat : Int) * 65536 = num * 65536 % 4294967296 by omega, show ((z % 65536).toNat : Int) = z % 65536 by omega] at h
  rw [h]
  omega
section
variable {xs : List Int} {l : List En} {s i : Int} {a b : Nat} {c : List Int}
theorem end_ok {t : Tr} {c' xs' : List Int} {D : Dn} (h : D = ⟨t, c', xs'⟩) (ht : t.cause = 0 ∨ t.cause = 6) : endD c D = ⟨t, c', xs'⟩ := by
  subst h
  exact if_neg (by dsimp only; omega)
theorem s_jmp {o : Int} (ho : 18 ≤ o ∧ o ≤ 23) : endD c (doP 4 xs l s o a b i (pc4 c)) = ⟨tr0, jmpC o a b i (pc4 c), xs⟩ := by
  refine end_ok ?_ (.inl rfl)
  unfold doP
  rw [if_neg (by omega), if_neg (by omega), if_neg (by omega), if_neg (by omega), if_neg (by omega), if_neg (by omega), if_pos (by omega)]
theorem s_23 (hl : c.length = 17) (ha : a < 16) : endD c (doP 4 xs l s 23 a b i (pc4 c)) = ⟨tr0, c.set 16 (c.getD a 0), xs⟩ := by
  rw [s_jmp (by omega)]
  show Dn.mk tr0 ((pc4 c).set 16 ((pc4 c).getD a 0)) xs = _
  rw [pc4_reg c hl a ha, pc4_set]
theorem s_24 : endD c (doP 4 xs l s 24 a b i (pc4 c)) = ⟨⟨6, 0, false, i % 65536⟩, pc4 c, xs⟩ := end_ok rfl (.inr rfl)
theorem s_rk {o : Int} (h1 : 1 ≤ o ∧ o ≤ 13) (h7 : o ≠ 7) (hl : c.length = 17) (ha : a < 16) (hb : b < 16) : endD c (doP 4 xs l s o a b i (pc4 c)) = ⟨tr0, (pc4 c).set a (rkP o (c.getD a 0) (c.getD b 0) (i % 4294967296)), xs⟩ := by
  refine end_ok ?_ (.inl rfl)
  unfold doP
  rw [if_neg (by omega), if_neg (by omega), if_neg (by omega), if_neg (by omega), if_neg (by omega), if_neg (by omega), if_neg (by omega), pc4_reg c hl a ha, pc4_reg c hl b hb]
theorem s_7n (hl : c.length = 17) (hb : b < 16) (h : c.getD b 0 = 0) : endD c (doP 4 xs l s 7 a b i (pc4 c)) = ⟨⟨4, 0, false, 0⟩, c, xs⟩ := by
  have e : doP 4 xs l s 7 a b i (pc4 c) = ⟨⟨4, 0, false, 0⟩, pc4 c, xs⟩ := by
    show (if (pc4 c).getD b 0 = 0 then _ else _) = _
    rw [pc4_reg c hl b hb, if_pos h]
  rw [e]
  exact if_pos (by simp)
theorem s_7 (hl : c.length = 17) (ha : a < 16) (hb : b < 16) (h : ¬ c.getD b 0 = 0) : endD c (doP 4 xs l s 7 a b i (pc4 c)) = ⟨tr0, (pc4 c).set a (c.getD a 0 / c.getD b 0), xs⟩ := by
  refine end_ok ?_ (.inl rfl)
  show (if (pc4 c).getD b 0 = 0 then _ else _) = _
  rw [pc4_reg c hl b hb, if_neg h, pc4_reg c hl a ha]
theorem rk_num {o z y n : Int} (h1 : o ≠ 1) (h2 : o ≠ 2) (h13 : o ≠ 13) : rkP o z y n = rkP o z y y := by
  unfold rkP
  rw [if_neg h1, if_neg h2, if_neg h1, if_neg h2, if_neg h13, if_neg h13]
end

theorem jmp_len' (op : Int) (a b : Nat) (i : Int) (c : List Int) : (jmpC op a b i c).length = c.length := by
  unfold jmpC
  repeat' split
  all_goals simp
theorem mem_len (c xs : List Int) (l : List En) (s o : Int) (a b : Nat) (i : Int) (h : c.length = 17) : (endD c (doP 4 xs l s o a b i (pc4 c))).c.length = 17 := by
  have e : (doP 4 xs l s o a b i (pc4 c)).c.length = 17 := by
    unfold doP selC
    repeat' split
    all_goals simp [jmp_len', pc4, h]
  unfold endD
  split
  · exact h
  · exact e
set_option maxHeartbeats 4000000 in
theorem rst_al (bM bx cx : Nat) (xs : List Int) (A : Option Addr) (cA lo : Nat) (l : List En) (s : Int) (c : List Int) (w : World) (h : RefAt w bM bx cx 4 xs A cA lo l) (hl8 : l.length ≤ 1000) (hux : U32s xs) (hl : c.length = 17) (hu : U32s c) (hal : ¬ c.getD 16 0 % 4 = 0) :
    Calls Try.prog 9 #[.pointer (some ⟨bM, 0, none⟩), .int .i64 s, .agg (cvl c).toArray] w fun e w' => e = .returned (stepP 4 xs l s c).ans ∧ RefAt w' bM bx cx 4 (stepP 4 xs l s c).xs A cA lo l ∧ But [bx] w w' := by
  obtain ⟨D, hD⟩ : ∃ D, stepP 4 xs l s c = D := ⟨_, rfl⟩
  rw [hD]
  obtain ⟨x, hx16⟩ : ∃ x, c.getD 16 0 = x := ⟨_, rfl⟩
  have hbx := hu 16
  rw [hx16] at hbx
  obtain ⟨hx0, hx1⟩ := hbx
  have HDF : Hid (D = ⟨⟨5, 0, false, 0⟩, c, xs⟩) := hD.symm.trans (st_trap (ftc_al hal) (by simp))
  rw [hx16] at hal
  have hne : (x % 4 != 0) = true := bne_iff_ne.2 hal
  have hX1 := SBx.new w c 27 37 hl
  have hB1 : But [] w (((w.alloc (.cells (cvl c).toArray 27)).alloc (.cells #[.int .u32 0, .int .u32 0, .int .u32 0, .int .u32 0, .int .u32 0, .int .u32 0, .int .u32 0, .int .u32 0, .int .u32 0, .int .u32 0, .int .u32 0, .int .u32 0, .int .u32 0, .int .u32 0, .int .u32 0, .int .u32 0, .int .u32 0] 27)).alloc (.cells #[.int .i64 0, .int .i64 0, .bool false, .int .i64 0] 37)) := (((But.refl [] w).alloc _).alloc _).alloc _
  obtain ⟨g, hg⟩ : ∃ g, g = w.heap.size := ⟨_, rfl⟩
  have HGS : Hid (w.heap.size ≤ g) := by show _ ≤ g; omega
  have HRF : Hid (RefAt w bM bx cx 4 xs A cA lo l) := h
  obtain ⟨hlM, hlx⟩ := h.lt
  rw [← hg] at hlM hlx
  have HLX : Hid (bM < g ∧ bx < g) := ⟨hlM, hlx⟩
  have HLN : Hid (c.length = 17) := hl
  have HU : Hid (U32s c) := hu
  have HUX : Hid (U32s xs) := hux
  have HX16 : Hid (c.getD 16 0 = x) := hx16
  clear h hux hu hl hx16 hD
  go_enter Try.func9, Try.ntmps9
  go_upto_region 1 with fail
  rw [← hg] at hX1 ⊢
  generalize ((w.alloc (.cells (cvl c).toArray 27)).alloc (.cells #[.int .u32 0, .int .u32 0, .int .u32 0, .int .u32 0, .int .u32 0, .int .u32 0, .int .u32 0, .int .u32 0, .int .u32 0, .int .u32 0, .int .u32 0, .int .u32 0, .int .u32 0, .int .u32 0, .int .u32 0, .int .u32 0, .int .u32 0] 27)).alloc (.cells #[.int .i64 0, .int .i64 0, .bool false, .int .i64 0] 37) = w1 at hX1 hB1 ⊢
  have HX : Hid (SBx w1 g c) := hX1
  have HB : Hid (But [] w w1) := hB1
  have hpc : w1.cell? ⟨g, 16, none⟩ = some (.int .u32 x) := by rw [← HX16.out]; exact hX1.ctx.reg 16 (by omega)
  clear hX1 hB1 hg
  have HI9 : Hid ((Try.prog.info? 27).map (·.size) = some (cvl (c)).toArray.size) := by show _ = _; rw [List.size_toArray]; exact cvl_info _ HLN.out
  have HT8' : Hid (w1.there (g + 1) 0 (cvl (c)).toArray.size) := by show World.there _ _ _ _; rw [List.size_toArray, cvl_len, HLN.out]; exact HX.out.t8
  have HT9' : Hid ((w1.setCells (g + 1) 0 (cvl (c))).there (g + 1 + 1) 0 4) := World.there_setCells HX.out.t9 _ _ _
  go_wp2_with (first
    | (refine wpList_load_mid rfl 27 _ rfl g 0 rfl (cvl (c)) _ HX.out.ctx.range Try.underlying27 rfl (cvl_info _ HLN.out) ?_)
    | (refine wpList_store_mid rfl 27 _ _ rfl (g + 1) 0 (cvl (c)).toArray rfl rfl ?ht HI9.out (all_oneCell_toArray (cvl_one _)) ?_; case ht => exact HT8'.out)
    | (refine wpList_store_mid rfl 37 _ _ rfl (g + 1 + 1) 0 #[.int .i64 5, .int .i64 0, .bool false, .int .i64 0] rfl rfl ?ht Try.sizeTrap (Tr.vs_all ⟨5, 0, false, 0⟩) ?_; case ht => exact HT9'.out))
  obtain ⟨v1, v2, hbf⟩ := laid2 w1 (g + 1) (cvl (c)) [.int .i64 5, .int .i64 0, .bool false, .int .i64 0] (by rw [cvl_len, HLN.out]; exact HX.out.t8) HX.out.t9
  refine bodyPost_ret (results_two rfl _ _ (g + 1) 0 (g + 1 + 1) 0 _ _ _ _ rfl v1 Try.underlying27 rfl (cvl_info _ HLN.out) rfl v2 Try.underlying37 rfl Try.sizeTrap) rfl ?_
  have hg0 := HGS.out
  exact ⟨by rw [HDF.out]; rfl, by rw [HDF.out]; exact HRF.out.keep0 (but_fresh HB.out hbf (by simp; omega)), (but_fresh HB.out hbf (by simp; omega)).wider (by simp)⟩
set_option maxHeartbeats 4000000 in
theorem rst_tr (bM bx cx : Nat) (xs : List Int) (A : Option Addr) (cA lo : Nat) (l : List En) (s : Int) (c : List Int) (w : World) (h : RefAt w bM bx cx 4 xs A cA lo l) (hl8 : l.length ≤ 1000) (hux : U32s xs) (hl : c.length = 17) (hu : U32s c) (hal : c.getD 16 0 % 4 = 0) (r : Fd) (hr : fnd l s (c.getD 16 0) false = r) (h0 : r.t.cause ≠ 0) :
    Calls Try.prog 9 #[.pointer (some ⟨bM, 0, none⟩), .int .i64 s, .agg (cvl c).toArray] w fun e w' => e = .returned (stepP 4 xs l s c).ans ∧ RefAt w' bM bx cx 4 (stepP 4 xs l s c).xs A cA lo l ∧ But [bx] w w' := by
  obtain ⟨D, hD⟩ : ∃ D, stepP 4 xs l s c = D := ⟨_, rfl⟩
  rw [hD]
  obtain ⟨x, hx16⟩ : ∃ x, c.getD 16 0 = x := ⟨_, rfl⟩
  have hbx := hu 16
  rw [hx16] at hbx
  obtain ⟨hx0, hx1⟩ := hbx
  have HDF : Hid (D = ⟨r.t, c, xs⟩) := hD.symm.trans (st_trap (ftc_tr hal hr h0) h0)
  rw [hx16] at hal
  have HAL : Hid (x % 4 = 0) := hal
  obtain ⟨⟨t1, t2, t3, t4⟩, f, q⟩ := r
  rw [hx16] at hr
  have HR : Hid (fnd l s x false = ⟨⟨t1, t2, t3, t4⟩, f, q⟩) := hr
  dsimp only at h0
  have HNE : Hid ((t1 != 0) = true) := bne_iff_ne.2 h0
  clear hal hr h0
  have hX1 := SBx.new w c 27 37 hl
  have hB1 : But [] w (((w.alloc (.cells (cvl c).toArray 27)).alloc (.cells #[.int .u32 0, .int .u32 0, .int .u32 0, .int .u32 0, .int .u32 0, .int .u32 0, .int .u32 0, .int .u32 0, .int .u32 0, .int .u32 0, .int .u32 0, .int .u32 0, .int .u32 0, .int .u32 0, .int .u32 0, .int .u32 0, .int .u32 0] 27)).alloc (.cells #[.int .i64 0, .int .i64 0, .bool false, .int .i64 0] 37)) := (((But.refl [] w).alloc _).alloc _).alloc _
  obtain ⟨g, hg⟩ : ∃ g, g = w.heap.size := ⟨_, rfl⟩
  have HGS : Hid (w.heap.size ≤ g) := by show _ ≤ g; omega
  have HRF : Hid (RefAt w bM bx cx 4 xs A cA lo l) := h
  obtain ⟨hlM, hlx⟩ := h.lt
  rw [← hg] at hlM hlx
  have HLX : Hid (bM < g ∧ bx < g) := ⟨hlM, hlx⟩
  have HLN : Hid (c.length = 17) := hl
  have HU : Hid (U32s c) := hu
  have HUX : Hid (U32s xs) := hux
  have HX16 : Hid (c.getD 16 0 = x) := hx16
  clear h hux hu hl hx16 hD
  go_enter Try.func9, Try.ntmps9
  go_upto_region 1 with fail
  rw [← hg] at hX1 ⊢
  generalize ((w.alloc (.cells (cvl c).toArray 27)).alloc (.cells #[.int .u32 0, .int .u32 0, .int .u32 0, .int .u32 0, .int .u32 0, .int .u32 0, .int .u32 0, .int .u32 0, .int .u32 0, .int .u32 0, .int .u32 0, .int .u32 0, .int .u32 0, .int .u32 0, .int .u32 0, .int .u32 0, .int .u32 0] 27)).alloc (.cells #[.int .i64 0, .int .i64 0, .bool false, .int .i64 0] 37) = w1 at hX1 hB1 ⊢
  have HX : Hid (SBx w1 g c) := hX1
  have HB : Hid (But [] w w1) := hB1
  have hpc : w1.cell? ⟨g, 16, none⟩ = some (.int .u32 x) := by rw [← HX16.out]; exact hX1.ctx.reg 16 (by omega)
  clear hX1 hB1 hg
  have hne : (x % 4 != 0) = false := by simp [HAL.out]
  go_wp2_with fail
  refine (rfind_c bM bx cx xs A cA lo l s x false _ (HRF.out.keep0 HB.out) hl8 hx0 hx1).mono ?_
  rintro e w2 ⟨rfl, k2⟩
  rw [HR.out]
  simp only [Tr.vs]
  obtain ⟨P, hP⟩ : ∃ P, plc ⟨⟨t1, t2, t3, t4⟩, f, q⟩ = P := ⟨_, rfl⟩
  rw [hP]
  have hPb := plc_bd ⟨⟨t1, t2, t3, t4⟩, f, q⟩
  rw [hP] at hPb
  obtain ⟨hP0, hP1⟩ := hPb
  have HP : Hid (plc ⟨⟨t1, t2, t3, t4⟩, f, q⟩ = P) := hP
  have hX2 := HX.out.keep0 k2
  have hB2 := HB.out.trans k2
  have hRT := new_range w2 [.int .i64 t1, .int .i64 t2, .bool t3, .int .i64 t4] 37
  have hKT : But [] w2 (w2.alloc (.cells #[.int .i64 t1, .int .i64 t2, .bool t3, .int .i64 t4] 37)) := (But.refl [] w2).alloc _
  clear k2 HX HB hP hpc hne
  go_upto_region 4 with fail
  generalize w2.alloc (.cells #[.int .i64 t1, .int .i64 t2, .bool t3, .int .i64 t4] 37) = w3 at hRT hKT ⊢
  obtain ⟨b3, hb3⟩ : ∃ b3, b3 = w2.heap.size := ⟨_, rfl⟩
  have hg3 : g + 2 < b3 := by rw [hb3]; exact lt_of_there hX2.t9 (by omega)
  rw [← hb3] at hRT ⊢
  have HX : Hid (SBx w3 g c) := hX2.keep0 hKT
  have HB : Hid (But [] w w3) := hB2.trans hKT
  have HRT : Hid (w3.rangeAt b3 0 [.int .i64 t1, .int .i64 t2, .bool t3, .int .i64 t4]) := hRT
  have q0 : w3.cell? ⟨b3, 0, none⟩ = some (.int .i64 t1) := hRT 0 _ rfl
  clear hX2 hB2 hRT hKT hb3
  have hne := HNE.out
  have HT8 : Hid (w3.there (g + 1) 0 17) := HX.out.t8
  have HT9 : Hid (w3.there (g + 2) 0 4) := HX.out.t9
  go_wp2
  refine wp_region_held_drew (S := fun w' => w'.rangeAt g 0 (cvl c) ∧ w'.rangeAt b3 0 [.int .i64 t1, .int .i64 t2, .bool t3, .int .i64 t4]) (by kernel_rfl) ⟨(World.rangeAt_drew _ _ _ _).2 HX.out.ctx.range, (World.rangeAt_drew _ _ _ _).2 HRT.out⟩ (fun hS => ?_)
  refine wpAnyH_take (i := 0) (v := .agg (cvl c).toArray) rfl (by kernel_rfl) (by kernel_rfl) (by kernel_rfl) (fun _ _ _ h => h) (yieldsIf_load_mid (by rfl) _ _ rfl g 0 rfl (cvl c) _ (fun w' h => h.1) Try.underlying27 rfl (cvl_info c HLN.out)) hS ?_
  simp only [Act.put, List.setIfInBounds_toArray]
  refine wpAnyH_take (i := 1) (v := .agg (List.toArray [.int .i64 t1, .int .i64 t2, .bool t3, .int .i64 t4])) rfl (by kernel_rfl) (by kernel_rfl) (by kernel_rfl) (fun _ _ _ h => h) (yieldsIf_load_mid (by rfl) _ _ rfl b3 0 rfl [.int .i64 t1, .int .i64 t2, .bool t3, .int .i64 t4] _ (fun w' h => h.2) Try.underlying37 rfl Try.sizeTrap) hS ?_
  simp only [Act.put]
  refine wpAnyH_ready (rs := [2]) (by kernel_rfl) (by simp) ?_
  refine AllReadyH.cons rfl (fun K hK => ?_) AllReadyH.nil
  rw [if_pos (by rfl)]
  refine wp_store_mid _ _ _ rfl (g + 1) 0 (cvl c).toArray rfl rfl ?_ ?_ (all_oneCell_toArray (cvl_one c)) ?_
  · rw [List.size_toArray, cvl_len, HLN.out]; exact there_keep HT8.out (But.refl [] _).drew (by simp)
  · rw [List.size_toArray]; exact cvl_info c HLN.out
  refine hK.out _ _ ⟨range_keep hS.1 ((But.refl [g + 1] _).setCells (by simp) _ _) (by simp; try omega), range_keep hS.2 ((But.refl [g + 1] _).setCells (by simp) _ _) (by simp; try omega)⟩ (fun hS2 => ?_)
  clear hK K
  simp only [Act.put]
  refine wpAnyH_ready (rs := [3]) (by kernel_rfl) (by simp) ?_
  refine AllReadyH.cons rfl (fun K hK => ?_) AllReadyH.nil
  rw [if_pos (by rfl)]
  refine wp_store_mid _ _ _ rfl (g + 2) 0 (List.toArray [.int .i64 t1, .int .i64 t2, .bool t3, .int .i64 t4]) rfl rfl ?_ Try.sizeTrap (Tr.vs_all ⟨t1, t2, t3, t4⟩) ?_
  · exact World.there_setCells (there_keep HT9.out (But.refl [] _).drew (by simp)) _ _ _
  refine hK.out _ _ ⟨range_keep hS2.1 ((But.refl [g + 2] _).setCells (by simp) _ _) (by simp; try omega), range_keep hS2.2 ((But.refl [g + 2] _).setCells (by simp) _ _) (by simp; try omega)⟩ (fun hS3 => ?_)
  clear hK K
  simp only [Act.put]
  refine wpAnyH_done (by kernel_rfl) ?_ _
  go_wp2
  obtain ⟨v1, v2, hbf⟩ := laid2d w3 (g + 1) (cvl c) [.int .i64 t1, .int .i64 t2, .bool t3, .int .i64 t4] (by rw [cvl_len, HLN.out]; exact HX.out.t8) HX.out.t9
  refine bodyPost_ret (results_two rfl _ _ (g + 1) 0 (g + 2) 0 _ _ _ _ rfl v1 Try.underlying27 rfl (cvl_info c HLN.out) rfl v2 Try.underlying37 rfl Try.sizeTrap) rfl ?_
  have hg0 := HGS.out
  exact ⟨by rw [HDF.out]; rfl, by rw [HDF.out]; exact HRF.out.keep0 (but_fresh HB.out hbf (by simp; omega)), (but_fresh HB.out hbf (by simp; omega)).wider (by simp)⟩
set_option maxHeartbeats 4000000 in
theorem rst_il (bM bx cx : Nat) (xs : List Int) (A : Option Addr) (cA lo : Nat) (l : List En) (s : Int) (c : List Int) (w : World) (h : RefAt w bM bx cx 4 xs A cA lo l) (hl8 : l.length ≤ 1000) (hux : U32s xs) (hl : c.length = 17) (hu : U32s c) (hal : c.getD 16 0 % 4 = 0) (r : Fd) (hr : fnd l s (c.getD 16 0) false = r) (h0 : r.t.cause = 0) (v : Int) (hv : getW 4 xs r.f r.a = v) (hn : vldD v = false) :
    Calls Try.prog 9 #[.pointer (some ⟨bM, 0, none⟩), .int .i64 s, .agg (cvl c).toArray] w fun e w' => e = .returned (stepP 4 xs l s c).ans ∧ RefAt w' bM bx cx 4 (stepP 4 xs l s c).xs A cA lo l ∧ But [bx] w w' := by
  obtain ⟨D, hD⟩ : ∃ D, stepP 4 xs l s c = D := ⟨_, rfl⟩
  rw [hD]
  obtain ⟨x, hx16⟩ : ∃ x, c.getD 16 0 = x := ⟨_, rfl⟩
  have hbx := hu 16
  rw [hx16] at hbx
  obtain ⟨hx0, hx1⟩ := hbx
  have HDF : Hid (D = ⟨⟨3, 0, false, 0⟩, c, xs⟩) := hD.symm.trans (st_trap (ftc_il hal hr h0 hv hn) (by simp))
  obtain ⟨o, ho⟩ : ∃ o, doR v = o := ⟨_, rfl⟩
  obtain ⟨a, hea⟩ : ∃ a, daR v = a := ⟨_, rfl⟩
  obtain ⟨b, heb⟩ : ∃ b, dbR v = b := ⟨_, rfl⟩
  obtain ⟨i, hi⟩ : ∃ i, diR v = i := ⟨_, rfl⟩
  rw [hx16] at hal
  have HAL : Hid (x % 4 = 0) := hal
  obtain ⟨⟨t1, t2, t3, t4⟩, f, q⟩ := r
  rw [hx16] at hr
  have HR : Hid (fnd l s x false = ⟨⟨t1, t2, t3, t4⟩, f, q⟩) := hr
  dsimp only at h0 hv
  have HT1 : Hid (t1 = 0) := h0
  clear h0
  have HV : Hid (getW 4 xs f q = v) := hv
  have HVD : Hid (vldD v = false) := hn
  have HDO : Hid (doR v = o) := ho
  have HDA : Hid (daR v = a) := hea
  have HDB : Hid (dbR v = b) := heb
  have HDI : Hid (diR v = i) := hi
  clear hal hr hv hn ho hea heb hi
  have hX1 := SBx.new w c 27 37 hl
  have hB1 : But [] w (((w.alloc (.cells (cvl c).toArray 27)).alloc (.cells #[.int .u32 0, .int .u32 0, .int .u32 0, .int .u32 0, .int .u32 0, .int .u32 0, .int .u32 0, .int .u32 0, .int .u32 0, .int .u32 0, .int .u32 0, .int .u32 0, .int .u32 0, .int .u32 0, .int .u32 0, .int .u32 0, .int .u32 0] 27)).alloc (.cells #[.int .i64 0, .int .i64 0, .bool false, .int .i64 0] 37)) := (((But.refl [] w).alloc _).alloc _).alloc _
  obtain ⟨g, hg⟩ : ∃ g, g = w.heap.size := ⟨_, rfl⟩
  have HGS : Hid (w.heap.size ≤ g) := by show _ ≤ g; omega
  have HRF : Hid (RefAt w bM bx cx 4 xs A cA lo l) := h
  obtain ⟨hlM, hlx⟩ := h.lt
  rw [← hg] at hlM hlx
  have HLX : Hid (bM < g ∧ bx < g) := ⟨hlM, hlx⟩
  have HLN : Hid (c.length = 17) := hl
  have HU : Hid (U32s c) := hu
  have HUX : Hid (U32s xs) := hux
  have HX16 : Hid (c.getD 16 0 = x) := hx16
  clear h hux hu hl hx16 hD
  go_enter Try.func9, Try.ntmps9
  go_upto_region 1 with fail
  rw [← hg] at hX1 ⊢
  generalize ((w.alloc (.cells (cvl c).toArray 27)).alloc (.cells #[.int .u32 0, .int .u32 0, .int .u32 0, .int .u32 0, .int .u32 0, .int .u32 0, .int .u32 0, .int .u32 0, .int .u32 0, .int .u32 0, .int .u32 0, .int .u32 0, .int .u32 0, .int .u32 0, .int .u32 0, .int .u32 0, .int .u32 0] 27)).alloc (.cells #[.int .i64 0, .int .i64 0, .bool false, .int .i64 0] 37) = w1 at hX1 hB1 ⊢
  have HX : Hid (SBx w1 g c) := hX1
  have HB : Hid (But [] w w1) := hB1
  have hpc : w1.cell? ⟨g, 16, none⟩ = some (.int .u32 x) := by rw [← HX16.out]; exact hX1.ctx.reg 16 (by omega)
  clear hX1 hB1 hg
  have hne : (x % 4 != 0) = false := by simp [HAL.out]
  go_wp2_with fail
  refine (rfind_c bM bx cx xs A cA lo l s x false _ (HRF.out.keep0 HB.out) hl8 hx0 hx1).mono ?_
  rintro e w2 ⟨rfl, k2⟩
  rw [HR.out]
  simp only [Tr.vs]
  obtain ⟨P, hP⟩ : ∃ P, plc ⟨⟨t1, t2, t3, t4⟩, f, q⟩ = P := ⟨_, rfl⟩
  rw [hP]
  have hPb := plc_bd ⟨⟨t1, t2, t3, t4⟩, f, q⟩
  rw [hP] at hPb
  obtain ⟨hP0, hP1⟩ := hPb
  have HP : Hid (plc ⟨⟨t1, t2, t3, t4⟩, f, q⟩ = P) := hP
  have hX2 := HX.out.keep0 k2
  have hB2 := HB.out.trans k2
  have hRT := new_range w2 [.int .i64 t1, .int .i64 t2, .bool t3, .int .i64 t4] 37
  have hKT : But [] w2 (w2.alloc (.cells #[.int .i64 t1, .int .i64 t2, .bool t3, .int .i64 t4] 37)) := (But.refl [] w2).alloc _
  clear k2 HX HB hP hpc hne
  go_upto_region 4 with fail
  generalize w2.alloc (.cells #[.int .i64 t1, .int .i64 t2, .bool t3, .int .i64 t4] 37) = w3 at hRT hKT ⊢
  obtain ⟨b3, hb3⟩ : ∃ b3, b3 = w2.heap.size := ⟨_, rfl⟩
  have hg3 : g + 2 < b3 := by rw [hb3]; exact lt_of_there hX2.t9 (by omega)
  rw [← hb3] at hRT ⊢
  have HX : Hid (SBx w3 g c) := hX2.keep0 hKT
  have HB : Hid (But [] w w3) := hB2.trans hKT
  have HRT : Hid (w3.rangeAt b3 0 [.int .i64 t1, .int .i64 t2, .bool t3, .int .i64 t4]) := hRT
  have q0 : w3.cell? ⟨b3, 0, none⟩ = some (.int .i64 t1) := hRT 0 _ rfl
  clear hX2 hB2 hRT hKT hb3
  have ht1 := HT1.out
  subst ht1
  have hvv : rgw xs P = v := by rw [← HP.out, ← HV.out]; exact rgw_plc xs ⟨⟨0, t2, t3, t4⟩, f, q⟩ rfl
  have hvb := getW_bd (n := 4) HUX.out f q
  rw [HV.out] at hvb
  obtain ⟨hv0, hv1⟩ := hvb
  have HVV : Hid (rgw xs P = v) := hvv
  clear hvv
  go_wp2_with fail
  refine (rgetm_c bM bx cx xs A cA lo l P _ (HRF.out.keep0 HB.out) hP1).mono ?_
  rintro e w5 ⟨rfl, rfl⟩
  rw [HVV.out]
  go_wp2_with fail
  refine (rdecode_c v _ hv0 hv1).mono ?_
  rintro e w4 ⟨rfl, k4⟩
  rw [HVD.out, HDO.out, HDA.out, HDB.out, HDI.out]
  have hX4 := HX.out.keep0 (But.of_below k4)
  have hB4 := HB.out.trans (But.of_below k4)
  have hRI := new_range w4 [.int .i64 o, .int .i64 a, .int .i64 b, .int .i64 i] 75
  have hKI : But [] w4 (w4.alloc (.cells #[.int .i64 o, .int .i64 a, .int .i64 b, .int .i64 i] 75)) := (But.refl [] w4).alloc _
  clear k4 HX HB q0 HRT
  go_upto_region 7 with fail
  generalize w4.alloc (.cells #[.int .i64 o, .int .i64 a, .int .i64 b, .int .i64 i] 75) = w6 at hRI hKI ⊢
  obtain ⟨bI, hbI⟩ : ∃ bI, bI = w4.heap.size := ⟨_, rfl⟩
  have hgI : g + 2 < bI := by rw [hbI]; exact lt_of_there hX4.t9 (by omega)
  rw [← hbI] at hRI ⊢
  have HX : Hid (SBx w6 g c) := hX4.keep0 hKI
  have HB : Hid (But [] w w6) := hB4.trans hKI
  have HRI : Hid (w6.rangeAt bI 0 [.int .i64 o, .int .i64 a, .int .i64 b, .int .i64 i]) := hRI
  have i0 : w6.cell? ⟨bI, 0, none⟩ = some (.int .i64 o) := hRI 0 _ rfl
  have i1 : w6.cell? ⟨bI, 1, none⟩ = some (.int .i64 a) := hRI 1 _ rfl
  have i2 : w6.cell? ⟨bI, 2, none⟩ = some (.int .i64 b) := hRI 2 _ rfl
  have i3 : w6.cell? ⟨bI, 3, none⟩ = some (.int .i64 i) := hRI 3 _ rfl
  clear hX4 hB4 hRI hKI hbI HVV
  have HI9 : Hid ((Try.prog.info? 27).map (·.size) = some (cvl (c)).toArray.size) := by show _ = _; rw [List.size_toArray]; exact cvl_info _ HLN.out
  have HT8' : Hid (w6.there (g + 1) 0 (cvl (c)).toArray.size) := by show World.there _ _ _ _; rw [List.size_toArray, cvl_len, HLN.out]; exact HX.out.t8
  have HT9' : Hid ((w6.setCells (g + 1) 0 (cvl (c))).there (g + 1 + 1) 0 4) := World.there_setCells HX.out.t9 _ _ _
  go_wp2_with (first
    | (refine wpList_load_mid rfl 27 _ rfl g 0 rfl (cvl (c)) _ HX.out.ctx.range Try.underlying27 rfl (cvl_info _ HLN.out) ?_)
    | (refine wpList_store_mid rfl 27 _ _ rfl (g + 1) 0 (cvl (c)).toArray rfl rfl ?ht HI9.out (all_oneCell_toArray (cvl_one _)) ?_; case ht => exact HT8'.out)
    | (refine wpList_store_mid rfl 37 _ _ rfl (g + 1 + 1) 0 #[.int .i64 3, .int .i64 0, .bool false, .int .i64 0] rfl rfl ?ht Try.sizeTrap (Tr.vs_all ⟨3, 0, false, 0⟩) ?_; case ht => exact HT9'.out))
  obtain ⟨v1, v2, hbf⟩ := laid2 w6 (g + 1) (cvl (c)) [.int .i64 3, .int .i64 0, .bool false, .int .i64 0] (by rw [cvl_len, HLN.out]; exact HX.out.t8) HX.out.t9
  refine bodyPost_ret (results_two rfl _ _ (g + 1) 0 (g + 1 + 1) 0 _ _ _ _ rfl v1 Try.underlying27 rfl (cvl_info _ HLN.out) rfl v2 Try.underlying37 rfl Try.sizeTrap) rfl ?_
  have hg0 := HGS.out
  exact ⟨by rw [HDF.out]; rfl, by rw [HDF.out]; exact HRF.out.keep0 (but_fresh HB.out hbf (by simp; omega)), (but_fresh HB.out hbf (by simp; omega)).wider (by simp)⟩
set_option maxHeartbeats 4000000 in
theorem rst_mem (bM bx cx : Nat) (xs : List Int) (A : Option Addr) (cA lo : Nat) (l : List En) (s : Int) (c : List Int) (w : World) (h : RefAt w bM bx cx 4 xs A cA lo l) (hl8 : l.length ≤ 1000) (hux : U32s xs) (hl : c.length = 17) (hu : U32s c) (hal : c.getD 16 0 % 4 = 0) (r : Fd) (hr : fnd l s (c.getD 16 0) false = r) (h0 : r.t.cause = 0) (v : Int) (hv : getW 4 xs r.f r.a = v) (hn : vldD v = true) (o : Int) (a b : Nat) (i : Int) (ho : doR v = o) (hea : daR v = a) (heb : dbR v = b) (hi : diR v = i) (ha : a < 16) (hb : b < 16) (hib : -32768 ≤ i ∧ i ≤ 32767) (hop : 14 ≤ o ∧ o ≤ 17) :
    Calls Try.prog 9 #[.pointer (some ⟨bM, 0, none⟩), .int .i64 s, .agg (cvl c).toArray] w fun e w' => e = .returned (stepP 4 xs l s c).ans ∧ RefAt w' bM bx cx 4 (stepP 4 xs l s c).xs A cA lo l ∧ But [bx] w w' := by
  obtain ⟨D, hD⟩ : ∃ D, stepP 4 xs l s c = D := ⟨_, rfl⟩
  rw [hD]
  obtain ⟨x, hx16⟩ : ∃ x, c.getD 16 0 = x := ⟨_, rfl⟩
  have hbx := hu 16
  rw [hx16] at hbx
  obtain ⟨hx0, hx1⟩ := hbx
  have hfc : ftc 4 xs l s (c.getD 16 0) = ⟨tr0, o, a, b, i⟩ := by rw [ftc_in hal hr h0 hv hn, ho, hea, heb, hi]
  have hDE : D = endD c (doP 4 xs l s o a b i (pc4 c)) := hD.symm.trans (st_word hfc)
  obtain ⟨hib0, hib1⟩ := hib
  obtain ⟨hop0, hop1⟩ := hop
  have HDE : Hid (D = endD c (doP 4 xs l s o a b i (pc4 c))) := hDE
  clear hDE hfc
  rw [hx16] at hal
  have HAL : Hid (x % 4 = 0) := hal
  obtain ⟨⟨t1, t2, t3, t4⟩, f, q⟩ := r
  rw [hx16] at hr
  have HR : Hid (fnd l s x false = ⟨⟨t1, t2, t3, t4⟩, f, q⟩) := hr
  dsimp only at h0 hv
  have HT1 : Hid (t1 = 0) := h0
  clear h0
  have HV : Hid (getW 4 xs f q = v) := hv
  have HVD : Hid (vldD v = true) := hn
  have HDO : Hid (doR v = o) := ho
  have HDA : Hid (daR v = a) := hea
  have HDB : Hid (dbR v = b) := heb
  have HDI : Hid (diR v = i) := hi
  clear hal hr hv hn ho hea heb hi
  have ha16 : (a : Int) < 16 := by omega
  have ha0 : (0 : Int) ≤ (a : Int) := by omega
  have hb16 : (b : Int) < 16 := by omega
  have hb0 : (0 : Int) ≤ (b : Int) := by omega
  obtain ⟨z, hz⟩ : ∃ z, c.getD a 0 = z := ⟨_, rfl⟩
  obtain ⟨y, hy⟩ : ∃ y, c.getD b 0 = y := ⟨_, rfl⟩
  have hbz := hu a
  have hby := hu b
  rw [hz] at hbz
  rw [hy] at hby
  obtain ⟨hz0, hz1⟩ := hbz
  obtain ⟨hy0, hy1⟩ := hby
  have HZ : Hid (c.getD a 0 = z) := hz
  have HY : Hid (c.getD b 0 = y) := hy
  have hX1 := SBx.new w c 27 37 hl
  have hB1 : But [] w (((w.alloc (.cells (cvl c).toArray 27)).alloc (.cells #[.int .u32 0, .int .u32 0, .int .u32 0, .int .u32 0, .int .u32 0, .int .u32 0, .int .u32 0, .int .u32 0, .int .u32 0, .int .u32 0, .int .u32 0, .int .u32 0, .int .u32 0, .int .u32 0, .int .u32 0, .int .u32 0, .int .u32 0] 27)).alloc (.cells #[.int .i64 0, .int .i64 0, .bool false, .int .i64 0] 37)) := (((But.refl [] w).alloc _).alloc _).alloc _
  obtain ⟨g, hg⟩ : ∃ g, g = w.heap.size := ⟨_, rfl⟩
  have HGS : Hid (w.heap.size ≤ g) := by show _ ≤ g; omega
  have HRF : Hid (RefAt w bM bx cx 4 xs A cA lo l) := h
  obtain ⟨hlM, hlx⟩ := h.lt
  rw [← hg] at hlM hlx
  have HLX : Hid (bM < g ∧ bx < g) := ⟨hlM, hlx⟩
  have HLN : Hid (c.length = 17) := hl
  have HU : Hid (U32s c) := hu
  have HUX : Hid (U32s xs) := hux
  have HX16 : Hid (c.getD 16 0 = x) := hx16
  clear h hux hu hl hx16 hD
  go_enter Try.func9, Try.ntmps9
  go_upto_region 1 with fail
  rw [← hg] at hX1 ⊢
  generalize ((w.alloc (.cells (cvl c).toArray 27)).alloc (.cells #[.int .u32 0, .int .u32 0, .int .u32 0, .int .u32 0, .int .u32 0, .int .u32 0, .int .u32 0, .int .u32 0, .int .u32 0, .int .u32 0, .int .u32 0, .int .u32 0, .int .u32 0, .int .u32 0, .int .u32 0, .int .u32 0, .int .u32 0] 27)).alloc (.cells #[.int .i64 0, .int .i64 0, .bool false, .int .i64 0] 37) = w1 at hX1 hB1 ⊢
  have HX : Hid (SBx w1 g c) := hX1
  have HB : Hid (But [] w w1) := hB1
  have hpc : w1.cell? ⟨g, 16, none⟩ = some (.int .u32 x) := by rw [← HX16.out]; exact hX1.ctx.reg 16 (by omega)
  clear hX1 hB1 hg
  clear hz hy
  have hne : (x % 4 != 0) = false := by simp [HAL.out]
  go_wp2_with fail
  refine (rfind_c bM bx cx xs A cA lo l s x false _ (HRF.out.keep0 HB.out) hl8 hx0 hx1).mono ?_
  rintro e w2 ⟨rfl, k2⟩
  rw [HR.out]
  simp only [Tr.vs]
  obtain ⟨P, hP⟩ : ∃ P, plc ⟨⟨t1, t2, t3, t4⟩, f, q⟩ = P := ⟨_, rfl⟩
  rw [hP]
  have hPb := plc_bd ⟨⟨t1, t2, t3, t4⟩, f, q⟩
  rw [hP] at hPb
  obtain ⟨hP0, hP1⟩ := hPb
  have HP : Hid (plc ⟨⟨t1, t2, t3, t4⟩, f, q⟩ = P) := hP
  have hX2 := HX.out.keep0 k2
  have hB2 := HB.out.trans k2
  have hRT := new_range w2 [.int .i64 t1, .int .i64 t2, .bool t3, .int .i64 t4] 37
  have hKT : But [] w2 (w2.alloc (.cells #[.int .i64 t1, .int .i64 t2, .bool t3, .int .i64 t4] 37)) := (But.refl [] w2).alloc _
  clear k2 HX HB hP hpc hne
  go_upto_region 4 with fail
  generalize w2.alloc (.cells #[.int .i64 t1, .int .i64 t2, .bool t3, .int .i64 t4] 37) = w3 at hRT hKT ⊢
  obtain ⟨b3, hb3⟩ : ∃ b3, b3 = w2.heap.size := ⟨_, rfl⟩
  have hg3 : g + 2 < b3 := by rw [hb3]; exact lt_of_there hX2.t9 (by omega)
  rw [← hb3] at hRT ⊢
  have HX : Hid (SBx w3 g c) := hX2.keep0 hKT
  have HB : Hid (But [] w w3) := hB2.trans hKT
  have HRT : Hid (w3.rangeAt b3 0 [.int .i64 t1, .int .i64 t2, .bool t3, .int .i64 t4]) := hRT
  have q0 : w3.cell? ⟨b3, 0, none⟩ = some (.int .i64 t1) := hRT 0 _ rfl
  clear hX2 hB2 hRT hKT hb3
  have ht1 := HT1.out
  subst ht1
  have hvv : rgw xs P = v := by rw [← HP.out, ← HV.out]; exact rgw_plc xs ⟨⟨0, t2, t3, t4⟩, f, q⟩ rfl
  have hvb := getW_bd (n := 4) HUX.out f q
  rw [HV.out] at hvb
  obtain ⟨hv0, hv1⟩ := hvb
  have HVV : Hid (rgw xs P = v) := hvv
  clear hvv
  go_wp2_with fail
  refine (rgetm_c bM bx cx xs A cA lo l P _ (HRF.out.keep0 HB.out) hP1).mono ?_
  rintro e w5 ⟨rfl, rfl⟩
  rw [HVV.out]
  go_wp2_with fail
  refine (rdecode_c v _ hv0 hv1).mono ?_
  rintro e w4 ⟨rfl, k4⟩
  rw [HVD.out, HDO.out, HDA.out, HDB.out, HDI.out]
  have hX4 := HX.out.keep0 (But.of_below k4)
  have hB4 := HB.out.trans (But.of_below k4)
  have hRI := new_range w4 [.int .i64 o, .int .i64 a, .int .i64 b, .int .i64 i] 75
  have hKI : But [] w4 (w4.alloc (.cells #[.int .i64 o, .int .i64 a, .int .i64 b, .int .i64 i] 75)) := (But.refl [] w4).alloc _
  clear k4 HX HB q0 HRT
  go_upto_region 7 with fail
  generalize w4.alloc (.cells #[.int .i64 o, .int .i64 a, .int .i64 b, .int .i64 i] 75) = w6 at hRI hKI ⊢
  obtain ⟨bI, hbI⟩ : ∃ bI, bI = w4.heap.size := ⟨_, rfl⟩
  have hgI : g + 2 < bI := by rw [hbI]; exact lt_of_there hX4.t9 (by omega)
  rw [← hbI] at hRI ⊢
  have HX : Hid (SBx w6 g c) := hX4.keep0 hKI
  have HB : Hid (But [] w w6) := hB4.trans hKI
  have HRI : Hid (w6.rangeAt bI 0 [.int .i64 o, .int .i64 a, .int .i64 b, .int .i64 i]) := hRI
  have i0 : w6.cell? ⟨bI, 0, none⟩ = some (.int .i64 o) := hRI 0 _ rfl
  have i1 : w6.cell? ⟨bI, 1, none⟩ = some (.int .i64 a) := hRI 1 _ rfl
  have i2 : w6.cell? ⟨bI, 2, none⟩ = some (.int .i64 b) := hRI 2 _ rfl
  have i3 : w6.cell? ⟨bI, 3, none⟩ = some (.int .i64 i) := hRI 3 _ rfl
  clear hX4 hB4 hRI hKI hbI HVV
  go_wp2_with (first
    | (refine wpList_load_mid rfl 27 _ rfl g 0 rfl (cvl c) _ HX.out.ctx.range Try.underlying27 rfl (cvl_info _ HLN.out) ?_))
  refine (rmemory_c bM bx cx xs A cA lo l s o a b i c _ ⟨hop0, hop1⟩ (HRF.out.keep0 HB.out) hl8 HUX.out HLN.out HU.out ha hb).mono ?_
  rintro e w7 ⟨rfl, hR7, k7⟩
  have hlen : (endD c (doP 4 xs l s o a b i (pc4 c))).c.length = 17 := mem_len c xs l s o a b i HLN.out
  have hxl := hR7.len
  rw [← HDE.out] at hR7 hlen ⊢
  obtain ⟨⟨u1, u2, u3, u4⟩, c', xs'⟩ := D
  dsimp only at hR7 hlen
  simp only [Dn.ans, Tr.vs]
  have HL7 : Hid (c'.length = 17) := hlen
  have hX7 := HX.out.keep k7 (by simp; omega)
  have HB7 : Hid (But [bx] w w7) := (HB.out.any _).trans k7
  have HBK : Hid (Blk w7 bx xs') := hR7.blk
  have HXL : Hid (xs'.length = 16 * 4) := hR7.len
  clear HX HB i0 i1 i2 i3 HRI k7 hR7 hlen HDE hxl
  have HX : Hid (SBx w7 g c) := hX7
  clear hX7
  have HI9 : Hid ((Try.prog.info? 27).map (·.size) = some (cvl (c')).toArray.size) := by show _ = _; rw [List.size_toArray]; exact cvl_info _ HL7.out
  have HT8' : Hid (w7.there (g + 1) 0 (cvl (c')).toArray.size) := by show World.there _ _ _ _; rw [List.size_toArray, cvl_len, HL7.out]; exact HX.out.t8
  have HT9' : Hid ((w7.setCells (g + 1) 0 (cvl (c'))).there (g + 1 + 1) 0 4) := World.there_setCells HX.out.t9 _ _ _
  go_wp2_with (first
    | (refine wpList_store_mid rfl 27 _ _ rfl (g + 1) 0 (cvl (c')).toArray rfl rfl ?ht HI9.out (all_oneCell_toArray (cvl_one _)) ?_; case ht => exact HT8'.out)
    | (refine wpList_store_mid rfl 37 _ _ rfl (g + 1 + 1) 0 #[.int .i64 u1, .int .i64 u2, .bool u3, .int .i64 u4] rfl rfl ?ht Try.sizeTrap (Tr.vs_all ⟨u1, u2, u3, u4⟩) ?_; case ht => exact HT9'.out))
  obtain ⟨v1, v2, hbf⟩ := laid2 w7 (g + 1) (cvl (c')) [.int .i64 u1, .int .i64 u2, .bool u3, .int .i64 u4] (by rw [cvl_len, HL7.out]; exact HX.out.t8) HX.out.t9
  refine bodyPost_ret (results_two rfl _ _ (g + 1) 0 (g + 1 + 1) 0 _ _ _ _ rfl v1 Try.underlying27 rfl (cvl_info _ HL7.out) rfl v2 Try.underlying37 rfl Try.sizeTrap) rfl ?_
  have hg0 := HGS.out
  have hlx := HLX.out
  have hB9 : But [bx] w _ := but_fresh HB7.out hbf (by simp; omega)
  exact ⟨rfl, HRF.out.memed hB9 (HBK.out.keep hbf (by simp; omega)) (by rw [HXL.out, HRF.out.len]), hB9⟩
set_option maxHeartbeats 4000000 in
theorem rst_jmp (bM bx cx : Nat) (xs : List Int) (A : Option Addr) (cA lo : Nat) (l : List En) (s : Int) (c : List Int) (w : World) (h : RefAt w bM bx cx 4 xs A cA lo l) (hl8 : l.length ≤ 1000) (hux : U32s xs) (hl : c.length = 17) (hu : U32s c) (hal : c.getD 16 0 % 4 = 0) (r : Fd) (hr : fnd l s (c.getD 16 0) false = r) (h0 : r.t.cause = 0) (v : Int) (hv : getW 4 xs r.f r.a = v) (hn : vldD v = true) (o : Int) (a b : Nat) (i : Int) (ho : doR v = o) (hea : daR v = a) (heb : dbR v = b) (hi : diR v = i) (ha : a < 16) (hb : b < 16) (hib : -32768 ≤ i ∧ i ≤ 32767) (hop : 18 ≤ o ∧ o ≤ 22) :
    Calls Try.prog 9 #[.pointer (some ⟨bM, 0, none⟩), .int .i64 s, .agg (cvl c).toArray] w fun e w' => e = .returned (stepP 4 xs l s c).ans ∧ RefAt w' bM bx cx 4 (stepP 4 xs l s c).xs A cA lo l ∧ But [bx] w w' := by
  obtain ⟨D, hD⟩ : ∃ D, stepP 4 xs l s c = D := ⟨_, rfl⟩
  rw [hD]
  obtain ⟨x, hx16⟩ : ∃ x, c.getD 16 0 = x := ⟨_, rfl⟩
  have hbx := hu 16
  rw [hx16] at hbx
  obtain ⟨hx0, hx1⟩ := hbx
  have hfc : ftc 4 xs l s (c.getD 16 0) = ⟨tr0, o, a, b, i⟩ := by rw [ftc_in hal hr h0 hv hn, ho, hea, heb, hi]
  have hDE : D = endD c (doP 4 xs l s o a b i (pc4 c)) := hD.symm.trans (st_word hfc)
  obtain ⟨hib0, hib1⟩ := hib
  obtain ⟨hop0, hop1⟩ := hop
  obtain ⟨c', hc'⟩ : ∃ c', jmpC o a b i (pc4 c) = c' := ⟨_, rfl⟩
  have HDF : Hid (D = ⟨tr0, c', xs⟩) := hDE.trans ((s_jmp (by omega)).trans (by rw [hc']))
  have HL7 : Hid (c'.length = 17) := by show _ = _; rw [← hc', jmp_len', pc4, List.length_set]; exact hl
  have HCC : Hid (jmpC o a b i (pc4 c) = c') := hc'
  clear hDE hfc hc'
  rw [hx16] at hal
  have HAL : Hid (x % 4 = 0) := hal
  obtain ⟨⟨t1, t2, t3, t4⟩, f, q⟩ := r
  rw [hx16] at hr
  have HR : Hid (fnd l s x false = ⟨⟨t1, t2, t3, t4⟩, f, q⟩) := hr
  dsimp only at h0 hv
  have HT1 : Hid (t1 = 0) := h0
  clear h0
  have HV : Hid (getW 4 xs f q = v) := hv
  have HVD : Hid (vldD v = true) := hn
  have HDO : Hid (doR v = o) := ho
  have HDA : Hid (daR v = a) := hea
  have HDB : Hid (dbR v = b) := heb
  have HDI : Hid (diR v = i) := hi
  clear hal hr hv hn ho hea heb hi
  have ha16 : (a : Int) < 16 := by omega
  have ha0 : (0 : Int) ≤ (a : Int) := by omega
  have hb16 : (b : Int) < 16 := by omega
  have hb0 : (0 : Int) ≤ (b : Int) := by omega
  obtain ⟨z, hz⟩ : ∃ z, c.getD a 0 = z := ⟨_, rfl⟩
  obtain ⟨y, hy⟩ : ∃ y, c.getD b 0 = y := ⟨_, rfl⟩
  have hbz := hu a
  have hby := hu b
  rw [hz] at hbz
  rw [hy] at hby
  obtain ⟨hz0, hz1⟩ := hbz
  obtain ⟨hy0, hy1⟩ := hby
  have HZ : Hid (c.getD a 0 = z) := hz
  have HY : Hid (c.getD b 0 = y) := hy
  have hX1 := SBx.new w c 27 37 hl
  have hB1 : But [] w (((w.alloc (.cells (cvl c).toArray 27)).alloc (.cells #[.int .u32 0, .int .u32 0, .int .u32 0, .int .u32 0, .int .u32 0, .int .u32 0, .int .u32 0, .int .u32 0, .int .u32 0, .int .u32 0, .int .u32 0, .int .u32 0, .int .u32 0, .int .u32 0, .int .u32 0, .int .u32 0, .int .u32 0] 27)).alloc (.cells #[.int .i64 0, .int .i64 0, .bool false, .int .i64 0] 37)) := (((But.refl [] w).alloc _).alloc _).alloc _
  obtain ⟨g, hg⟩ : ∃ g, g = w.heap.size := ⟨_, rfl⟩
  have HGS : Hid (w.heap.size ≤ g) := by show _ ≤ g; omega
  have HRF : Hid (RefAt w bM bx cx 4 xs A cA lo l) := h
  obtain ⟨hlM, hlx⟩ := h.lt
  rw [← hg] at hlM hlx
  have HLX : Hid (bM < g ∧ bx < g) := ⟨hlM, hlx⟩
  have HLN : Hid (c.length = 17) := hl
  have HU : Hid (U32s c) := hu
  have HUX : Hid (U32s xs) := hux
  have HX16 : Hid (c.getD 16 0 = x) := hx16
  clear h hux hu hl hx16 hD
  go_enter Try.func9, Try.ntmps9
  go_upto_region 1 with fail
  rw [← hg] at hX1 ⊢
  generalize ((w.alloc (.cells (cvl c).toArray 27)).alloc (.cells #[.int .u32 0, .int .u32 0, .int .u32 0, .int .u32 0, .int .u32 0, .int .u32 0, .int .u32 0, .int .u32 0, .int .u32 0, .int .u32 0, .int .u32 0, .int .u32 0, .int .u32 0, .int .u32 0, .int .u32 0, .int .u32 0, .int .u32 0] 27)).alloc (.cells #[.int .i64 0, .int .i64 0, .bool false, .int .i64 0] 37) = w1 at hX1 hB1 ⊢
  have HX : Hid (SBx w1 g c) := hX1
  have HB : Hid (But [] w w1) := hB1
  have hpc : w1.cell? ⟨g, 16, none⟩ = some (.int .u32 x) := by rw [← HX16.out]; exact hX1.ctx.reg 16 (by omega)
  clear hX1 hB1 hg
  clear hz hy
  have hne : (x % 4 != 0) = false := by simp [HAL.out]
  go_wp2_with fail
  refine (rfind_c bM bx cx xs A cA lo l s x false _ (HRF.out.keep0 HB.out) hl8 hx0 hx1).mono ?_
  rintro e w2 ⟨rfl, k2⟩
  rw [HR.out]
  simp only [Tr.vs]
  obtain ⟨P, hP⟩ : ∃ P, plc ⟨⟨t1, t2, t3, t4⟩, f, q⟩ = P := ⟨_, rfl⟩
  rw [hP]
  have hPb := plc_bd ⟨⟨t1, t2, t3, t4⟩, f, q⟩
  rw [hP] at hPb
  obtain ⟨hP0, hP1⟩ := hPb
  have HP : Hid (plc ⟨⟨t1, t2, t3, t4⟩, f, q⟩ = P) := hP
  have hX2 := HX.out.keep0 k2
  have hB2 := HB.out.trans k2
  have hRT := new_range w2 [.int .i64 t1, .int .i64 t2, .bool t3, .int .i64 t4] 37
  have hKT : But [] w2 (w2.alloc (.cells #[.int .i64 t1, .int .i64 t2, .bool t3, .int .i64 t4] 37)) := (But.refl [] w2).alloc _
  clear k2 HX HB hP hpc hne
  go_upto_region 4 with fail
  generalize w2.alloc (.cells #[.int .i64 t1, .int .i64 t2, .bool t3, .int .i64 t4] 37) = w3 at hRT hKT ⊢
  obtain ⟨b3, hb3⟩ : ∃ b3, b3 = w2.heap.size := ⟨_, rfl⟩
  have hg3 : g + 2 < b3 := by rw [hb3]; exact lt_of_there hX2.t9 (by omega)
  rw [← hb3] at hRT ⊢
  have HX : Hid (SBx w3 g c) := hX2.keep0 hKT
  have HB : Hid (But [] w w3) := hB2.trans hKT
  have HRT : Hid (w3.rangeAt b3 0 [.int .i64 t1, .int .i64 t2, .bool t3, .int .i64 t4]) := hRT
  have q0 : w3.cell? ⟨b3, 0, none⟩ = some (.int .i64 t1) := hRT 0 _ rfl
  clear hX2 hB2 hRT hKT hb3
  have ht1 := HT1.out
  subst ht1
  have hvv : rgw xs P = v := by rw [← HP.out, ← HV.out]; exact rgw_plc xs ⟨⟨0, t2, t3, t4⟩, f, q⟩ rfl
  have hvb := getW_bd (n := 4) HUX.out f q
  rw [HV.out] at hvb
  obtain ⟨hv0, hv1⟩ := hvb
  have HVV : Hid (rgw xs P = v) := hvv
  clear hvv
  go_wp2_with fail
  refine (rgetm_c bM bx cx xs A cA lo l P _ (HRF.out.keep0 HB.out) hP1).mono ?_
  rintro e w5 ⟨rfl, rfl⟩
  rw [HVV.out]
  go_wp2_with fail
  refine (rdecode_c v _ hv0 hv1).mono ?_
  rintro e w4 ⟨rfl, k4⟩
  rw [HVD.out, HDO.out, HDA.out, HDB.out, HDI.out]
  have hX4 := HX.out.keep0 (But.of_below k4)
  have hB4 := HB.out.trans (But.of_below k4)
  have hRI := new_range w4 [.int .i64 o, .int .i64 a, .int .i64 b, .int .i64 i] 75
  have hKI : But [] w4 (w4.alloc (.cells #[.int .i64 o, .int .i64 a, .int .i64 b, .int .i64 i] 75)) := (But.refl [] w4).alloc _
  clear k4 HX HB q0 HRT
  go_upto_region 7 with fail
  generalize w4.alloc (.cells #[.int .i64 o, .int .i64 a, .int .i64 b, .int .i64 i] 75) = w6 at hRI hKI ⊢
  obtain ⟨bI, hbI⟩ : ∃ bI, bI = w4.heap.size := ⟨_, rfl⟩
  have hgI : g + 2 < bI := by rw [hbI]; exact lt_of_there hX4.t9 (by omega)
  rw [← hbI] at hRI ⊢
  have HX : Hid (SBx w6 g c) := hX4.keep0 hKI
  have HB : Hid (But [] w w6) := hB4.trans hKI
  have HRI : Hid (w6.rangeAt bI 0 [.int .i64 o, .int .i64 a, .int .i64 b, .int .i64 i]) := hRI
  have i0 : w6.cell? ⟨bI, 0, none⟩ = some (.int .i64 o) := hRI 0 _ rfl
  have i1 : w6.cell? ⟨bI, 1, none⟩ = some (.int .i64 a) := hRI 1 _ rfl
  have i2 : w6.cell? ⟨bI, 2, none⟩ = some (.int .i64 b) := hRI 2 _ rfl
  have i3 : w6.cell? ⟨bI, 3, none⟩ = some (.int .i64 i) := hRI 3 _ rfl
  clear hX4 hB4 hRI hKI hbI HVV
  go_wp2_with (first
    | (refine wpList_load_mid rfl 27 _ rfl g 0 rfl (cvl c) _ HX.out.ctx.range Try.underlying27 rfl (cvl_info _ HLN.out) ?_))
  refine (rjump_c o a b i c _ ⟨hop0, hop1⟩ HLN.out HU.out ha hb).mono ?_
  rintro e w7 ⟨rfl, k7⟩
  rw [HCC.out]
  have hX7 := HX.out.keep0 k7
  have hB7 := HB.out.trans k7
  clear HX HB i0 i1 i2 i3 HRI k7 HCC
  have HX : Hid (SBx w7 g c) := hX7
  have HB : Hid (But [] w w7) := hB7
  clear hX7 hB7
  have HI9 : Hid ((Try.prog.info? 27).map (·.size) = some (cvl (c')).toArray.size) := by show _ = _; rw [List.size_toArray]; exact cvl_info _ HL7.out
  have HT8' : Hid (w7.there (g + 1) 0 (cvl (c')).toArray.size) := by show World.there _ _ _ _; rw [List.size_toArray, cvl_len, HL7.out]; exact HX.out.t8
  have HT9' : Hid ((w7.setCells (g + 1) 0 (cvl (c'))).there (g + 1 + 1) 0 4) := World.there_setCells HX.out.t9 _ _ _
  go_wp2_with (first
    | (refine wpList_store_mid rfl 27 _ _ rfl (g + 1) 0 (cvl (c')).toArray rfl rfl ?ht HI9.out (all_oneCell_toArray (cvl_one _)) ?_; case ht => exact HT8'.out)
    | (refine wpList_store_mid rfl 37 _ _ rfl (g + 1 + 1) 0 #[.int .i64 0, .int .i64 0, .bool false, .int .i64 0] rfl rfl ?ht Try.sizeTrap (Tr.vs_all tr0) ?_; case ht => exact HT9'.out))
  obtain ⟨v1, v2, hbf⟩ := laid2 w7 (g + 1) (cvl (c')) [.int .i64 0, .int .i64 0, .bool false, .int .i64 0] (by rw [cvl_len, HL7.out]; exact HX.out.t8) HX.out.t9
  refine bodyPost_ret (results_two rfl _ _ (g + 1) 0 (g + 1 + 1) 0 _ _ _ _ rfl v1 Try.underlying27 rfl (cvl_info _ HL7.out) rfl v2 Try.underlying37 rfl Try.sizeTrap) rfl ?_
  have hg0 := HGS.out
  exact ⟨by rw [HDF.out]; rfl, by rw [HDF.out]; exact HRF.out.keep0 (but_fresh HB.out hbf (by simp; omega)), (but_fresh HB.out hbf (by simp; omega)).wider (by simp)⟩
set_option maxHeartbeats 4000000 in
theorem rst_ret (bM bx cx : Nat) (xs : List Int) (A : Option Addr) (cA lo : Nat) (l : List En) (s : Int) (c : List Int) (w : World) (h : RefAt w bM bx cx 4 xs A cA lo l) (hl8 : l.length ≤ 1000) (hux : U32s xs) (hl : c.length = 17) (hu : U32s c) (hal : c.getD 16 0 % 4 = 0) (r : Fd) (hr : fnd l s (c.getD 16 0) false = r) (h0 : r.t.cause = 0) (v : Int) (hv : getW 4 xs r.f r.a = v) (hn : vldD v = true) (o : Int) (a b : Nat) (i : Int) (ho : doR v = o) (hea : daR v = a) (heb : dbR v = b) (hi : diR v = i) (ha : a < 16) (hb : b < 16) (hib : -32768 ≤ i ∧ i ≤ 32767) (hop : o = 23) :
    Calls Try.prog 9 #[.pointer (some ⟨bM, 0, none⟩), .int .i64 s, .agg (cvl c).toArray] w fun e w' => e = .returned (stepP 4 xs l s c).ans ∧ RefAt w' bM bx cx 4 (stepP 4 xs l s c).xs A cA lo l ∧ But [bx] w w' := by
  obtain ⟨D, hD⟩ : ∃ D, stepP 4 xs l s c = D := ⟨_, rfl⟩
  rw [hD]
  obtain ⟨x, hx16⟩ : ∃ x, c.getD 16 0 = x := ⟨_, rfl⟩
  have hbx := hu 16
  rw [hx16] at hbx
  obtain ⟨hx0, hx1⟩ := hbx
  have hfc : ftc 4 xs l s (c.getD 16 0) = ⟨tr0, o, a, b, i⟩ := by rw [ftc_in hal hr h0 hv hn, ho, hea, heb, hi]
  have hDE : D = endD c (doP 4 xs l s o a b i (pc4 c)) := hD.symm.trans (st_word hfc)
  obtain ⟨hib0, hib1⟩ := hib
  have HOP : Hid (o = 23) := hop
  rw [hop] at hDE
  obtain ⟨z, hz⟩ : ∃ z, c.getD a 0 = z := ⟨_, rfl⟩
  obtain ⟨y, hy⟩ : ∃ y, c.getD b 0 = y := ⟨_, rfl⟩
  have HDF : Hid (D = ⟨tr0, c.set 16 z, xs⟩) := hDE.trans ((s_23 hl ha).trans (by rw [hz]))
  clear hop hDE hfc
  rw [hx16] at hal
  have HAL : Hid (x % 4 = 0) := hal
  obtain ⟨⟨t1, t2, t3, t4⟩, f, q⟩ := r
  rw [hx16] at hr
  have HR : Hid (fnd l s x false = ⟨⟨t1, t2, t3, t4⟩, f, q⟩) := hr
  dsimp only at h0 hv
  have HT1 : Hid (t1 = 0) := h0
  clear h0
  have HV : Hid (getW 4 xs f q = v) := hv
  have HVD : Hid (vldD v = true) := hn
  have HDO : Hid (doR v = o) := ho
  have HDA : Hid (daR v = a) := hea
  have HDB : Hid (dbR v = b) := heb
  have HDI : Hid (diR v = i) := hi
  clear hal hr hv hn ho hea heb hi
  have ha16 : (a : Int) < 16 := by omega
  have ha0 : (0 : Int) ≤ (a : Int) := by omega
  have hb16 : (b : Int) < 16 := by omega
  have hb0 : (0 : Int) ≤ (b : Int) := by omega
  have hbz := hu a
  have hby := hu b
  rw [hz] at hbz
  rw [hy] at hby
  obtain ⟨hz0, hz1⟩ := hbz
  obtain ⟨hy0, hy1⟩ := hby
  have HZ : Hid (c.getD a 0 = z) := hz
  have HY : Hid (c.getD b 0 = y) := hy
  have HPC : Hid (pc4 c = c.set 16 ((x + 4) % 4294967296)) := by show _ = _; unfold pc4; rw [hx16]
  have HRA : Hid ((pc4 c).getD a 0 = z) := (pc4_reg c hl a ha).trans hz
  have HRB : Hid ((pc4 c).getD b 0 = y) := (pc4_reg c hl b hb).trans hy
  have HL4 : Hid ((pc4 c).length = 17) := by show _ = _; unfold pc4; rw [List.length_set]; exact hl
  have hX1 := SBx.new w c 27 37 hl
  have hB1 : But [] w (((w.alloc (.cells (cvl c).toArray 27)).alloc (.cells #[.int .u32 0, .int .u32 0, .int .u32 0, .int .u32 0, .int .u32 0, .int .u32 0, .int .u32 0, .int .u32 0, .int .u32 0, .int .u32 0, .int .u32 0, .int .u32 0, .int .u32 0, .int .u32 0, .int .u32 0, .int .u32 0, .int .u32 0] 27)).alloc (.cells #[.int .i64 0, .int .i64 0, .bool false, .int .i64 0] 37)) := (((But.refl [] w).alloc _).alloc _).alloc _
  obtain ⟨g, hg⟩ : ∃ g, g = w.heap.size := ⟨_, rfl⟩
  have HGS : Hid (w.heap.size ≤ g) := by show _ ≤ g; omega
  have HRF : Hid (RefAt w bM bx cx 4 xs A cA lo l) := h
  obtain ⟨hlM, hlx⟩ := h.lt
  rw [← hg] at hlM hlx
  have HLX : Hid (bM < g ∧ bx < g) := ⟨hlM, hlx⟩
  have HLN : Hid (c.length = 17) := hl
  have HU : Hid (U32s c) := hu
  have HUX : Hid (U32s xs) := hux
  have HX16 : Hid (c.getD 16 0 = x) := hx16
  clear h hux hu hl hx16 hD
  go_enter Try.func9, Try.ntmps9
  go_upto_region 1 with fail
  rw [← hg] at hX1 ⊢
  generalize ((w.alloc (.cells (cvl c).toArray 27)).alloc (.cells #[.int .u32 0, .int .u32 0, .int .u32 0, .int .u32 0, .int .u32 0, .int .u32 0, .int .u32 0, .int .u32 0, .int .u32 0, .int .u32 0, .int .u32 0, .int .u32 0, .int .u32 0, .int .u32 0, .int .u32 0, .int .u32 0, .int .u32 0] 27)).alloc (.cells #[.int .i64 0, .int .i64 0, .bool false, .int .i64 0] 37) = w1 at hX1 hB1 ⊢
  have HX : Hid (SBx w1 g c) := hX1
  have HB : Hid (But [] w w1) := hB1
  have hpc : w1.cell? ⟨g, 16, none⟩ = some (.int .u32 x) := by rw [← HX16.out]; exact hX1.ctx.reg 16 (by omega)
  clear hX1 hB1 hg
  clear hz hy
  have hne : (x % 4 != 0) = false := by simp [HAL.out]
  go_wp2_with fail
  refine (rfind_c bM bx cx xs A cA lo l s x false _ (HRF.out.keep0 HB.out) hl8 hx0 hx1).mono ?_
  rintro e w2 ⟨rfl, k2⟩
  rw [HR.out]
  simp only [Tr.vs]
  obtain ⟨P, hP⟩ : ∃ P, plc ⟨⟨t1, t2, t3, t4⟩, f, q⟩ = P := ⟨_, rfl⟩
  rw [hP]
  have hPb := plc_bd ⟨⟨t1, t2, t3, t4⟩, f, q⟩
  rw [hP] at hPb
  obtain ⟨hP0, hP1⟩ := hPb
  have HP : Hid (plc ⟨⟨t1, t2, t3, t4⟩, f, q⟩ = P) := hP
  have hX2 := HX.out.keep0 k2
  have hB2 := HB.out.trans k2
  have hRT := new_range w2 [.int .i64 t1, .int .i64 t2, .bool t3, .int .i64 t4] 37
  have hKT : But [] w2 (w2.alloc (.cells #[.int .i64 t1, .int .i64 t2, .bool t3, .int .i64 t4] 37)) := (But.refl [] w2).alloc _
  clear k2 HX HB hP hpc hne
  go_upto_region 4 with fail
  generalize w2.alloc (.cells #[.int .i64 t1, .int .i64 t2, .bool t3, .int .i64 t4] 37) = w3 at hRT hKT ⊢
  obtain ⟨b3, hb3⟩ : ∃ b3, b3 = w2.heap.size := ⟨_, rfl⟩
  have hg3 : g + 2 < b3 := by rw [hb3]; exact lt_of_there hX2.t9 (by omega)
  rw [← hb3] at hRT ⊢
  have HX : Hid (SBx w3 g c) := hX2.keep0 hKT
  have HB : Hid (But [] w w3) := hB2.trans hKT
  have HRT : Hid (w3.rangeAt b3 0 [.int .i64 t1, .int .i64 t2, .bool t3, .int .i64 t4]) := hRT
  have q0 : w3.cell? ⟨b3, 0, none⟩ = some (.int .i64 t1) := hRT 0 _ rfl
  clear hX2 hB2 hRT hKT hb3
  have ht1 := HT1.out
  subst ht1
  have hvv : rgw xs P = v := by rw [← HP.out, ← HV.out]; exact rgw_plc xs ⟨⟨0, t2, t3, t4⟩, f, q⟩ rfl
  have hvb := getW_bd (n := 4) HUX.out f q
  rw [HV.out] at hvb
  obtain ⟨hv0, hv1⟩ := hvb
  have HVV : Hid (rgw xs P = v) := hvv
  clear hvv
  go_wp2_with fail
  refine (rgetm_c bM bx cx xs A cA lo l P _ (HRF.out.keep0 HB.out) hP1).mono ?_
  rintro e w5 ⟨rfl, rfl⟩
  rw [HVV.out]
  go_wp2_with fail
  refine (rdecode_c v _ hv0 hv1).mono ?_
  rintro e w4 ⟨rfl, k4⟩
  rw [HVD.out, HDO.out, HDA.out, HDB.out, HDI.out]
  have hX4 := HX.out.keep0 (But.of_below k4)
  have hB4 := HB.out.trans (But.of_below k4)
  have hRI := new_range w4 [.int .i64 o, .int .i64 a, .int .i64 b, .int .i64 i] 75
  have hKI : But [] w4 (w4.alloc (.cells #[.int .i64 o, .int .i64 a, .int .i64 b, .int .i64 i] 75)) := (But.refl [] w4).alloc _
  clear k4 HX HB q0 HRT
  go_upto_region 7 with fail
  generalize w4.alloc (.cells #[.int .i64 o, .int .i64 a, .int .i64 b, .int .i64 i] 75) = w6 at hRI hKI ⊢
  obtain ⟨bI, hbI⟩ : ∃ bI, bI = w4.heap.size := ⟨_, rfl⟩
  have hgI : g + 2 < bI := by rw [hbI]; exact lt_of_there hX4.t9 (by omega)
  rw [← hbI] at hRI ⊢
  have HX : Hid (SBx w6 g c) := hX4.keep0 hKI
  have HB : Hid (But [] w w6) := hB4.trans hKI
  have HRI : Hid (w6.rangeAt bI 0 [.int .i64 o, .int .i64 a, .int .i64 b, .int .i64 i]) := hRI
  have i0 : w6.cell? ⟨bI, 0, none⟩ = some (.int .i64 o) := hRI 0 _ rfl
  have i1 : w6.cell? ⟨bI, 1, none⟩ = some (.int .i64 a) := hRI 1 _ rfl
  have i2 : w6.cell? ⟨bI, 2, none⟩ = some (.int .i64 b) := hRI 2 _ rfl
  have i3 : w6.cell? ⟨bI, 3, none⟩ = some (.int .i64 i) := hRI 3 _ rfl
  clear hX4 hB4 hRI hKI hbI HVV
  have hop := HOP.out
  subst hop
  have ra : w6.cell? ⟨g, a, none⟩ = some (.int .u32 z) := by rw [← HZ.out]; exact HX.out.ctx.reg a (by omega)
  have hpc : w6.cell? ⟨g, 16, none⟩ = some (.int .u32 x) := by rw [← HX16.out]; exact HX.out.ctx.reg 16 (by omega)
  have hz6 : w6.frozen? ⟨g, 16, none⟩ = false := HX.out.ctx.fz 16 (by omega)
  go_upto_region 15 with fail
  have hX7 := HX.out.set 16 (by omega) z
  have k7 : But [g] w6 (w6.setCell ⟨g, 16, none⟩ (.int .u32 z)) := (But.refl [g] w6).setCell (by simp) _
  generalize w6.setCell ⟨g, 16, none⟩ (.int .u32 z) = w7 at hX7 k7 ⊢
  have hB7 : But [] w w7 := but_fresh HB.out k7 (by have := HGS.out; simp; omega)
  clear HX HB i0 i1 i2 i3 HRI k7 ra hpc hz6
  have HX : Hid (SBx w7 g (c.set 16 z)) := hX7
  have HB : Hid (But [] w w7) := hB7
  have HL7 : Hid ((c.set 16 z).length = 17) := hX7.ctx.len
  clear hX7 hB7
  have HI9 : Hid ((Try.prog.info? 27).map (·.size) = some (cvl (c.set 16 z)).toArray.size) := by show _ = _; rw [List.size_toArray]; exact cvl_info _ HL7.out
  have HT8' : Hid (w7.there (g + 1) 0 (cvl (c.set 16 z)).toArray.size) := by show World.there _ _ _ _; rw [List.size_toArray, cvl_len, HL7.out]; exact HX.out.t8
  have HT9' : Hid ((w7.setCells (g + 1) 0 (cvl (c.set 16 z))).there (g + 1 + 1) 0 4) := World.there_setCells HX.out.t9 _ _ _
  go_wp2_with (first
    | (refine wpList_load_mid rfl 27 _ rfl g 0 rfl (cvl (c.set 16 z)) _ HX.out.ctx.range Try.underlying27 rfl (cvl_info _ HL7.out) ?_)
    | (refine wpList_store_mid rfl 27 _ _ rfl (g + 1) 0 (cvl (c.set 16 z)).toArray rfl rfl ?ht HI9.out (all_oneCell_toArray (cvl_one _)) ?_; case ht => exact HT8'.out)
    | (refine wpList_store_mid rfl 37 _ _ rfl (g + 1 + 1) 0 #[.int .i64 0, .int .i64 0, .bool false, .int .i64 0] rfl rfl ?ht Try.sizeTrap (Tr.vs_all tr0) ?_; case ht => exact HT9'.out))
  obtain ⟨v1, v2, hbf⟩ := laid2 w7 (g + 1) (cvl (c.set 16 z)) [.int .i64 0, .int .i64 0, .bool false, .int .i64 0] (by rw [cvl_len, HL7.out]; exact HX.out.t8) HX.out.t9
  refine bodyPost_ret (results_two rfl _ _ (g + 1) 0 (g + 1 + 1) 0 _ _ _ _ rfl v1 Try.underlying27 rfl (cvl_info _ HL7.out) rfl v2 Try.underlying37 rfl Try.sizeTrap) rfl ?_
  have hg0 := HGS.out
  exact ⟨by rw [HDF.out]; rfl, by rw [HDF.out]; exact HRF.out.keep0 (but_fresh HB.out hbf (by simp; omega)), (but_fresh HB.out hbf (by simp; omega)).wider (by simp)⟩
end Go.Proofs.Ytjlcncdhlcpklaa.Cp
