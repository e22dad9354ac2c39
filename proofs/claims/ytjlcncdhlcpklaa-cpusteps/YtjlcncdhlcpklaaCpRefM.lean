/-
  Layer 6 (cpu): the document's machine: contracts of its memory (loads and stores), over the translated program.
-/
import Derived.Test.YtjlcncdhlcpklaaCpRefJ
namespace Go.Proofs.Ytjlcncdhlcpklaa.Cp
open Go.ChangeShapes Go.WideShapes Go.ChangeAt Go.RowKit
open Fr (MemAt Blk hasW hasF) 
open Tl (En TlbAt Ens getE misE ansE en0)
set_option linter.unusedVariables false
set_option maxRecDepth 20000

theorem fnd_ok {l : List En} {s d : Int} {wr : Bool} {r : Fd} (h : fnd l s d wr = r) (h0 : r.t.cause = 0) : r.t = tr0 := by
  subst h
  unfold fnd at h0 ⊢
  cases he : getE s (d / 64) l with
  | none => rw [he] at h0; simp at h0
  | some e =>
    rw [he] at h0
    by_cases hg : (wr && !e.wr) = true
    · simp [hg] at h0
    · simp [hg]
theorem fnd_cause {l : List En} {s d : Int} {wr : Bool} {r : Fd} (h : fnd l s d wr = r) : r.t.cause ≠ 6 := by
  subst h
  unfold fnd
  cases he : getE s (d / 64) l with
  | none => simp
  | some e =>
    by_cases hg : (wr && !e.wr) = true
    · simp [hg]
    · simp [hg, tr0]
theorem put_yes {xs : List Int} {t : Tr} {f q : Int} {k : Nat} (h : plc ⟨t, f, q⟩ = k) (v : Int) : putW 4 xs f q v = xs.set k v := by
  unfold plc at h
  dsimp only at h
  split at h
  · next e =>
    have hw := e.2
    unfold putW
    rw [if_pos hw]
    simp only [hasW, decide_eq_true_eq] at hw
    rw [show f.toNat * 16 + q.toNat = k by omega]
  · omega
theorem put_no {xs : List Int} {t : Tr} {f q : Int} (ht : t.cause = 0) (h : plc ⟨t, f, q⟩ < 0) (v : Int) : putW 4 xs f q v = xs := by
  unfold plc at h
  dsimp only at h
  split at h
  · next e =>
    have hw := e.2
    simp only [hasW, decide_eq_true_eq] at hw
    omega
  · next e =>
    unfold putW
    rw [if_neg fun hw => e ⟨ht, hw⟩]
theorem adr_pc4 (c : List Int) (h : c.length = 17) (b : Nat) (hb : b < 16) (i : Int) : adr (pc4 c) b i = adr c b i := by unfold adr; rw [pc4_reg c h b hb]
section
variable {xs : List Int} {l : List En} {s d i : Int} {a b : Nat} {c : List Int}
theorem m14_tr {r : Fd} (hd : adr (pc4 c) b i = d) (hr : fndW l s d false = r) (h0 : r.t.cause ≠ 0) (h6 : r.t.cause ≠ 6) : endD c (doP 4 xs l s 14 a b i (pc4 c)) = ⟨r.t, c, xs⟩ := by
  have e : doP 4 xs l s 14 a b i (pc4 c) = ⟨r.t, pc4 c, xs⟩ := by
    show Dn.mk _ _ _ = _
    rw [hd, hr, selC_neg h0]
  rw [e]; exact if_pos ⟨h0, h6⟩
theorem m14_ok {f q : Int} (hd : adr (pc4 c) b i = d) (hr : fndW l s d false = ⟨tr0, f, q⟩) : endD c (doP 4 xs l s 14 a b i (pc4 c)) = ⟨tr0, (pc4 c).set a (getW 4 xs f q), xs⟩ := by
  have e : doP 4 xs l s 14 a b i (pc4 c) = ⟨tr0, (pc4 c).set a (getW 4 xs f q), xs⟩ := by
    show Dn.mk _ _ _ = _
    rw [hd, hr]; rfl
  rw [e]; exact if_neg (by simp [tr0])
theorem m15_tr {r : Fd} (hd : adr (pc4 c) b i = d) (hr : fndW l s d true = r) (h0 : r.t.cause ≠ 0) (h6 : r.t.cause ≠ 6) : endD c (doP 4 xs l s 15 a b i (pc4 c)) = ⟨r.t, c, xs⟩ := by
  have e : doP 4 xs l s 15 a b i (pc4 c) = ⟨r.t, pc4 c, xs⟩ := by
    show Dn.mk _ _ _ = _
    rw [hd, hr, selC_neg h0]
  rw [e]; exact if_pos ⟨h0, h6⟩
theorem m15_ok {f q : Int} (hd : adr (pc4 c) b i = d) (hr : fndW l s d true = ⟨tr0, f, q⟩) : endD c (doP 4 xs l s 15 a b i (pc4 c)) = ⟨tr0, pc4 c, putW 4 xs f q ((pc4 c).getD a 0)⟩ := by
  have e : doP 4 xs l s 15 a b i (pc4 c) = ⟨tr0, pc4 c, putW 4 xs f q ((pc4 c).getD a 0)⟩ := by
    show Dn.mk _ _ _ = _
    rw [hd, hr]; rfl
  rw [e]; exact if_neg (by simp [tr0])
theorem m16_tr {r : Fd} (hd : adr (pc4 c) b i = d) (hr : fnd l s d false = r) (h0 : r.t.cause ≠ 0) (h6 : r.t.cause ≠ 6) : endD c (doP 4 xs l s 16 a b i (pc4 c)) = ⟨r.t, c, xs⟩ := by
  have e : doP 4 xs l s 16 a b i (pc4 c) = ⟨r.t, pc4 c, xs⟩ := by
    show Dn.mk _ _ _ = _
    rw [hd, hr, selC_neg h0]
  rw [e]; exact if_pos ⟨h0, h6⟩
theorem m16_ok {f q : Int} (hd : adr (pc4 c) b i = d) (hr : fnd l s d false = ⟨tr0, f, q⟩) : endD c (doP 4 xs l s 16 a b i (pc4 c)) = ⟨tr0, (pc4 c).set a (byt (getW 4 xs f q) (d % 4)), xs⟩ := by
  have e : doP 4 xs l s 16 a b i (pc4 c) = ⟨tr0, (pc4 c).set a (byt (getW 4 xs f q) (d % 4)), xs⟩ := by
    show Dn.mk _ _ _ = _
    rw [hd, hr]; rfl
  rw [e]; exact if_neg (by simp [tr0])
theorem m17_tr {r : Fd} (hd : adr (pc4 c) b i = d) (hr : fnd l s d true = r) (h0 : r.t.cause ≠ 0) (h6 : r.t.cause ≠ 6) : endD c (doP 4 xs l s 17 a b i (pc4 c)) = ⟨r.t, c, xs⟩ := by
  have e : doP 4 xs l s 17 a b i (pc4 c) = ⟨r.t, pc4 c, xs⟩ := by
    show Dn.mk _ _ _ = _
    rw [hd, hr, selC_neg h0]
  rw [e]; exact if_pos ⟨h0, h6⟩
theorem m17_ok {f q : Int} (hd : adr (pc4 c) b i = d) (hr : fnd l s d true = ⟨tr0, f, q⟩) : endD c (doP 4 xs l s 17 a b i (pc4 c)) = ⟨tr0, pc4 c, putW 4 xs f q (wth (getW 4 xs f q) (d % 4) ((pc4 c).getD a 0 % 256))⟩ := by
  have e : doP 4 xs l s 17 a b i (pc4 c) = ⟨tr0, pc4 c, putW 4 xs f q (wth (getW 4 xs f q) (d % 4) ((pc4 c).getD a 0 % 256))⟩ := by
    show Dn.mk _ _ _ = _
    rw [hd, hr]; rfl
  rw [e]; exact if_neg (by simp [tr0])
end
/-- The document's machine behind a word that was laid. -/
theorem RefAt.memed {w w' : World} {bM bx cx n : Nat} {xs ys : List Int} {A : Option Addr} {cA lo : Nat} {l : List En} (h : RefAt w bM bx cx n xs A cA lo l) (hk : But [bx] w w') (hb : Blk w' bx ys) (hl : ys.length = xs.length) : RefAt w' bM bx cx n ys A cA lo l :=
  ⟨cell_keep h.mem hk (by simp [h.ne]), cell_keep h.tlb hk (by simp [h.ne]), (hk.frozen (p := ⟨bM, 1, none⟩) (lt_of_cell h.tlb) (by simp [h.ne])).trans h.fz, hb, hl.trans h.len, h.ens.keep hk (by simpa using h.lx), h.lM, h.lx, h.ne⟩
theorem RefAt.keep0 {w w' : World} {bM bx cx n : Nat} {xs : List Int} {A : Option Addr} {cA lo : Nat} {l : List En} (h : RefAt w bM bx cx n xs A cA lo l) (hk : But [] w w') : RefAt w' bM bx cx n xs A cA lo l := h.keep hk (by simp) (by simp) (by simp)
theorem RefAt.lt {w : World} {bM bx cx : Nat} {xs : List Int} {A : Option Addr} {cA lo : Nat} {l : List En} (h : RefAt w bM bx cx 4 xs A cA lo l) : bM < w.heap.size ∧ bx < w.heap.size := ⟨lt_of_cell h.mem, lt_of_cell (h.blk 0 (by rw [h.len]; omega)).1⟩
/-- The boxes of memory. -/
structure MBx (w : World) (g : Nat) (c : List Int) (o a b i : Int) : Prop where
  ctx : CtxAt w g c
  i0 : w.cell? ⟨g + 1, 0, none⟩ = some (.int .i64 o)
  i1 : w.cell? ⟨g + 1, 1, none⟩ = some (.int .i64 a)
  i2 : w.cell? ⟨g + 1, 2, none⟩ = some (.int .i64 b)
  i3 : w.cell? ⟨g + 1, 3, none⟩ = some (.int .i64 i)
  t8 : w.there (g + 2) 0 17
  t9 : w.there (g + 3) 0 4
theorem MBx.keep {k : List Nat} {w w' : World} {g : Nat} {c : List Int} {o a b i : Int} (h : MBx w g c o a b i) (hk : But k w w') (hn : ∀ x ∈ k, x < g ∨ g + 3 < x) : MBx w' g c o a b i := by
  have n0 : g ∉ k := fun e => by have := hn _ e; omega
  have n1 : g + 1 ∉ k := fun e => by have := hn _ e; omega
  have n2 : g + 2 ∉ k := fun e => by have := hn _ e; omega
  have n3 : g + 3 ∉ k := fun e => by have := hn _ e; omega
  exact ⟨h.ctx.keep hk n0, cell_keep h.i0 hk n1, cell_keep h.i1 hk n1, cell_keep h.i2 hk n1, cell_keep h.i3 hk n1, there_keep h.t8 hk n2, there_keep h.t9 hk n3⟩
theorem MBx.keep0 {w w' : World} {g : Nat} {c : List Int} {o a b i : Int} (h : MBx w g c o a b i) (hk : But [] w w') : MBx w' g c o a b i := h.keep hk (by simp)
theorem MBx.set {w : World} {g : Nat} {c : List Int} {o a b i : Int} (h : MBx w g c o a b i) (k : Nat) (hk : k < 17) (v : Int) : MBx (w.setCell ⟨g, k, none⟩ (.int .u32 v)) g (c.set k v) o a b i := by
  have e : But [g] w (w.setCell ⟨g, k, none⟩ (.int .u32 v)) := (But.refl [g] w).setCell (by simp) _
  exact ⟨h.ctx.set k hk v, cell_keep h.i0 e (by simp), cell_keep h.i1 e (by simp), cell_keep h.i2 e (by simp), cell_keep h.i3 e (by simp), there_keep h.t8 e (by simp), there_keep h.t9 e (by simp)⟩
theorem MBx.new (w : World) (c : List Int) (o a b i : Int) (t t' t'' : TypeId) (hl : c.length = 17) :
    MBx ((((w.alloc (.cells (cvl c).toArray t)).alloc (.cells #[.int .i64 o, .int .i64 a, .int .i64 b, .int .i64 i] t')).alloc (.cells #[.int .u32 0, .int .u32 0, .int .u32 0, .int .u32 0, .int .u32 0, .int .u32 0, .int .u32 0, .int .u32 0, .int .u32 0, .int .u32 0, .int .u32 0, .int .u32 0, .int .u32 0, .int .u32 0, .int .u32 0, .int .u32 0, .int .u32 0] t)).alloc (.cells #[.int .i64 0, .int .i64 0, .bool false, .int .i64 0] t'')) w.heap.size c o a b i := by
  obtain ⟨h1, h2, h3⟩ := jump_new w c #[.int .i64 o, .int .i64 a, .int .i64 b, .int .i64 i] t t' hl rfl
  have e := (But.refl [] (((w.alloc (.cells (cvl c).toArray t)).alloc (.cells #[.int .i64 o, .int .i64 a, .int .i64 b, .int .i64 i] t')).alloc (.cells #[.int .u32 0, .int .u32 0, .int .u32 0, .int .u32 0, .int .u32 0, .int .u32 0, .int .u32 0, .int .u32 0, .int .u32 0, .int .u32 0, .int .u32 0, .int .u32 0, .int .u32 0, .int .u32 0, .int .u32 0, .int .u32 0, .int .u32 0] t))).alloc (.cells #[.int .i64 0, .int .i64 0, .bool false, .int .i64 0] t'')
  have h4 := there_new (((w.alloc (.cells (cvl c).toArray t)).alloc (.cells #[.int .i64 o, .int .i64 a, .int .i64 b, .int .i64 i] t')).alloc (.cells #[.int .u32 0, .int .u32 0, .int .u32 0, .int .u32 0, .int .u32 0, .int .u32 0, .int .u32 0, .int .u32 0, .int .u32 0, .int .u32 0, .int .u32 0, .int .u32 0, .int .u32 0, .int .u32 0, .int .u32 0, .int .u32 0, .int .u32 0] t)) #[.int .i64 0, .int .i64 0, .bool false, .int .i64 0] t'' 4 rfl
  rw [show (((w.alloc (.cells (cvl c).toArray t)).alloc (.cells #[.int .i64 o, .int .i64 a, .int .i64 b, .int .i64 i] t')).alloc (.cells #[.int .u32 0, .int .u32 0, .int .u32 0, .int .u32 0, .int .u32 0, .int .u32 0, .int .u32 0, .int .u32 0, .int .u32 0, .int .u32 0, .int .u32 0, .int .u32 0, .int .u32 0, .int .u32 0, .int .u32 0, .int .u32 0, .int .u32 0] t)).heap.size = w.heap.size + 3 by simp] at h4
  exact ⟨h1.keep e (by simp), cell_keep (h2 0 _ rfl) e (by simp), cell_keep (h2 1 _ rfl) e (by simp), cell_keep (h2 2 _ rfl) e (by simp), cell_keep (h2 3 _ rfl) e (by simp), there_keep h3 e (by simp), h4⟩
/-- Two results are laid. -/
theorem laid2 (w : World) (r : Nat) (cs ds : List Value) (h1 : w.there r 0 cs.length) (h2 : w.there (r + 1) 0 4) (hd : ds.length = 4 := by rfl) :
    ((w.setCells r 0 cs).setCells (r + 1) 0 ds).rangeAt r 0 cs ∧ ((w.setCells r 0 cs).setCells (r + 1) 0 ds).rangeAt (r + 1) 0 ds ∧ But [r, r + 1] w ((w.setCells r 0 cs).setCells (r + 1) 0 ds) := by
  obtain ⟨q1, q2⟩ := two_laid w r (r + 1) cs ds h1 (by rw [hd]; exact h2) (by omega)
  exact ⟨q1, q2, (((But.refl [r, r + 1] w)).setCells (by simp) _ _).setCells (by simp) _ _⟩
theorem laid2d (w : World) (r : Nat) (cs ds : List Value) (h1 : w.there r 0 cs.length) (h2 : w.there (r + 1) 0 4) (hd : ds.length = 4 := by rfl) :
    ((w.drew.setCells r 0 cs).setCells (r + 1) 0 ds).rangeAt r 0 cs ∧ ((w.drew.setCells r 0 cs).setCells (r + 1) 0 ds).rangeAt (r + 1) 0 ds ∧ But [r, r + 1] w ((w.drew.setCells r 0 cs).setCells (r + 1) 0 ds) := by
  obtain ⟨q1, q2, q3⟩ := laid2 w.drew r cs ds (there_keep h1 (But.refl [] _).drew (by simp)) (there_keep h2 (But.refl [] _).drew (by simp)) hd
  exact ⟨q1, q2, ((But.refl [r, r + 1] w).drew).trans q3⟩

set_option maxHeartbeats 4000000 in
theorem rmem14 (bM bx cx : Nat) (xs : List Int) (A : Option Addr) (cA lo : Nat) (l : List En) (s : Int) (a b : Nat) (i : Int) (c : List Int) (w : World) (h : RefAt w bM bx cx 4 xs A cA lo l) (hl8 : l.length ≤ 1000) (hux : U32s xs) (hl : c.length = 17) (hu : U32s c) (ha : a < 16) (hb : b < 16) :
    Calls Try.prog 27 #[.pointer (some ⟨bM, 0, none⟩), .int .i64 s, .agg (cvl c).toArray, .agg #[.int .i64 14, .int .i64 a, .int .i64 b, .int .i64 i]] w fun e w' => e = .returned (endD c (doP 4 xs l s 14 a b i (pc4 c))).ans ∧ RefAt w' bM bx cx 4 (endD c (doP 4 xs l s 14 a b i (pc4 c))).xs A cA lo l ∧ But [bx] w w' := by
  obtain ⟨D, hD⟩ : ∃ D, endD c (doP 4 xs l s 14 a b i (pc4 c)) = D := ⟨_, rfl⟩
  rw [hD]
  obtain ⟨x, hx16⟩ : ∃ x, c.getD 16 0 = x := ⟨_, rfl⟩
  obtain ⟨y, hy⟩ : ∃ y, c.getD b 0 = y := ⟨_, rfl⟩
  obtain ⟨z, hz⟩ : ∃ z, c.getD a 0 = z := ⟨_, rfl⟩
  have hbx := hu 16
  have hby := hu b
  have hbz := hu a
  rw [hx16] at hbx
  rw [hy] at hby
  rw [hz] at hbz
  obtain ⟨hx0, hx1⟩ := hbx
  obtain ⟨hy0, hy1⟩ := hby
  obtain ⟨hz0, hz1⟩ := hbz
  obtain ⟨d, hd⟩ : ∃ d, (y + i % 4294967296) % 4294967296 = d := ⟨_, rfl⟩
  have hADR : adr (pc4 c) b i = d := by rw [adr_pc4 c hl b hb i]; unfold adr; rw [hy]; exact hd
  have hd0 : 0 ≤ d := by omega
  have hd1 : d ≤ 4294967295 := by omega
  rcases hr : fnd l s d false with ⟨⟨t1, t2, t3, t4⟩, f, q⟩
  have h6 := fnd_cause hr
  have hok := fnd_ok hr
  dsimp only at h6 hok
  have HDA : Hid (¬ d % 4 = 0 → D = ⟨⟨5, 0, false, 0⟩, c, xs⟩) := fun hal => by rw [← hD]; exact m14_tr hADR (if_neg hal) (by simp) (by simp)
  have HDT : Hid (d % 4 = 0 → t1 ≠ 0 → D = ⟨⟨t1, t2, t3, t4⟩, c, xs⟩) := fun hal h0 => by rw [← hD]; exact m14_tr hADR ((if_pos hal).trans hr) h0 h6
  have HDO : Hid (d % 4 = 0 → t1 = 0 → D = ⟨tr0, (pc4 c).set a (getW 4 xs f q), xs⟩) := fun hal h0 => by rw [← hD]; exact m14_ok hADR ((if_pos hal).trans (hr.trans (by rw [hok h0])))
  have hX1 := MBx.new w c 14 a b i 27 75 37 hl
  have hB1 : But [] w ((((w.alloc (.cells (cvl c).toArray 27)).alloc (.cells #[.int .i64 14, .int .i64 a, .int .i64 b, .int .i64 i] 75)).alloc (.cells #[.int .u32 0, .int .u32 0, .int .u32 0, .int .u32 0, .int .u32 0, .int .u32 0, .int .u32 0, .int .u32 0, .int .u32 0, .int .u32 0, .int .u32 0, .int .u32 0, .int .u32 0, .int .u32 0, .int .u32 0, .int .u32 0, .int .u32 0] 27)).alloc (.cells #[.int .i64 0, .int .i64 0, .bool false, .int .i64 0] 37)) := ((((But.refl [] w).alloc _).alloc _).alloc _).alloc _
  obtain ⟨g, hg⟩ : ∃ g, g = w.heap.size := ⟨_, rfl⟩
  have HGS : Hid (w.heap.size ≤ g) := by show _ ≤ g; omega
  have HRF : Hid (RefAt w bM bx cx 4 xs A cA lo l) := h
  obtain ⟨hlM, hlx⟩ := h.lt
  rw [← hg] at hlM hlx
  have HLX : Hid (bM < g ∧ bx < g) := ⟨hlM, hlx⟩
  have HLN : Hid (c.length = 17) := hl
  have HUX : Hid (U32s xs) := hux
  have HX16 : Hid (c.getD 16 0 = x) := hx16
  have HZ : Hid (c.getD a 0 = z) := hz
  have HR : Hid (fnd l s d false = ⟨⟨t1, t2, t3, t4⟩, f, q⟩) := hr
  have ha16 : (a : Int) < 16 := by omega
  have ha0 : (0 : Int) ≤ (a : Int) := by omega
  have hb16 : (b : Int) < 16 := by omega
  have hb0 : (0 : Int) ≤ (b : Int) := by omega
  have HY : Hid (c.getD b 0 = y) := hy
  have HDD : Hid ((y + i % 4294967296) % 4294967296 = d) := hd
  clear h hux hu hl hx16 hy hz hADR hr h6 hok hD hd
  go_enter Try.func27, Try.ntmps27
  go_upto_region 1 with fail
  rw [← hg] at hX1 ⊢
  generalize (((w.alloc (.cells (cvl c).toArray 27)).alloc (.cells #[.int .i64 14, .int .i64 a, .int .i64 b, .int .i64 i] 75)).alloc (.cells #[.int .u32 0, .int .u32 0, .int .u32 0, .int .u32 0, .int .u32 0, .int .u32 0, .int .u32 0, .int .u32 0, .int .u32 0, .int .u32 0, .int .u32 0, .int .u32 0, .int .u32 0, .int .u32 0, .int .u32 0, .int .u32 0, .int .u32 0] 27)).alloc (.cells #[.int .i64 0, .int .i64 0, .bool false, .int .i64 0] 37) = w1 at hX1 hB1 ⊢
  have j0 := hX1.i0
  have j2 := hX1.i2
  have j3 := hX1.i3
  have rb : w1.cell? ⟨g, b, none⟩ = some (.int .u32 y) := by rw [← HY.out]; exact hX1.ctx.reg b (by omega)
  have HXq : Hid (∀ k, MBx (w1.drewN k) g c 14 a b i) := fun k => hX1.keep0 ((But.refl [] w1).drewN k)
  have HBq : Hid (∀ k, But [] w (w1.drewN k)) := fun k => hB1.drewN k
  clear hX1 hB1 hg
  go_quiet (fail)
  rw [HDD.out]
  have HX : Hid (MBx (w1.drewN nq) g c 14 a b i) := HXq.out _
  have HB : Hid (But [] w (w1.drewN nq)) := HBq.out _
  generalize w1.drewN nq = w2 at HX HB ⊢
  clear HXq HBq j0 j2 j3 rb
  have j0 := HX.out.i0
  by_cases hal : d % 4 = 0
  case neg =>
    have HDE := HDA.out hal
    have hne : (d % 4 != 0) = true := bne_iff_ne.2 hal
    have HDF : Hid (D = ⟨⟨5, 0, false, 0⟩, c, xs⟩) := HDE
    clear HDE hal
    have HI9 : Hid ((Try.prog.info? 27).map (·.size) = some (cvl (c)).toArray.size) := by show _ = _; rw [List.size_toArray]; exact cvl_info _ HLN.out
    have HT8' : Hid (w2.there (g + 2) 0 (cvl (c)).toArray.size) := by show World.there _ _ _ _; rw [List.size_toArray, cvl_len, HLN.out]; exact HX.out.t8
    have HT9' : Hid ((w2.setCells (g + 2) 0 (cvl (c))).there (g + 2 + 1) 0 4) := World.there_setCells HX.out.t9 _ _ _
    go_wp2_with (first
      | (refine wpList_load_mid rfl 27 _ rfl g 0 rfl (cvl (c)) _ HX.out.ctx.range Try.underlying27 rfl (cvl_info _ HLN.out) ?_)
      | (refine wpList_store_mid rfl 27 _ _ rfl (g + 2) 0 (cvl (c)).toArray rfl rfl ?ht HI9.out (all_oneCell_toArray (cvl_one _)) ?_; case ht => exact HT8'.out)
      | (refine wpList_store_mid rfl 37 _ _ rfl (g + 2 + 1) 0 #[.int .i64 5, .int .i64 0, .bool false, .int .i64 0] rfl rfl ?ht Try.sizeTrap (Tr.vs_all ⟨5, 0, false, 0⟩) ?_; case ht => exact HT9'.out))
    obtain ⟨v1, v2, hbf⟩ := laid2 w2 (g + 2) (cvl (c)) [.int .i64 5, .int .i64 0, .bool false, .int .i64 0] (by rw [cvl_len, HLN.out]; exact HX.out.t8) HX.out.t9
    refine bodyPost_ret (results_two rfl _ _ (g + 2) 0 (g + 2 + 1) 0 _ _ _ _ rfl v1 Try.underlying27 rfl (cvl_info _ HLN.out) rfl v2 Try.underlying37 rfl Try.sizeTrap) rfl ?_
    have hg0 := HGS.out
    exact ⟨by rw [HDF.out]; rfl, by rw [HDF.out]; exact HRF.out.keep0 (but_fresh HB.out hbf (by simp; omega)), (but_fresh HB.out hbf (by simp; omega)).wider (by simp)⟩
  case pos =>
    have hne : (d % 4 != 0) = false := by simp [hal]
    have HAL : Hid (d % 4 = 0) := hal
    clear hal
    go_wp2_with fail
    refine (rfind_c bM bx cx xs A cA lo l s d false _ (HRF.out.keep0 HB.out) hl8 hd0 hd1).mono ?_
    rintro e w3 ⟨rfl, k3⟩
    rw [HR.out]
    simp only [Tr.vs]
    obtain ⟨P, hP⟩ : ∃ P, plc ⟨⟨t1, t2, t3, t4⟩, f, q⟩ = P := ⟨_, rfl⟩
    rw [hP]
    have hPb := plc_bd ⟨⟨t1, t2, t3, t4⟩, f, q⟩
    rw [hP] at hPb
    obtain ⟨hP0, hP1⟩ := hPb
    have HP : Hid (plc ⟨⟨t1, t2, t3, t4⟩, f, q⟩ = P) := hP
    have hX3 := HX.out.keep0 k3
    have hB3 := HB.out.trans k3
    have hRT := new_range w3 [.int .i64 t1, .int .i64 t2, .bool t3, .int .i64 t4] 37
    have hKT : But [] w3 (w3.alloc (.cells #[.int .i64 t1, .int .i64 t2, .bool t3, .int .i64 t4] 37)) := (But.refl [] w3).alloc _
    clear k3 HX HB j0 hP
    go_upto_region 6 with fail
    generalize w3.alloc (.cells #[.int .i64 t1, .int .i64 t2, .bool t3, .int .i64 t4] 37) = w4 at hRT hKT ⊢
    obtain ⟨b3, hb3⟩ : ∃ b3, b3 = w3.heap.size := ⟨_, rfl⟩
    have hg3 : g + 3 < b3 := by rw [hb3]; exact lt_of_there hX3.t9 (by omega)
    rw [← hb3] at hRT ⊢
    have HX : Hid (MBx w4 g c 14 a b i) := hX3.keep0 hKT
    have HB : Hid (But [] w w4) := hB3.trans hKT
    have HRT : Hid (w4.rangeAt b3 0 [.int .i64 t1, .int .i64 t2, .bool t3, .int .i64 t4]) := hRT
    have q0 : w4.cell? ⟨b3, 0, none⟩ = some (.int .i64 t1) := hRT 0 _ rfl
    clear hX3 hB3 hRT hKT hb3
    by_cases ht : t1 = 0
    case neg =>
      have HDF : Hid (D = ⟨⟨t1, t2, t3, t4⟩, c, xs⟩) := HDT.out HAL.out ht
      have hne : (t1 != 0) = true := bne_iff_ne.2 ht
      clear ht
      have HT8 : Hid (w4.there (g + 2) 0 17) := HX.out.t8
      have HT9 : Hid (w4.there (g + 3) 0 4) := HX.out.t9
      go_wp2
      refine wp_region_held_drew (S := fun w' => w'.rangeAt g 0 (cvl c) ∧ w'.rangeAt b3 0 [.int .i64 t1, .int .i64 t2, .bool t3, .int .i64 t4]) (by kernel_rfl) ⟨(World.rangeAt_drew _ _ _ _).2 HX.out.ctx.range, (World.rangeAt_drew _ _ _ _).2 HRT.out⟩ (fun hS => ?_)
      refine wpAnyH_take (i := 0) (v := .agg (cvl c).toArray) rfl (by kernel_rfl) (by kernel_rfl) (by kernel_rfl) (fun _ _ _ h => h) (yieldsIf_load_mid (by rfl) _ _ rfl g 0 rfl (cvl c) _ (fun w' h => h.1) Try.underlying27 rfl (cvl_info c HLN.out)) hS ?_
      simp only [Act.put, List.setIfInBounds_toArray]
      refine wpAnyH_take (i := 1) (v := .agg (List.toArray [.int .i64 t1, .int .i64 t2, .bool t3, .int .i64 t4])) rfl (by kernel_rfl) (by kernel_rfl) (by kernel_rfl) (fun _ _ _ h => h) (yieldsIf_load_mid (by rfl) _ _ rfl b3 0 rfl [.int .i64 t1, .int .i64 t2, .bool t3, .int .i64 t4] _ (fun w' h => h.2) Try.underlying37 rfl Try.sizeTrap) hS ?_
      simp only [Act.put]
      refine wpAnyH_ready (rs := [2]) (by kernel_rfl) (by simp) ?_
      refine AllReadyH.cons rfl (fun K hK => ?_) AllReadyH.nil
      rw [if_pos (by rfl)]
      refine wp_store_mid _ _ _ rfl (g + 2) 0 (cvl c).toArray rfl rfl ?_ ?_ (all_oneCell_toArray (cvl_one c)) ?_
      · rw [List.size_toArray, cvl_len, HLN.out]; exact there_keep HT8.out (But.refl [] _).drew (by simp)
      · rw [List.size_toArray]; exact cvl_info c HLN.out
      refine hK.out _ _ ⟨range_keep hS.1 ((But.refl [g + 2] _).setCells (by simp) _ _) (by simp; try omega), range_keep hS.2 ((But.refl [g + 2] _).setCells (by simp) _ _) (by simp; try omega)⟩ (fun hS2 => ?_)
      clear hK K
      simp only [Act.put]
      refine wpAnyH_ready (rs := [3]) (by kernel_rfl) (by simp) ?_
      refine AllReadyH.cons rfl (fun K hK => ?_) AllReadyH.nil
      rw [if_pos (by rfl)]
      refine wp_store_mid _ _ _ rfl (g + 3) 0 (List.toArray [.int .i64 t1, .int .i64 t2, .bool t3, .int .i64 t4]) rfl rfl ?_ Try.sizeTrap (Tr.vs_all ⟨t1, t2, t3, t4⟩) ?_
      · exact World.there_setCells (there_keep HT9.out (But.refl [] _).drew (by simp)) _ _ _
      refine hK.out _ _ ⟨range_keep hS2.1 ((But.refl [g + 3] _).setCells (by simp) _ _) (by simp; try omega), range_keep hS2.2 ((But.refl [g + 3] _).setCells (by simp) _ _) (by simp; try omega)⟩ (fun hS3 => ?_)
      clear hK K
      simp only [Act.put]
      refine wpAnyH_done (by kernel_rfl) ?_ _
      go_wp2
      obtain ⟨v1, v2, hbf⟩ := laid2d w4 (g + 2) (cvl c) [.int .i64 t1, .int .i64 t2, .bool t3, .int .i64 t4] (by rw [cvl_len, HLN.out]; exact HX.out.t8) HX.out.t9
      refine bodyPost_ret (results_two rfl _ _ (g + 2) 0 (g + 3) 0 _ _ _ _ rfl v1 Try.underlying27 rfl (cvl_info c HLN.out) rfl v2 Try.underlying37 rfl Try.sizeTrap) rfl ?_
      have hg0 := HGS.out
      exact ⟨by rw [HDF.out]; rfl, by rw [HDF.out]; exact HRF.out.keep0 (but_fresh HB.out hbf (by simp; omega)), (but_fresh HB.out hbf (by simp; omega)).wider (by simp)⟩
    case pos =>
      have hDF := HDO.out HAL.out ht
      subst ht
      have hvv : rgw xs P = getW 4 xs f q := by rw [← HP.out]; exact rgw_plc xs ⟨⟨0, t2, t3, t4⟩, f, q⟩ rfl
      obtain ⟨v, hv⟩ : ∃ v, getW 4 xs f q = v := ⟨_, rfl⟩
      have hvb := getW_bd (n := 4) HUX.out f q
      rw [hv] at hvb hvv
      rw [hv] at hDF
      obtain ⟨hv0, hv1⟩ := hvb
      have HVV : Hid (rgw xs P = v) := hvv
      have j0 := HX.out.i0
      have j1 := HX.out.i1
      clear hv hvv
      have HDF : Hid (D = ⟨tr0, (c.set a v).set 16 ((x + 4) % 4294967296), xs⟩) := hDF.trans (by rw [pc4_other c a (by omega), HX16.out])
      clear hDF
      have ra : w4.cell? ⟨g, a, none⟩ = some (.int .u32 z) := by rw [← HZ.out]; exact HX.out.ctx.reg a (by omega)
      have fa : w4.frozen? ⟨g, a, none⟩ = false := HX.out.ctx.fz a (by omega)
      go_wp2_with fail
      refine (rgetm_c bM bx cx xs A cA lo l _ _ (HRF.out.keep0 HB.out) hP1).mono ?_
      rintro e w5 ⟨rfl, rfl⟩
      rw [HVV.out]
      go_upto_region 18 with fail
      have hX5 := HX.out.set a (by omega) (v)
      have k5 : But [g] w4 (w4.setCell ⟨g, a, none⟩ (.int .u32 (v))) := (But.refl [g] w4).setCell (by simp) _
      generalize w4.setCell ⟨g, a, none⟩ (.int .u32 (v)) = w5 at hX5 k5 ⊢
      have hB5 : But [] w w5 := but_fresh HB.out k5 (by have := HGS.out; simp; omega)
      clear HX HB k5 ra fa j0 j1
      have HX : Hid (MBx w5 g (c.set a (v)) 14 a b i) := hX5
      have HB : Hid (But [] w w5) := hB5
      have HB16 : Hid ((c.set a (v)).getD 16 0 = c.getD 16 0) := by show _ = _; rw [Fr.set_get _ _ _ _ (by rw [HLN.out]; omega), if_neg (by omega)]
      clear hX5 hB5
      have hpc : w5.cell? ⟨g, 16, none⟩ = some (.int .u32 x) := by rw [← HX16.out, ← HB16.out]; exact HX.out.ctx.reg 16 (by omega)
      have hz6 : w5.frozen? ⟨g, 16, none⟩ = false := HX.out.ctx.fz 16 (by omega)
      go_upto_region 21 with fail
      have hX6 := HX.out.set 16 (by omega) ((x + 4) % 4294967296)
      have k6 : But [g] w5 (w5.setCell ⟨g, 16, none⟩ (.int .u32 ((x + 4) % 4294967296))) := (But.refl [g] w5).setCell (by simp) _
      generalize w5.setCell ⟨g, 16, none⟩ (.int .u32 ((x + 4) % 4294967296)) = w6 at hX6 k6 ⊢
      clear hpc hz6 HX
      have HX : Hid (MBx w6 g ((c.set a v).set 16 ((x + 4) % 4294967296)) 14 a b i) := hX6
      have HL6 : Hid (((c.set a v).set 16 ((x + 4) % 4294967296)).length = 17) := hX6.ctx.len
      have HK6 : Hid (But [g] w5 w6) := k6
      clear hX6 k6
      have HI9 : Hid ((Try.prog.info? 27).map (·.size) = some (cvl ((c.set a v).set 16 ((x + 4) % 4294967296))).toArray.size) := by show _ = _; rw [List.size_toArray]; exact cvl_info _ HL6.out
      have HT8' : Hid (w6.there (g + 2) 0 (cvl ((c.set a v).set 16 ((x + 4) % 4294967296))).toArray.size) := by show World.there _ _ _ _; rw [List.size_toArray, cvl_len, HL6.out]; exact HX.out.t8
      have HT9' : Hid ((w6.setCells (g + 2) 0 (cvl ((c.set a v).set 16 ((x + 4) % 4294967296)))).there (g + 2 + 1) 0 4) := World.there_setCells HX.out.t9 _ _ _
      go_wp2_with (first
        | (refine wpList_load_mid rfl 27 _ rfl g 0 rfl (cvl ((c.set a v).set 16 ((x + 4) % 4294967296))) _ HX.out.ctx.range Try.underlying27 rfl (cvl_info _ HL6.out) ?_)
        | (refine wpList_store_mid rfl 27 _ _ rfl (g + 2) 0 (cvl ((c.set a v).set 16 ((x + 4) % 4294967296))).toArray rfl rfl ?ht HI9.out (all_oneCell_toArray (cvl_one _)) ?_; case ht => exact HT8'.out)
        | (refine wpList_store_mid rfl 37 _ _ rfl (g + 2 + 1) 0 #[.int .i64 0, .int .i64 0, .bool false, .int .i64 0] rfl rfl ?ht Try.sizeTrap (Tr.vs_all tr0) ?_; case ht => exact HT9'.out))
      obtain ⟨v1, v2, hbf⟩ := laid2 w6 (g + 2) (cvl ((c.set a v).set 16 ((x + 4) % 4294967296))) [.int .i64 0, .int .i64 0, .bool false, .int .i64 0] (by rw [cvl_len, HL6.out]; exact HX.out.t8) HX.out.t9
      refine bodyPost_ret (results_two rfl _ _ (g + 2) 0 (g + 2 + 1) 0 _ _ _ _ rfl v1 Try.underlying27 rfl (cvl_info _ HL6.out) rfl v2 Try.underlying37 rfl Try.sizeTrap) rfl ?_
      have hg0 := HGS.out
      have hB9 : But [] w _ := but_fresh (but_fresh HB.out HK6.out (by simp; omega)) hbf (by simp; omega)
      exact ⟨by rw [HDF.out]; rfl, by rw [HDF.out]; exact HRF.out.keep0 hB9, hB9.wider (by simp)⟩
set_option maxHeartbeats 4000000 in
theorem rmem15 (bM bx cx : Nat) (xs : List Int) (A : Option Addr) (cA lo : Nat) (l : List En) (s : Int) (a b : Nat) (i : Int) (c : List Int) (w : World) (h : RefAt w bM bx cx 4 xs A cA lo l) (hl8 : l.length ≤ 1000) (hux : U32s xs) (hl : c.length = 17) (hu : U32s c) (ha : a < 16) (hb : b < 16) :
    Calls Try.prog 27 #[.pointer (some ⟨bM, 0, none⟩), .int .i64 s, .agg (cvl c).toArray, .agg #[.int .i64 15, .int .i64 a, .int .i64 b, .int .i64 i]] w fun e w' => e = .returned (endD c (doP 4 xs l s 15 a b i (pc4 c))).ans ∧ RefAt w' bM bx cx 4 (endD c (doP 4 xs l s 15 a b i (pc4 c))).xs A cA lo l ∧ But [bx] w w' := by
  obtain ⟨D, hD⟩ : ∃ D, endD c (doP 4 xs l s 15 a b i (pc4 c)) = D := ⟨_, rfl⟩
  rw [hD]
  obtain ⟨x, hx16⟩ : ∃ x, c.getD 16 0 = x := ⟨_, rfl⟩
  obtain ⟨y, hy⟩ : ∃ y, c.getD b 0 = y := ⟨_, rfl⟩
  obtain ⟨z, hz⟩ : ∃ z, c.getD a 0 = z := ⟨_, rfl⟩
  have hbx := hu 16
  have hby := hu b
  have hbz := hu a
  rw [hx16] at hbx
  rw [hy] at hby
  rw [hz] at hbz
  obtain ⟨hx0, hx1⟩ := hbx
  obtain ⟨hy0, hy1⟩ := hby
  obtain ⟨hz0, hz1⟩ := hbz
  obtain ⟨d, hd⟩ : ∃ d, (y + i % 4294967296) % 4294967296 = d := ⟨_, rfl⟩
  have hADR : adr (pc4 c) b i = d := by rw [adr_pc4 c hl b hb i]; unfold adr; rw [hy]; exact hd
  have hd0 : 0 ≤ d := by omega
  have hd1 : d ≤ 4294967295 := by omega
  rcases hr : fnd l s d true with ⟨⟨t1, t2, t3, t4⟩, f, q⟩
  have h6 := fnd_cause hr
  have hok := fnd_ok hr
  dsimp only at h6 hok
  have HDA : Hid (¬ d % 4 = 0 → D = ⟨⟨5, 0, false, 0⟩, c, xs⟩) := fun hal => by rw [← hD]; exact m15_tr hADR (if_neg hal) (by simp) (by simp)
  have HDT : Hid (d % 4 = 0 → t1 ≠ 0 → D = ⟨⟨t1, t2, t3, t4⟩, c, xs⟩) := fun hal h0 => by rw [← hD]; exact m15_tr hADR ((if_pos hal).trans hr) h0 h6
  have HDO : Hid (d % 4 = 0 → t1 = 0 → D = ⟨tr0, pc4 c, putW 4 xs f q z⟩) := fun hal h0 => by rw [← hz, ← pc4_reg c hl a ha]; rw [← hD]; exact m15_ok hADR ((if_pos hal).trans (hr.trans (by rw [hok h0])))
  have hX1 := MBx.new w c 15 a b i 27 75 37 hl
  have hB1 : But [] w ((((w.alloc (.cells (cvl c).toArray 27)).alloc (.cells #[.int .i64 15, .int .i64 a, .int .i64 b, .int .i64 i] 75)).alloc (.cells #[.int .u32 0, .int .u32 0, .int .u32 0, .int .u32 0, .int .u32 0, .int .u32 0, .int .u32 0, .int .u32 0, .int .u32 0, .int .u32 0, .int .u32 0, .int .u32 0, .int .u32 0, .int .u32 0, .int .u32 0, .int .u32 0, .int .u32 0] 27)).alloc (.cells #[.int .i64 0, .int .i64 0, .bool false, .int .i64 0] 37)) := ((((But.refl [] w).alloc _).alloc _).alloc _).alloc _
  obtain ⟨g, hg⟩ : ∃ g, g = w.heap.size := ⟨_, rfl⟩
  have HGS : Hid (w.heap.size ≤ g) := by show _ ≤ g; omega
  have HRF : Hid (RefAt w bM bx cx 4 xs A cA lo l) := h
  obtain ⟨hlM, hlx⟩ := h.lt
  rw [← hg] at hlM hlx
  have HLX : Hid (bM < g ∧ bx < g) := ⟨hlM, hlx⟩
  have HLN : Hid (c.length = 17) := hl
  have HUX : Hid (U32s xs) := hux
  have HX16 : Hid (c.getD 16 0 = x) := hx16
  have HZ : Hid (c.getD a 0 = z) := hz
  have HR : Hid (fnd l s d true = ⟨⟨t1, t2, t3, t4⟩, f, q⟩) := hr
  have ha16 : (a : Int) < 16 := by omega
  have ha0 : (0 : Int) ≤ (a : Int) := by omega
  have hb16 : (b : Int) < 16 := by omega
  have hb0 : (0 : Int) ≤ (b : Int) := by omega
  have HY : Hid (c.getD b 0 = y) := hy
  have HDD : Hid ((y + i % 4294967296) % 4294967296 = d) := hd
  clear h hux hu hl hx16 hy hz hADR hr h6 hok hD hd
  go_enter Try.func27, Try.ntmps27
  go_upto_region 1 with fail
  rw [← hg] at hX1 ⊢
  generalize (((w.alloc (.cells (cvl c).toArray 27)).alloc (.cells #[.int .i64 15, .int .i64 a, .int .i64 b, .int .i64 i] 75)).alloc (.cells #[.int .u32 0, .int .u32 0, .int .u32 0, .int .u32 0, .int .u32 0, .int .u32 0, .int .u32 0, .int .u32 0, .int .u32 0, .int .u32 0, .int .u32 0, .int .u32 0, .int .u32 0, .int .u32 0, .int .u32 0, .int .u32 0, .int .u32 0] 27)).alloc (.cells #[.int .i64 0, .int .i64 0, .bool false, .int .i64 0] 37) = w1 at hX1 hB1 ⊢
  have j0 := hX1.i0
  have j2 := hX1.i2
  have j3 := hX1.i3
  have rb : w1.cell? ⟨g, b, none⟩ = some (.int .u32 y) := by rw [← HY.out]; exact hX1.ctx.reg b (by omega)
  have HXq : Hid (∀ k, MBx (w1.drewN k) g c 15 a b i) := fun k => hX1.keep0 ((But.refl [] w1).drewN k)
  have HBq : Hid (∀ k, But [] w (w1.drewN k)) := fun k => hB1.drewN k
  clear hX1 hB1 hg
  go_quiet (fail)
  rw [HDD.out]
  have HX : Hid (MBx (w1.drewN nq) g c 15 a b i) := HXq.out _
  have HB : Hid (But [] w (w1.drewN nq)) := HBq.out _
  generalize w1.drewN nq = w2 at HX HB ⊢
  clear HXq HBq j0 j2 j3 rb
  have j0 := HX.out.i0
  by_cases hal : d % 4 = 0
  case neg =>
    have HDE := HDA.out hal
    have hne : (d % 4 != 0) = true := bne_iff_ne.2 hal
    have HDF : Hid (D = ⟨⟨5, 0, false, 0⟩, c, xs⟩) := HDE
    clear HDE hal
    have HI9 : Hid ((Try.prog.info? 27).map (·.size) = some (cvl (c)).toArray.size) := by show _ = _; rw [List.size_toArray]; exact cvl_info _ HLN.out
    have HT8' : Hid (w2.there (g + 2) 0 (cvl (c)).toArray.size) := by show World.there _ _ _ _; rw [List.size_toArray, cvl_len, HLN.out]; exact HX.out.t8
    have HT9' : Hid ((w2.setCells (g + 2) 0 (cvl (c))).there (g + 2 + 1) 0 4) := World.there_setCells HX.out.t9 _ _ _
    go_wp2_with (first
      | (refine wpList_load_mid rfl 27 _ rfl g 0 rfl (cvl (c)) _ HX.out.ctx.range Try.underlying27 rfl (cvl_info _ HLN.out) ?_)
      | (refine wpList_store_mid rfl 27 _ _ rfl (g + 2) 0 (cvl (c)).toArray rfl rfl ?ht HI9.out (all_oneCell_toArray (cvl_one _)) ?_; case ht => exact HT8'.out)
      | (refine wpList_store_mid rfl 37 _ _ rfl (g + 2 + 1) 0 #[.int .i64 5, .int .i64 0, .bool false, .int .i64 0] rfl rfl ?ht Try.sizeTrap (Tr.vs_all ⟨5, 0, false, 0⟩) ?_; case ht => exact HT9'.out))
    obtain ⟨v1, v2, hbf⟩ := laid2 w2 (g + 2) (cvl (c)) [.int .i64 5, .int .i64 0, .bool false, .int .i64 0] (by rw [cvl_len, HLN.out]; exact HX.out.t8) HX.out.t9
    refine bodyPost_ret (results_two rfl _ _ (g + 2) 0 (g + 2 + 1) 0 _ _ _ _ rfl v1 Try.underlying27 rfl (cvl_info _ HLN.out) rfl v2 Try.underlying37 rfl Try.sizeTrap) rfl ?_
    have hg0 := HGS.out
    exact ⟨by rw [HDF.out]; rfl, by rw [HDF.out]; exact HRF.out.keep0 (but_fresh HB.out hbf (by simp; omega)), (but_fresh HB.out hbf (by simp; omega)).wider (by simp)⟩
  case pos =>
    have hne : (d % 4 != 0) = false := by simp [hal]
    have HAL : Hid (d % 4 = 0) := hal
    clear hal
    go_wp2_with fail
    refine (rfind_c bM bx cx xs A cA lo l s d true _ (HRF.out.keep0 HB.out) hl8 hd0 hd1).mono ?_
    rintro e w3 ⟨rfl, k3⟩
    rw [HR.out]
    simp only [Tr.vs]
    obtain ⟨P, hP⟩ : ∃ P, plc ⟨⟨t1, t2, t3, t4⟩, f, q⟩ = P := ⟨_, rfl⟩
    rw [hP]
    have hPb := plc_bd ⟨⟨t1, t2, t3, t4⟩, f, q⟩
    rw [hP] at hPb
    obtain ⟨hP0, hP1⟩ := hPb
    have HP : Hid (plc ⟨⟨t1, t2, t3, t4⟩, f, q⟩ = P) := hP
    have hX3 := HX.out.keep0 k3
    have hB3 := HB.out.trans k3
    have hRT := new_range w3 [.int .i64 t1, .int .i64 t2, .bool t3, .int .i64 t4] 37
    have hKT : But [] w3 (w3.alloc (.cells #[.int .i64 t1, .int .i64 t2, .bool t3, .int .i64 t4] 37)) := (But.refl [] w3).alloc _
    clear k3 HX HB j0 hP
    go_upto_region 6 with fail
    generalize w3.alloc (.cells #[.int .i64 t1, .int .i64 t2, .bool t3, .int .i64 t4] 37) = w4 at hRT hKT ⊢
    obtain ⟨b3, hb3⟩ : ∃ b3, b3 = w3.heap.size := ⟨_, rfl⟩
    have hg3 : g + 3 < b3 := by rw [hb3]; exact lt_of_there hX3.t9 (by omega)
    rw [← hb3] at hRT ⊢
    have HX : Hid (MBx w4 g c 15 a b i) := hX3.keep0 hKT
    have HB : Hid (But [] w w4) := hB3.trans hKT
    have HRT : Hid (w4.rangeAt b3 0 [.int .i64 t1, .int .i64 t2, .bool t3, .int .i64 t4]) := hRT
    have q0 : w4.cell? ⟨b3, 0, none⟩ = some (.int .i64 t1) := hRT 0 _ rfl
    clear hX3 hB3 hRT hKT hb3
    by_cases ht : t1 = 0
    case neg =>
      have HDF : Hid (D = ⟨⟨t1, t2, t3, t4⟩, c, xs⟩) := HDT.out HAL.out ht
      have hne : (t1 != 0) = true := bne_iff_ne.2 ht
      clear ht
      have HT8 : Hid (w4.there (g + 2) 0 17) := HX.out.t8
      have HT9 : Hid (w4.there (g + 3) 0 4) := HX.out.t9
      go_wp2
      refine wp_region_held_drew (S := fun w' => w'.rangeAt g 0 (cvl c) ∧ w'.rangeAt b3 0 [.int .i64 t1, .int .i64 t2, .bool t3, .int .i64 t4]) (by kernel_rfl) ⟨(World.rangeAt_drew _ _ _ _).2 HX.out.ctx.range, (World.rangeAt_drew _ _ _ _).2 HRT.out⟩ (fun hS => ?_)
      refine wpAnyH_take (i := 0) (v := .agg (cvl c).toArray) rfl (by kernel_rfl) (by kernel_rfl) (by kernel_rfl) (fun _ _ _ h => h) (yieldsIf_load_mid (by rfl) _ _ rfl g 0 rfl (cvl c) _ (fun w' h => h.1) Try.underlying27 rfl (cvl_info c HLN.out)) hS ?_
      simp only [Act.put, List.setIfInBounds_toArray]
      refine wpAnyH_take (i := 1) (v := .agg (List.toArray [.int .i64 t1, .int .i64 t2, .bool t3, .int .i64 t4])) rfl (by kernel_rfl) (by kernel_rfl) (by kernel_rfl) (fun _ _ _ h => h) (yieldsIf_load_mid (by rfl) _ _ rfl b3 0 rfl [.int .i64 t1, .int .i64 t2, .bool t3, .int .i64 t4] _ (fun w' h => h.2) Try.underlying37 rfl Try.sizeTrap) hS ?_
      simp only [Act.put]
      refine wpAnyH_ready (rs := [2]) (by kernel_rfl) (by simp) ?_
      refine AllReadyH.cons rfl (fun K hK => ?_) AllReadyH.nil
      rw [if_pos (by rfl)]
      refine wp_store_mid _ _ _ rfl (g + 2) 0 (cvl c).toArray rfl rfl ?_ ?_ (all_oneCell_toArray (cvl_one c)) ?_
      · rw [List.size_toArray, cvl_len, HLN.out]; exact there_keep HT8.out (But.refl [] _).drew (by simp)
      · rw [List.size_toArray]; exact cvl_info c HLN.out
      refine hK.out _ _ ⟨range_keep hS.1 ((But.refl [g + 2] _).setCells (by simp) _ _) (by simp; try omega), range_keep hS.2 ((But.refl [g + 2] _).setCells (by simp) _ _) (by simp; try omega)⟩ (fun hS2 => ?_)
      clear hK K
      simp only [Act.put]
      refine wpAnyH_ready (rs := [3]) (by kernel_rfl) (by simp) ?_
      refine AllReadyH.cons rfl (fun K hK => ?_) AllReadyH.nil
      rw [if_pos (by rfl)]
      refine wp_store_mid _ _ _ rfl (g + 3) 0 (List.toArray [.int .i64 t1, .int .i64 t2, .bool t3, .int .i64 t4]) rfl rfl ?_ Try.sizeTrap (Tr.vs_all ⟨t1, t2, t3, t4⟩) ?_
      · exact World.there_setCells (there_keep HT9.out (But.refl [] _).drew (by simp)) _ _ _
      refine hK.out _ _ ⟨range_keep hS2.1 ((But.refl [g + 3] _).setCells (by simp) _ _) (by simp; try omega), range_keep hS2.2 ((But.refl [g + 3] _).setCells (by simp) _ _) (by simp; try omega)⟩ (fun hS3 => ?_)
      clear hK K
      simp only [Act.put]
      refine wpAnyH_done (by kernel_rfl) ?_ _
      go_wp2
      obtain ⟨v1, v2, hbf⟩ := laid2d w4 (g + 2) (cvl c) [.int .i64 t1, .int .i64 t2, .bool t3, .int .i64 t4] (by rw [cvl_len, HLN.out]; exact HX.out.t8) HX.out.t9
      refine bodyPost_ret (results_two rfl _ _ (g + 2) 0 (g + 3) 0 _ _ _ _ rfl v1 Try.underlying27 rfl (cvl_info c HLN.out) rfl v2 Try.underlying37 rfl Try.sizeTrap) rfl ?_
      have hg0 := HGS.out
      exact ⟨by rw [HDF.out]; rfl, by rw [HDF.out]; exact HRF.out.keep0 (but_fresh HB.out hbf (by simp; omega)), (but_fresh HB.out hbf (by simp; omega)).wider (by simp)⟩
    case pos =>
      have hDF := HDO.out HAL.out ht
      subst ht
      have hvv : rgw xs P = getW 4 xs f q := by rw [← HP.out]; exact rgw_plc xs ⟨⟨0, t2, t3, t4⟩, f, q⟩ rfl
      obtain ⟨v, hv⟩ : ∃ v, getW 4 xs f q = v := ⟨_, rfl⟩
      have hvb := getW_bd (n := 4) HUX.out f q
      rw [hv] at hvb hvv
      obtain ⟨hv0, hv1⟩ := hvb
      have HVV : Hid (rgw xs P = v) := hvv
      have j0 := HX.out.i0
      have j1 := HX.out.i1
      clear hv hvv
      have ra : w4.cell? ⟨g, a, none⟩ = some (.int .u32 z) := by rw [← HZ.out]; exact HX.out.ctx.reg a (by omega)
      have hmx := (HRF.out.keep0 HB.out).mem
      by_cases hneg : P < 0
      case pos =>
        have HDF : Hid (D = ⟨tr0, c.set 16 ((x + 4) % 4294967296), xs⟩) := hDF.trans (by rw [put_no (t := ⟨0, t2, t3, t4⟩) rfl (by rw [HP.out]; exact hneg), ← HX16.out]; rfl)
        clear hDF
        go_wp2_with fail
        refine (rgetm_c bM bx cx xs A cA lo l _ _ (HRF.out.keep0 HB.out) hP1).mono ?_
        rintro e w5 ⟨rfl, rfl⟩
        rw [HVV.out]
        go_upto_region 18 with fail
        clear ra j0 j1
        go_upto_region 20 with fail
        clear hmx
        have hpc : w4.cell? ⟨g, 16, none⟩ = some (.int .u32 x) := by rw [← HX16.out]; exact HX.out.ctx.reg 16 (by omega)
        have hz6 : w4.frozen? ⟨g, 16, none⟩ = false := HX.out.ctx.fz 16 (by omega)
        go_upto_region 21 with fail
        have hX6 := HX.out.set 16 (by omega) ((x + 4) % 4294967296)
        have k6 : But [g] w4 (w4.setCell ⟨g, 16, none⟩ (.int .u32 ((x + 4) % 4294967296))) := (But.refl [g] w4).setCell (by simp) _
        generalize w4.setCell ⟨g, 16, none⟩ (.int .u32 ((x + 4) % 4294967296)) = w6 at hX6 k6 ⊢
        clear hpc hz6 HX
        have HX : Hid (MBx w6 g (c.set 16 ((x + 4) % 4294967296)) 15 a b i) := hX6
        have HL6 : Hid ((c.set 16 ((x + 4) % 4294967296)).length = 17) := hX6.ctx.len
        have HK6 : Hid (But [g] w4 w6) := k6
        clear hX6 k6
        have HI9 : Hid ((Try.prog.info? 27).map (·.size) = some (cvl (c.set 16 ((x + 4) % 4294967296))).toArray.size) := by show _ = _; rw [List.size_toArray]; exact cvl_info _ HL6.out
        have HT8' : Hid (w6.there (g + 2) 0 (cvl (c.set 16 ((x + 4) % 4294967296))).toArray.size) := by show World.there _ _ _ _; rw [List.size_toArray, cvl_len, HL6.out]; exact HX.out.t8
        have HT9' : Hid ((w6.setCells (g + 2) 0 (cvl (c.set 16 ((x + 4) % 4294967296)))).there (g + 2 + 1) 0 4) := World.there_setCells HX.out.t9 _ _ _
        go_wp2_with (first
          | (refine wpList_load_mid rfl 27 _ rfl g 0 rfl (cvl (c.set 16 ((x + 4) % 4294967296))) _ HX.out.ctx.range Try.underlying27 rfl (cvl_info _ HL6.out) ?_)
          | (refine wpList_store_mid rfl 27 _ _ rfl (g + 2) 0 (cvl (c.set 16 ((x + 4) % 4294967296))).toArray rfl rfl ?ht HI9.out (all_oneCell_toArray (cvl_one _)) ?_; case ht => exact HT8'.out)
          | (refine wpList_store_mid rfl 37 _ _ rfl (g + 2 + 1) 0 #[.int .i64 0, .int .i64 0, .bool false, .int .i64 0] rfl rfl ?ht Try.sizeTrap (Tr.vs_all tr0) ?_; case ht => exact HT9'.out))
        obtain ⟨v1, v2, hbf⟩ := laid2 w6 (g + 2) (cvl (c.set 16 ((x + 4) % 4294967296))) [.int .i64 0, .int .i64 0, .bool false, .int .i64 0] (by rw [cvl_len, HL6.out]; exact HX.out.t8) HX.out.t9
        refine bodyPost_ret (results_two rfl _ _ (g + 2) 0 (g + 2 + 1) 0 _ _ _ _ rfl v1 Try.underlying27 rfl (cvl_info _ HL6.out) rfl v2 Try.underlying37 rfl Try.sizeTrap) rfl ?_
        have hg0 := HGS.out
        have hB9 : But [] w _ := but_fresh (but_fresh HB.out HK6.out (by simp; omega)) hbf (by simp; omega)
        exact ⟨by rw [HDF.out]; rfl, by rw [HDF.out]; exact HRF.out.keep0 hB9, hB9.wider (by simp)⟩
      case neg =>
        obtain ⟨k, hk⟩ := Int.eq_ofNat_of_zero_le (by omega : 0 ≤ P)
        subst hk
        have HDF : Hid (D = ⟨tr0, c.set 16 ((x + 4) % 4294967296), xs.set k (z)⟩) := hDF.trans (by rw [put_yes (t := ⟨0, t2, t3, t4⟩) HP.out, ← HX16.out]; rfl)
        have hklt : (k : Int) < 64 := hP1
        have HK64 : Hid (k < xs.length) := by show _ < _; rw [HRF.out.len]; omega
        clear hneg hP0
        clear hDF
        go_wp2_with fail
        refine (rgetm_c bM bx cx xs A cA lo l _ _ (HRF.out.keep0 HB.out) hP1).mono ?_
        rintro e w5 ⟨rfl, rfl⟩
        rw [HVV.out]
        go_upto_region 18 with fail
        clear ra j0 j1
        obtain ⟨hxc, hxf⟩ := (HRF.out.keep0 HB.out).blk k HK64.out
        go_upto_region 20 with fail
        have hBL := (HRF.out.keep0 HB.out).blk.set HK64.out (z)
        have k5 : But [bx] w4 (w4.setCell ⟨bx, k, none⟩ (.int .u32 (z))) := (But.refl [bx] w4).setCell (by simp) _
        generalize w4.setCell ⟨bx, k, none⟩ (.int .u32 (z)) = w5 at hBL k5 ⊢
        have hX5 := HX.out.keep k5 (by have := HLX.out; simp; omega)
        have HBX : Hid (But [bx] w w5) := (HB.out.any _).trans k5
        have HBL : Hid (Blk w5 bx (xs.set k (z))) := hBL
        clear HX HB hmx k5 hBL hxc hxf
        have HX : Hid (MBx w5 g c 15 a b i) := hX5
        clear hX5
        have hpc : w5.cell? ⟨g, 16, none⟩ = some (.int .u32 x) := by rw [← HX16.out]; exact HX.out.ctx.reg 16 (by omega)
        have hz6 : w5.frozen? ⟨g, 16, none⟩ = false := HX.out.ctx.fz 16 (by omega)
        go_upto_region 21 with fail
        have hX6 := HX.out.set 16 (by omega) ((x + 4) % 4294967296)
        have k6 : But [g] w5 (w5.setCell ⟨g, 16, none⟩ (.int .u32 ((x + 4) % 4294967296))) := (But.refl [g] w5).setCell (by simp) _
        generalize w5.setCell ⟨g, 16, none⟩ (.int .u32 ((x + 4) % 4294967296)) = w6 at hX6 k6 ⊢
        clear hpc hz6 HX
        have HX : Hid (MBx w6 g (c.set 16 ((x + 4) % 4294967296)) 15 a b i) := hX6
        have HL6 : Hid ((c.set 16 ((x + 4) % 4294967296)).length = 17) := hX6.ctx.len
        have HK6 : Hid (But [g] w5 w6) := k6
        clear hX6 k6
        have HI9 : Hid ((Try.prog.info? 27).map (·.size) = some (cvl (c.set 16 ((x + 4) % 4294967296))).toArray.size) := by show _ = _; rw [List.size_toArray]; exact cvl_info _ HL6.out
        have HT8' : Hid (w6.there (g + 2) 0 (cvl (c.set 16 ((x + 4) % 4294967296))).toArray.size) := by show World.there _ _ _ _; rw [List.size_toArray, cvl_len, HL6.out]; exact HX.out.t8
        have HT9' : Hid ((w6.setCells (g + 2) 0 (cvl (c.set 16 ((x + 4) % 4294967296)))).there (g + 2 + 1) 0 4) := World.there_setCells HX.out.t9 _ _ _
        go_wp2_with (first
          | (refine wpList_load_mid rfl 27 _ rfl g 0 rfl (cvl (c.set 16 ((x + 4) % 4294967296))) _ HX.out.ctx.range Try.underlying27 rfl (cvl_info _ HL6.out) ?_)
          | (refine wpList_store_mid rfl 27 _ _ rfl (g + 2) 0 (cvl (c.set 16 ((x + 4) % 4294967296))).toArray rfl rfl ?ht HI9.out (all_oneCell_toArray (cvl_one _)) ?_; case ht => exact HT8'.out)
          | (refine wpList_store_mid rfl 37 _ _ rfl (g + 2 + 1) 0 #[.int .i64 0, .int .i64 0, .bool false, .int .i64 0] rfl rfl ?ht Try.sizeTrap (Tr.vs_all tr0) ?_; case ht => exact HT9'.out))
        obtain ⟨v1, v2, hbf⟩ := laid2 w6 (g + 2) (cvl (c.set 16 ((x + 4) % 4294967296))) [.int .i64 0, .int .i64 0, .bool false, .int .i64 0] (by rw [cvl_len, HL6.out]; exact HX.out.t8) HX.out.t9
        refine bodyPost_ret (results_two rfl _ _ (g + 2) 0 (g + 2 + 1) 0 _ _ _ _ rfl v1 Try.underlying27 rfl (cvl_info _ HL6.out) rfl v2 Try.underlying37 rfl Try.sizeTrap) rfl ?_
        have hg0 := HGS.out
        have hlx := HLX.out
        have hB9 : But [bx] w _ := but_fresh (but_fresh HBX.out HK6.out (by simp; omega)) hbf (by simp; omega)
        exact ⟨by rw [HDF.out]; rfl, by rw [HDF.out]; exact HRF.out.memed hB9 ((HBL.out.keep HK6.out (by simp; omega)).keep hbf (by simp; omega)) (by simp), hB9⟩
set_option maxHeartbeats 4000000 in
theorem rmem16 (bM bx cx : Nat) (xs : List Int) (A : Option Addr) (cA lo : Nat) (l : List En) (s : Int) (a b : Nat) (i : Int) (c : List Int) (w : World) (h : RefAt w bM bx cx 4 xs A cA lo l) (hl8 : l.length ≤ 1000) (hux : U32s xs) (hl : c.length = 17) (hu : U32s c) (ha : a < 16) (hb : b < 16) :
    Calls Try.prog 27 #[.pointer (some ⟨bM, 0, none⟩), .int .i64 s, .agg (cvl c).toArray, .agg #[.int .i64 16, .int .i64 a, .int .i64 b, .int .i64 i]] w fun e w' => e = .returned (endD c (doP 4 xs l s 16 a b i (pc4 c))).ans ∧ RefAt w' bM bx cx 4 (endD c (doP 4 xs l s 16 a b i (pc4 c))).xs A cA lo l ∧ But [bx] w w' := by
  obtain ⟨D, hD⟩ : ∃ D, endD c (doP 4 xs l s 16 a b i (pc4 c)) = D := ⟨_, rfl⟩
  rw [hD]
  obtain ⟨x, hx16⟩ : ∃ x, c.getD 16 0 = x := ⟨_, rfl⟩
  obtain ⟨y, hy⟩ : ∃ y, c.getD b 0 = y := ⟨_, rfl⟩
  obtain ⟨z, hz⟩ : ∃ z, c.getD a 0 = z := ⟨_, rfl⟩
  have hbx := hu 16
  have hby := hu b
  have hbz := hu a
  rw [hx16] at hbx
  rw [hy] at hby
  rw [hz] at hbz
  obtain ⟨hx0, hx1⟩ := hbx
  obtain ⟨hy0, hy1⟩ := hby
  obtain ⟨hz0, hz1⟩ := hbz
  obtain ⟨d, hd⟩ : ∃ d, (y + i % 4294967296) % 4294967296 = d := ⟨_, rfl⟩
  have hADR : adr (pc4 c) b i = d := by rw [adr_pc4 c hl b hb i]; unfold adr; rw [hy]; exact hd
  have hd0 : 0 ≤ d := by omega
  have hd1 : d ≤ 4294967295 := by omega
  rcases hr : fnd l s d false with ⟨⟨t1, t2, t3, t4⟩, f, q⟩
  have h6 := fnd_cause hr
  have hok := fnd_ok hr
  dsimp only at h6 hok
  have HDT : Hid (t1 ≠ 0 → D = ⟨⟨t1, t2, t3, t4⟩, c, xs⟩) := fun h0 => by rw [← hD]; exact m16_tr hADR hr h0 h6
  have HDO : Hid (t1 = 0 → D = ⟨tr0, (pc4 c).set a (byt (getW 4 xs f q) (d % 4)), xs⟩) := fun h0 => by rw [← hD]; exact m16_ok hADR (hr.trans (by rw [hok h0]))
  have hX1 := MBx.new w c 16 a b i 27 75 37 hl
  have hB1 : But [] w ((((w.alloc (.cells (cvl c).toArray 27)).alloc (.cells #[.int .i64 16, .int .i64 a, .int .i64 b, .int .i64 i] 75)).alloc (.cells #[.int .u32 0, .int .u32 0, .int .u32 0, .int .u32 0, .int .u32 0, .int .u32 0, .int .u32 0, .int .u32 0, .int .u32 0, .int .u32 0, .int .u32 0, .int .u32 0, .int .u32 0, .int .u32 0, .int .u32 0, .int .u32 0, .int .u32 0] 27)).alloc (.cells #[.int .i64 0, .int .i64 0, .bool false, .int .i64 0] 37)) := ((((But.refl [] w).alloc _).alloc _).alloc _).alloc _
  obtain ⟨g, hg⟩ : ∃ g, g = w.heap.size := ⟨_, rfl⟩
  have HGS : Hid (w.heap.size ≤ g) := by show _ ≤ g; omega
  have HRF : Hid (RefAt w bM bx cx 4 xs A cA lo l) := h
  obtain ⟨hlM, hlx⟩ := h.lt
  rw [← hg] at hlM hlx
  have HLX : Hid (bM < g ∧ bx < g) := ⟨hlM, hlx⟩
  have HLN : Hid (c.length = 17) := hl
  have HUX : Hid (U32s xs) := hux
  have HX16 : Hid (c.getD 16 0 = x) := hx16
  have HZ : Hid (c.getD a 0 = z) := hz
  have HR : Hid (fnd l s d false = ⟨⟨t1, t2, t3, t4⟩, f, q⟩) := hr
  have ha16 : (a : Int) < 16 := by omega
  have ha0 : (0 : Int) ≤ (a : Int) := by omega
  have hb16 : (b : Int) < 16 := by omega
  have hb0 : (0 : Int) ≤ (b : Int) := by omega
  have HY : Hid (c.getD b 0 = y) := hy
  have HDD : Hid ((y + i % 4294967296) % 4294967296 = d) := hd
  clear h hux hu hl hx16 hy hz hADR hr h6 hok hD hd
  go_enter Try.func27, Try.ntmps27
  go_upto_region 1 with fail
  rw [← hg] at hX1 ⊢
  generalize (((w.alloc (.cells (cvl c).toArray 27)).alloc (.cells #[.int .i64 16, .int .i64 a, .int .i64 b, .int .i64 i] 75)).alloc (.cells #[.int .u32 0, .int .u32 0, .int .u32 0, .int .u32 0, .int .u32 0, .int .u32 0, .int .u32 0, .int .u32 0, .int .u32 0, .int .u32 0, .int .u32 0, .int .u32 0, .int .u32 0, .int .u32 0, .int .u32 0, .int .u32 0, .int .u32 0] 27)).alloc (.cells #[.int .i64 0, .int .i64 0, .bool false, .int .i64 0] 37) = w1 at hX1 hB1 ⊢
  have j0 := hX1.i0
  have j2 := hX1.i2
  have j3 := hX1.i3
  have rb : w1.cell? ⟨g, b, none⟩ = some (.int .u32 y) := by rw [← HY.out]; exact hX1.ctx.reg b (by omega)
  have HXq : Hid (∀ k, MBx (w1.drewN k) g c 16 a b i) := fun k => hX1.keep0 ((But.refl [] w1).drewN k)
  have HBq : Hid (∀ k, But [] w (w1.drewN k)) := fun k => hB1.drewN k
  clear hX1 hB1 hg
  go_quiet (fail)
  rw [HDD.out]
  have HX : Hid (MBx (w1.drewN nq) g c 16 a b i) := HXq.out _
  have HB : Hid (But [] w (w1.drewN nq)) := HBq.out _
  generalize w1.drewN nq = w2 at HX HB ⊢
  clear HXq HBq j0 j2 j3 rb
  have j0 := HX.out.i0
  go_wp2_with fail
  refine (rfind_c bM bx cx xs A cA lo l s d false _ (HRF.out.keep0 HB.out) hl8 hd0 hd1).mono ?_
  rintro e w3 ⟨rfl, k3⟩
  rw [HR.out]
  simp only [Tr.vs]
  obtain ⟨P, hP⟩ : ∃ P, plc ⟨⟨t1, t2, t3, t4⟩, f, q⟩ = P := ⟨_, rfl⟩
  rw [hP]
  have hPb := plc_bd ⟨⟨t1, t2, t3, t4⟩, f, q⟩
  rw [hP] at hPb
  obtain ⟨hP0, hP1⟩ := hPb
  have HP : Hid (plc ⟨⟨t1, t2, t3, t4⟩, f, q⟩ = P) := hP
  have hX3 := HX.out.keep0 k3
  have hB3 := HB.out.trans k3
  have hRT := new_range w3 [.int .i64 t1, .int .i64 t2, .bool t3, .int .i64 t4] 37
  have hKT : But [] w3 (w3.alloc (.cells #[.int .i64 t1, .int .i64 t2, .bool t3, .int .i64 t4] 37)) := (But.refl [] w3).alloc _
  clear k3 HX HB j0 hP
  go_upto_region 6 with fail
  generalize w3.alloc (.cells #[.int .i64 t1, .int .i64 t2, .bool t3, .int .i64 t4] 37) = w4 at hRT hKT ⊢
  obtain ⟨b3, hb3⟩ : ∃ b3, b3 = w3.heap.size := ⟨_, rfl⟩
  have hg3 : g + 3 < b3 := by rw [hb3]; exact lt_of_there hX3.t9 (by omega)
  rw [← hb3] at hRT ⊢
  have HX : Hid (MBx w4 g c 16 a b i) := hX3.keep0 hKT
  have HB : Hid (But [] w w4) := hB3.trans hKT
  have HRT : Hid (w4.rangeAt b3 0 [.int .i64 t1, .int .i64 t2, .bool t3, .int .i64 t4]) := hRT
  have q0 : w4.cell? ⟨b3, 0, none⟩ = some (.int .i64 t1) := hRT 0 _ rfl
  clear hX3 hB3 hRT hKT hb3
  by_cases ht : t1 = 0
  case neg =>
    have HDF : Hid (D = ⟨⟨t1, t2, t3, t4⟩, c, xs⟩) := HDT.out ht
    have hne : (t1 != 0) = true := bne_iff_ne.2 ht
    clear ht
    have HT8 : Hid (w4.there (g + 2) 0 17) := HX.out.t8
    have HT9 : Hid (w4.there (g + 3) 0 4) := HX.out.t9
    go_wp2
    refine wp_region_held_drew (S := fun w' => w'.rangeAt g 0 (cvl c) ∧ w'.rangeAt b3 0 [.int .i64 t1, .int .i64 t2, .bool t3, .int .i64 t4]) (by kernel_rfl) ⟨(World.rangeAt_drew _ _ _ _).2 HX.out.ctx.range, (World.rangeAt_drew _ _ _ _).2 HRT.out⟩ (fun hS => ?_)
    refine wpAnyH_take (i := 0) (v := .agg (cvl c).toArray) rfl (by kernel_rfl) (by kernel_rfl) (by kernel_rfl) (fun _ _ _ h => h) (yieldsIf_load_mid (by rfl) _ _ rfl g 0 rfl (cvl c) _ (fun w' h => h.1) Try.underlying27 rfl (cvl_info c HLN.out)) hS ?_
    simp only [Act.put, List.setIfInBounds_toArray]
    refine wpAnyH_take (i := 1) (v := .agg (List.toArray [.int .i64 t1, .int .i64 t2, .bool t3, .int .i64 t4])) rfl (by kernel_rfl) (by kernel_rfl) (by kernel_rfl) (fun _ _ _ h => h) (yieldsIf_load_mid (by rfl) _ _ rfl b3 0 rfl [.int .i64 t1, .int .i64 t2, .bool t3, .int .i64 t4] _ (fun w' h => h.2) Try.underlying37 rfl Try.sizeTrap) hS ?_
    simp only [Act.put]
    refine wpAnyH_ready (rs := [2]) (by kernel_rfl) (by simp) ?_
    refine AllReadyH.cons rfl (fun K hK => ?_) AllReadyH.nil
    rw [if_pos (by rfl)]
    refine wp_store_mid _ _ _ rfl (g + 2) 0 (cvl c).toArray rfl rfl ?_ ?_ (all_oneCell_toArray (cvl_one c)) ?_
    · rw [List.size_toArray, cvl_len, HLN.out]; exact there_keep HT8.out (But.refl [] _).drew (by simp)
    · rw [List.size_toArray]; exact cvl_info c HLN.out
    refine hK.out _ _ ⟨range_keep hS.1 ((But.refl [g + 2] _).setCells (by simp) _ _) (by simp; try omega), range_keep hS.2 ((But.refl [g + 2] _).setCells (by simp) _ _) (by simp; try omega)⟩ (fun hS2 => ?_)
    clear hK K
    simp only [Act.put]
    refine wpAnyH_ready (rs := [3]) (by kernel_rfl) (by simp) ?_
    refine AllReadyH.cons rfl (fun K hK => ?_) AllReadyH.nil
    rw [if_pos (by rfl)]
    refine wp_store_mid _ _ _ rfl (g + 3) 0 (List.toArray [.int .i64 t1, .int .i64 t2, .bool t3, .int .i64 t4]) rfl rfl ?_ Try.sizeTrap (Tr.vs_all ⟨t1, t2, t3, t4⟩) ?_
    · exact World.there_setCells (there_keep HT9.out (But.refl [] _).drew (by simp)) _ _ _
    refine hK.out _ _ ⟨range_keep hS2.1 ((But.refl [g + 3] _).setCells (by simp) _ _) (by simp; try omega), range_keep hS2.2 ((But.refl [g + 3] _).setCells (by simp) _ _) (by simp; try omega)⟩ (fun hS3 => ?_)
    clear hK K
    simp only [Act.put]
    refine wpAnyH_done (by kernel_rfl) ?_ _
    go_wp2
    obtain ⟨v1, v2, hbf⟩ := laid2d w4 (g + 2) (cvl c) [.int .i64 t1, .int .i64 t2, .bool t3, .int .i64 t4] (by rw [cvl_len, HLN.out]; exact HX.out.t8) HX.out.t9
    refine bodyPost_ret (results_two rfl _ _ (g + 2) 0 (g + 3) 0 _ _ _ _ rfl v1 Try.underlying27 rfl (cvl_info c HLN.out) rfl v2 Try.underlying37 rfl Try.sizeTrap) rfl ?_
    have hg0 := HGS.out
    exact ⟨by rw [HDF.out]; rfl, by rw [HDF.out]; exact HRF.out.keep0 (but_fresh HB.out hbf (by simp; omega)), (but_fresh HB.out hbf (by simp; omega)).wider (by simp)⟩
  case pos =>
    have hDF := HDO.out ht
    subst ht
    have hvv : rgw xs P = getW 4 xs f q := by rw [← HP.out]; exact rgw_plc xs ⟨⟨0, t2, t3, t4⟩, f, q⟩ rfl
    obtain ⟨v, hv⟩ : ∃ v, getW 4 xs f q = v := ⟨_, rfl⟩
    have hvb := getW_bd (n := 4) HUX.out f q
    rw [hv] at hvb hvv
    rw [hv] at hDF
    obtain ⟨hv0, hv1⟩ := hvb
    have HVV : Hid (rgw xs P = v) := hvv
    have j0 := HX.out.i0
    have j1 := HX.out.i1
    clear hv hvv
    have HDF : Hid (D = ⟨tr0, (c.set a (byt v (d % 4))).set 16 ((x + 4) % 4294967296), xs⟩) := hDF.trans (by rw [pc4_other c a (by omega), HX16.out])
    clear hDF
    have ra : w4.cell? ⟨g, a, none⟩ = some (.int .u32 z) := by rw [← HZ.out]; exact HX.out.ctx.reg a (by omega)
    have fa : w4.frozen? ⟨g, a, none⟩ = false := HX.out.ctx.fz a (by omega)
    go_wp2_with fail
    refine (rgetm_c bM bx cx xs A cA lo l _ _ (HRF.out.keep0 HB.out) hP1).mono ?_
    rintro e w5 ⟨rfl, rfl⟩
    rw [HVV.out]
    go_upto_region 13 with fail
    have hX4 := HX.out.keep0 (But.refl [] w4).drew
    have hB4 := HB.out.drew
    have ra' : w4.drew.cell? ⟨g, a, none⟩ = some (.int .u32 z) := ra
    have fa' : w4.drew.frozen? ⟨g, a, none⟩ = false := fa
    have j1' : w4.drew.cell? ⟨g + 1, 1, none⟩ = some (.int .i64 a) := j1
    have hwt : IntKind.i64.wrap (d.tmod 4) = d % 4 := by rw [Int.tmod_eq_emod_of_nonneg hd0, IntKind.wrap_i64]; omega
    have hbt : Hid (Calls Try.prog 51 #[.int .u32 v, .int .i64 (IntKind.i64.wrap (d.tmod 4))] w4.drew fun e w' => e = .returned (.int .u8 (byt v (d % 4))) ∧ w' = w4.drew) := by show Calls _ _ _ _ _; rw [hwt]; exact (Wd.rbyte_c v (d % 4) _ hv0 hv1).mono fun _ _ h => ⟨h.1, h.2.symm⟩
    clear hwt
    refine wp_region_still_tail 10 (by kernel_rfl) (by kernel_rfl) ?_
    simp only [List.take_succ_cons, List.take_zero, List.drop_succ_cons, List.drop_zero]
    change wpStill _ _ w4.drew _ _ _
    repeat (first | still_step | still_call hbt.out)
    refine wpStill_nil ?_
    change wpList _ _ _ _ _ w4.drew
    clear ra fa j1 j0 HX HB
    generalize w4.drew = w4d at hX4 hB4 ra' fa' j1' ⊢
    have HX : Hid (MBx w4d g c 16 a b i) := hX4
    have HB : Hid (But [] w w4d) := hB4
    clear hX4 hB4
    have hbb : byt v (d % 4) % 4294967296 = byt v (d % 4) := by have := byt_bd v (d % 4); omega
    go_upto_region 18 with fail
    try rw [hbb]
    clear hbb
    have hX5 := HX.out.set a (by omega) (byt v (d % 4))
    have k5 : But [g] w4d (w4d.setCell ⟨g, a, none⟩ (.int .u32 (byt v (d % 4)))) := (But.refl [g] w4d).setCell (by simp) _
    generalize w4d.setCell ⟨g, a, none⟩ (.int .u32 (byt v (d % 4))) = w5 at hX5 k5 ⊢
    have hB5 : But [] w w5 := but_fresh HB.out k5 (by have := HGS.out; simp; omega)
    clear HX HB k5 ra' fa' j1'
    have HX : Hid (MBx w5 g (c.set a (byt v (d % 4))) 16 a b i) := hX5
    have HB : Hid (But [] w w5) := hB5
    have HB16 : Hid ((c.set a (byt v (d % 4))).getD 16 0 = c.getD 16 0) := by show _ = _; rw [Fr.set_get _ _ _ _ (by rw [HLN.out]; omega), if_neg (by omega)]
    clear hX5 hB5
    have hpc : w5.cell? ⟨g, 16, none⟩ = some (.int .u32 x) := by rw [← HX16.out, ← HB16.out]; exact HX.out.ctx.reg 16 (by omega)
    have hz6 : w5.frozen? ⟨g, 16, none⟩ = false := HX.out.ctx.fz 16 (by omega)
    go_upto_region 21 with fail
    have hX6 := HX.out.set 16 (by omega) ((x + 4) % 4294967296)
    have k6 : But [g] w5 (w5.setCell ⟨g, 16, none⟩ (.int .u32 ((x + 4) % 4294967296))) := (But.refl [g] w5).setCell (by simp) _
    generalize w5.setCell ⟨g, 16, none⟩ (.int .u32 ((x + 4) % 4294967296)) = w6 at hX6 k6 ⊢
    clear hpc hz6 HX
    have HX : Hid (MBx w6 g ((c.set a (byt v (d % 4))).set 16 ((x + 4) % 4294967296)) 16 a b i) := hX6
    have HL6 : Hid (((c.set a (byt v (d % 4))).set 16 ((x + 4) % 4294967296)).length = 17) := hX6.ctx.len
    have HK6 : Hid (But [g] w5 w6) := k6
    clear hX6 k6
    have HI9 : Hid ((Try.prog.info? 27).map (·.size) = some (cvl ((c.set a (byt v (d % 4))).set 16 ((x + 4) % 4294967296))).toArray.size) := by show _ = _; rw [List.size_toArray]; exact cvl_info _ HL6.out
    have HT8' : Hid (w6.there (g + 2) 0 (cvl ((c.set a (byt v (d % 4))).set 16 ((x + 4) % 4294967296))).toArray.size) := by show World.there _ _ _ _; rw [List.size_toArray, cvl_len, HL6.out]; exact HX.out.t8
    have HT9' : Hid ((w6.setCells (g + 2) 0 (cvl ((c.set a (byt v (d % 4))).set 16 ((x + 4) % 4294967296)))).there (g + 2 + 1) 0 4) := World.there_setCells HX.out.t9 _ _ _
    go_wp2_with (first
      | (refine wpList_load_mid rfl 27 _ rfl g 0 rfl (cvl ((c.set a (byt v (d % 4))).set 16 ((x + 4) % 4294967296))) _ HX.out.ctx.range Try.underlying27 rfl (cvl_info _ HL6.out) ?_)
      | (refine wpList_store_mid rfl 27 _ _ rfl (g + 2) 0 (cvl ((c.set a (byt v (d % 4))).set 16 ((x + 4) % 4294967296))).toArray rfl rfl ?ht HI9.out (all_oneCell_toArray (cvl_one _)) ?_; case ht => exact HT8'.out)
      | (refine wpList_store_mid rfl 37 _ _ rfl (g + 2 + 1) 0 #[.int .i64 0, .int .i64 0, .bool false, .int .i64 0] rfl rfl ?ht Try.sizeTrap (Tr.vs_all tr0) ?_; case ht => exact HT9'.out))
    obtain ⟨v1, v2, hbf⟩ := laid2 w6 (g + 2) (cvl ((c.set a (byt v (d % 4))).set 16 ((x + 4) % 4294967296))) [.int .i64 0, .int .i64 0, .bool false, .int .i64 0] (by rw [cvl_len, HL6.out]; exact HX.out.t8) HX.out.t9
    refine bodyPost_ret (results_two rfl _ _ (g + 2) 0 (g + 2 + 1) 0 _ _ _ _ rfl v1 Try.underlying27 rfl (cvl_info _ HL6.out) rfl v2 Try.underlying37 rfl Try.sizeTrap) rfl ?_
    have hg0 := HGS.out
    have hB9 : But [] w _ := but_fresh (but_fresh HB.out HK6.out (by simp; omega)) hbf (by simp; omega)
    exact ⟨by rw [HDF.out]; rfl, by rw [HDF.out]; exact HRF.out.keep0 hB9, hB9.wider (by simp)⟩
set_option maxHeartbeats 4000000 in
theorem rmem17 (bM bx cx : Nat) (xs : List Int) (A : Option Addr) (cA lo : Nat) (l : List En) (s : Int) (a b : Nat) (i : Int) (c : List Int) (w : World) (h : RefAt w bM bx cx 4 xs A cA lo l) (hl8 : l.length ≤ 1000) (hux : U32s xs) (hl : c.length = 17) (hu : U32s c) (ha : a < 16) (hb : b < 16) :
    Calls Try.prog 27 #[.pointer (some ⟨bM, 0, none⟩), .int .i64 s, .agg (cvl c).toArray, .agg #[.int .i64 17, .int .i64 a, .int .i64 b, .int .i64 i]] w fun e w' => e = .returned (endD c (doP 4 xs l s 17 a b i (pc4 c))).ans ∧ RefAt w' bM bx cx 4 (endD c (doP 4 xs l s 17 a b i (pc4 c))).xs A cA lo l ∧ But [bx] w w' := by
  obtain ⟨D, hD⟩ : ∃ D, endD c (doP 4 xs l s 17 a b i (pc4 c)) = D := ⟨_, rfl⟩
  rw [hD]
  obtain ⟨x, hx16⟩ : ∃ x, c.getD 16 0 = x := ⟨_, rfl⟩
  obtain ⟨y, hy⟩ : ∃ y, c.getD b 0 = y := ⟨_, rfl⟩
  obtain ⟨z, hz⟩ : ∃ z, c.getD a 0 = z := ⟨_, rfl⟩
  have hbx := hu 16
  have hby := hu b
  have hbz := hu a
  rw [hx16] at hbx
  rw [hy] at hby
  rw [hz] at hbz
  obtain ⟨hx0, hx1⟩ := hbx
  obtain ⟨hy0, hy1⟩ := hby
  obtain ⟨hz0, hz1⟩ := hbz
  obtain ⟨d, hd⟩ : ∃ d, (y + i % 4294967296) % 4294967296 = d := ⟨_, rfl⟩
  have hADR : adr (pc4 c) b i = d := by rw [adr_pc4 c hl b hb i]; unfold adr; rw [hy]; exact hd
  have hd0 : 0 ≤ d := by omega
  have hd1 : d ≤ 4294967295 := by omega
  rcases hr : fnd l s d true with ⟨⟨t1, t2, t3, t4⟩, f, q⟩
  have h6 := fnd_cause hr
  have hok := fnd_ok hr
  dsimp only at h6 hok
  have HDT : Hid (t1 ≠ 0 → D = ⟨⟨t1, t2, t3, t4⟩, c, xs⟩) := fun h0 => by rw [← hD]; exact m17_tr hADR hr h0 h6
  have HDO : Hid (t1 = 0 → D = ⟨tr0, pc4 c, putW 4 xs f q (wth (getW 4 xs f q) (d % 4) (z % 256))⟩) := fun h0 => by rw [← hz, ← pc4_reg c hl a ha]; rw [← hD]; exact m17_ok hADR (hr.trans (by rw [hok h0]))
  have hX1 := MBx.new w c 17 a b i 27 75 37 hl
  have hB1 : But [] w ((((w.alloc (.cells (cvl c).toArray 27)).alloc (.cells #[.int .i64 17, .int .i64 a, .int .i64 b, .int .i64 i] 75)).alloc (.cells #[.int .u32 0, .int .u32 0, .int .u32 0, .int .u32 0, .int .u32 0, .int .u32 0, .int .u32 0, .int .u32 0, .int .u32 0, .int .u32 0, .int .u32 0, .int .u32 0, .int .u32 0, .int .u32 0, .int .u32 0, .int .u32 0, .int .u32 0] 27)).alloc (.cells #[.int .i64 0, .int .i64 0, .bool false, .int .i64 0] 37)) := ((((But.refl [] w).alloc _).alloc _).alloc _).alloc _
  obtain ⟨g, hg⟩ : ∃ g, g = w.heap.size := ⟨_, rfl⟩
  have HGS : Hid (w.heap.size ≤ g) := by show _ ≤ g; omega
  have HRF : Hid (RefAt w bM bx cx 4 xs A cA lo l) := h
  obtain ⟨hlM, hlx⟩ := h.lt
  rw [← hg] at hlM hlx
  have HLX : Hid (bM < g ∧ bx < g) := ⟨hlM, hlx⟩
  have HLN : Hid (c.length = 17) := hl
  have HUX : Hid (U32s xs) := hux
  have HX16 : Hid (c.getD 16 0 = x) := hx16
  have HZ : Hid (c.getD a 0 = z) := hz
  have HR : Hid (fnd l s d true = ⟨⟨t1, t2, t3, t4⟩, f, q⟩) := hr
  have ha16 : (a : Int) < 16 := by omega
  have ha0 : (0 : Int) ≤ (a : Int) := by omega
  have hb16 : (b : Int) < 16 := by omega
  have hb0 : (0 : Int) ≤ (b : Int) := by omega
  have HY : Hid (c.getD b 0 = y) := hy
  have HDD : Hid ((y + i % 4294967296) % 4294967296 = d) := hd
  clear h hux hu hl hx16 hy hz hADR hr h6 hok hD hd
  go_enter Try.func27, Try.ntmps27
  go_upto_region 1 with fail
  rw [← hg] at hX1 ⊢
  generalize (((w.alloc (.cells (cvl c).toArray 27)).alloc (.cells #[.int .i64 17, .int .i64 a, .int .i64 b, .int .i64 i] 75)).alloc (.cells #[.int .u32 0, .int .u32 0, .int .u32 0, .int .u32 0, .int .u32 0, .int .u32 0, .int .u32 0, .int .u32 0, .int .u32 0, .int .u32 0, .int .u32 0, .int .u32 0, .int .u32 0, .int .u32 0, .int .u32 0, .int .u32 0, .int .u32 0] 27)).alloc (.cells #[.int .i64 0, .int .i64 0, .bool false, .int .i64 0] 37) = w1 at hX1 hB1 ⊢
  have j0 := hX1.i0
  have j2 := hX1.i2
  have j3 := hX1.i3
  have rb : w1.cell? ⟨g, b, none⟩ = some (.int .u32 y) := by rw [← HY.out]; exact hX1.ctx.reg b (by omega)
  have HXq : Hid (∀ k, MBx (w1.drewN k) g c 17 a b i) := fun k => hX1.keep0 ((But.refl [] w1).drewN k)
  have HBq : Hid (∀ k, But [] w (w1.drewN k)) := fun k => hB1.drewN k
  clear hX1 hB1 hg
  go_quiet (fail)
  rw [HDD.out]
  have HX : Hid (MBx (w1.drewN nq) g c 17 a b i) := HXq.out _
  have HB : Hid (But [] w (w1.drewN nq)) := HBq.out _
  generalize w1.drewN nq = w2 at HX HB ⊢
  clear HXq HBq j0 j2 j3 rb
  have j0 := HX.out.i0
  go_wp2_with fail
  refine (rfind_c bM bx cx xs A cA lo l s d true _ (HRF.out.keep0 HB.out) hl8 hd0 hd1).mono ?_
  rintro e w3 ⟨rfl, k3⟩
  rw [HR.out]
  simp only [Tr.vs]
  obtain ⟨P, hP⟩ : ∃ P, plc ⟨⟨t1, t2, t3, t4⟩, f, q⟩ = P := ⟨_, rfl⟩
  rw [hP]
  have hPb := plc_bd ⟨⟨t1, t2, t3, t4⟩, f, q⟩
  rw [hP] at hPb
  obtain ⟨hP0, hP1⟩ := hPb
  have HP : Hid (plc ⟨⟨t1, t2, t3, t4⟩, f, q⟩ = P) := hP
  have hX3 := HX.out.keep0 k3
  have hB3 := HB.out.trans k3
  have hRT := new_range w3 [.int .i64 t1, .int .i64 t2, .bool t3, .int .i64 t4] 37
  have hKT : But [] w3 (w3.alloc (.cells #[.int .i64 t1, .int .i64 t2, .bool t3, .int .i64 t4] 37)) := (But.refl [] w3).alloc _
  clear k3 HX HB j0 hP
  go_upto_region 6 with fail
  generalize w3.alloc (.cells #[.int .i64 t1, .int .i64 t2, .bool t3, .int .i64 t4] 37) = w4 at hRT hKT ⊢
  obtain ⟨b3, hb3⟩ : ∃ b3, b3 = w3.heap.size := ⟨_, rfl⟩
  have hg3 : g + 3 < b3 := by rw [hb3]; exact lt_of_there hX3.t9 (by omega)
  rw [← hb3] at hRT ⊢
  have HX : Hid (MBx w4 g c 17 a b i) := hX3.keep0 hKT
  have HB : Hid (But [] w w4) := hB3.trans hKT
  have HRT : Hid (w4.rangeAt b3 0 [.int .i64 t1, .int .i64 t2, .bool t3, .int .i64 t4]) := hRT
  have q0 : w4.cell? ⟨b3, 0, none⟩ = some (.int .i64 t1) := hRT 0 _ rfl
  clear hX3 hB3 hRT hKT hb3
  by_cases ht : t1 = 0
  case neg =>
    have HDF : Hid (D = ⟨⟨t1, t2, t3, t4⟩, c, xs⟩) := HDT.out ht
    have hne : (t1 != 0) = true := bne_iff_ne.2 ht
    clear ht
    have HT8 : Hid (w4.there (g + 2) 0 17) := HX.out.t8
    have HT9 : Hid (w4.there (g + 3) 0 4) := HX.out.t9
    go_wp2
    refine wp_region_held_drew (S := fun w' => w'.rangeAt g 0 (cvl c) ∧ w'.rangeAt b3 0 [.int .i64 t1, .int .i64 t2, .bool t3, .int .i64 t4]) (by kernel_rfl) ⟨(World.rangeAt_drew _ _ _ _).2 HX.out.ctx.range, (World.rangeAt_drew _ _ _ _).2 HRT.out⟩ (fun hS => ?_)
    refine wpAnyH_take (i := 0) (v := .agg (cvl c).toArray) rfl (by kernel_rfl) (by kernel_rfl) (by kernel_rfl) (fun _ _ _ h => h) (yieldsIf_load_mid (by rfl) _ _ rfl g 0 rfl (cvl c) _ (fun w' h => h.1) Try.underlying27 rfl (cvl_info c HLN.out)) hS ?_
    simp only [Act.put, List.setIfInBounds_toArray]
    refine wpAnyH_take (i := 1) (v := .agg (List.toArray [.int .i64 t1, .int .i64 t2, .bool t3, .int .i64 t4])) rfl (by kernel_rfl) (by kernel_rfl) (by kernel_rfl) (fun _ _ _ h => h) (yieldsIf_load_mid (by rfl) _ _ rfl b3 0 rfl [.int .i64 t1, .int .i64 t2, .bool t3, .int .i64 t4] _ (fun w' h => h.2) Try.underlying37 rfl Try.sizeTrap) hS ?_
    simp only [Act.put]
    refine wpAnyH_ready (rs := [2]) (by kernel_rfl) (by simp) ?_
    refine AllReadyH.cons rfl (fun K hK => ?_) AllReadyH.nil
    rw [if_pos (by rfl)]
    refine wp_store_mid _ _ _ rfl (g + 2) 0 (cvl c).toArray rfl rfl ?_ ?_ (all_oneCell_toArray (cvl_one c)) ?_
    · rw [List.size_toArray, cvl_len, HLN.out]; exact there_keep HT8.out (But.refl [] _).drew (by simp)
    · rw [List.size_toArray]; exact cvl_info c HLN.out
    refine hK.out _ _ ⟨range_keep hS.1 ((But.refl [g + 2] _).setCells (by simp) _ _) (by simp; try omega), range_keep hS.2 ((But.refl [g + 2] _).setCells (by simp) _ _) (by simp; try omega)⟩ (fun hS2 => ?_)
    clear hK K
    simp only [Act.put]
    refine wpAnyH_ready (rs := [3]) (by kernel_rfl) (by simp) ?_
    refine AllReadyH.cons rfl (fun K hK => ?_) AllReadyH.nil
    rw [if_pos (by rfl)]
    refine wp_store_mid _ _ _ rfl (g + 3) 0 (List.toArray [.int .i64 t1, .int .i64 t2, .bool t3, .int .i64 t4]) rfl rfl ?_ Try.sizeTrap (Tr.vs_all ⟨t1, t2, t3, t4⟩) ?_
    · exact World.there_setCells (there_keep HT9.out (But.refl [] _).drew (by simp)) _ _ _
    refine hK.out _ _ ⟨range_keep hS2.1 ((But.refl [g + 3] _).setCells (by simp) _ _) (by simp; try omega), range_keep hS2.2 ((But.refl [g + 3] _).setCells (by simp) _ _) (by simp; try omega)⟩ (fun hS3 => ?_)
    clear hK K
    simp only [Act.put]
    refine wpAnyH_done (by kernel_rfl) ?_ _
    go_wp2
    obtain ⟨v1, v2, hbf⟩ := laid2d w4 (g + 2) (cvl c) [.int .i64 t1, .int .i64 t2, .bool t3, .int .i64 t4] (by rw [cvl_len, HLN.out]; exact HX.out.t8) HX.out.t9
    refine bodyPost_ret (results_two rfl _ _ (g + 2) 0 (g + 3) 0 _ _ _ _ rfl v1 Try.underlying27 rfl (cvl_info c HLN.out) rfl v2 Try.underlying37 rfl Try.sizeTrap) rfl ?_
    have hg0 := HGS.out
    exact ⟨by rw [HDF.out]; rfl, by rw [HDF.out]; exact HRF.out.keep0 (but_fresh HB.out hbf (by simp; omega)), (but_fresh HB.out hbf (by simp; omega)).wider (by simp)⟩
  case pos =>
    have hDF := HDO.out ht
    subst ht
    have hvv : rgw xs P = getW 4 xs f q := by rw [← HP.out]; exact rgw_plc xs ⟨⟨0, t2, t3, t4⟩, f, q⟩ rfl
    obtain ⟨v, hv⟩ : ∃ v, getW 4 xs f q = v := ⟨_, rfl⟩
    have hvb := getW_bd (n := 4) HUX.out f q
    rw [hv] at hvb hvv
    rw [hv] at hDF
    obtain ⟨hv0, hv1⟩ := hvb
    have HVV : Hid (rgw xs P = v) := hvv
    have j0 := HX.out.i0
    have j1 := HX.out.i1
    clear hv hvv
    have ra : w4.cell? ⟨g, a, none⟩ = some (.int .u32 z) := by rw [← HZ.out]; exact HX.out.ctx.reg a (by omega)
    have hmx := (HRF.out.keep0 HB.out).mem
    by_cases hneg : P < 0
    case pos =>
      have HDF : Hid (D = ⟨tr0, c.set 16 ((x + 4) % 4294967296), xs⟩) := hDF.trans (by rw [put_no (t := ⟨0, t2, t3, t4⟩) rfl (by rw [HP.out]; exact hneg), ← HX16.out]; rfl)
      clear hDF
      go_wp2_with fail
      refine (rgetm_c bM bx cx xs A cA lo l _ _ (HRF.out.keep0 HB.out) hP1).mono ?_
      rintro e w5 ⟨rfl, rfl⟩
      rw [HVV.out]
      go_upto_region 18 with (go_at_call 52; refine (Wd.with_c v (d % 4) (z % 256) _ hv0 hv1 (by omega) (by omega)).mono ?_; rintro e w7 ⟨rfl, k7⟩)
      have hX7 := HX.out.keep0 (But.of_below k7)
      have hB7 := HB.out.trans (But.of_below k7)
      clear HX HB k7 hmx ra j0 j1
      have HX : Hid (MBx w7 g c 17 a b i) := hX7
      have HB : Hid (But [] w w7) := hB7
      have hmx := (HRF.out.keep0 HB.out).mem
      clear hX7 hB7
      go_upto_region 20 with fail
      clear hmx
      have hpc : w7.cell? ⟨g, 16, none⟩ = some (.int .u32 x) := by rw [← HX16.out]; exact HX.out.ctx.reg 16 (by omega)
      have hz6 : w7.frozen? ⟨g, 16, none⟩ = false := HX.out.ctx.fz 16 (by omega)
      go_upto_region 21 with fail
      have hX6 := HX.out.set 16 (by omega) ((x + 4) % 4294967296)
      have k6 : But [g] w7 (w7.setCell ⟨g, 16, none⟩ (.int .u32 ((x + 4) % 4294967296))) := (But.refl [g] w7).setCell (by simp) _
      generalize w7.setCell ⟨g, 16, none⟩ (.int .u32 ((x + 4) % 4294967296)) = w6 at hX6 k6 ⊢
      clear hpc hz6 HX
      have HX : Hid (MBx w6 g (c.set 16 ((x + 4) % 4294967296)) 17 a b i) := hX6
      have HL6 : Hid ((c.set 16 ((x + 4) % 4294967296)).length = 17) := hX6.ctx.len
      have HK6 : Hid (But [g] w7 w6) := k6
      clear hX6 k6
      have HI9 : Hid ((Try.prog.info? 27).map (·.size) = some (cvl (c.set 16 ((x + 4) % 4294967296))).toArray.size) := by show _ = _; rw [List.size_toArray]; exact cvl_info _ HL6.out
      have HT8' : Hid (w6.there (g + 2) 0 (cvl (c.set 16 ((x + 4) % 4294967296))).toArray.size) := by show World.there _ _ _ _; rw [List.size_toArray, cvl_len, HL6.out]; exact HX.out.t8
      have HT9' : Hid ((w6.setCells (g + 2) 0 (cvl (c.set 16 ((x + 4) % 4294967296)))).there (g + 2 + 1) 0 4) := World.there_setCells HX.out.t9 _ _ _
      go_wp2_with (first
        | (refine wpList_load_mid rfl 27 _ rfl g 0 rfl (cvl (c.set 16 ((x + 4) % 4294967296))) _ HX.out.ctx.range Try.underlying27 rfl (cvl_info _ HL6.out) ?_)
        | (refine wpList_store_mid rfl 27 _ _ rfl (g + 2) 0 (cvl (c.set 16 ((x + 4) % 4294967296))).toArray rfl rfl ?ht HI9.out (all_oneCell_toArray (cvl_one _)) ?_; case ht => exact HT8'.out)
        | (refine wpList_store_mid rfl 37 _ _ rfl (g + 2 + 1) 0 #[.int .i64 0, .int .i64 0, .bool false, .int .i64 0] rfl rfl ?ht Try.sizeTrap (Tr.vs_all tr0) ?_; case ht => exact HT9'.out))
      obtain ⟨v1, v2, hbf⟩ := laid2 w6 (g + 2) (cvl (c.set 16 ((x + 4) % 4294967296))) [.int .i64 0, .int .i64 0, .bool false, .int .i64 0] (by rw [cvl_len, HL6.out]; exact HX.out.t8) HX.out.t9
      refine bodyPost_ret (results_two rfl _ _ (g + 2) 0 (g + 2 + 1) 0 _ _ _ _ rfl v1 Try.underlying27 rfl (cvl_info _ HL6.out) rfl v2 Try.underlying37 rfl Try.sizeTrap) rfl ?_
      have hg0 := HGS.out
      have hB9 : But [] w _ := but_fresh (but_fresh HB.out HK6.out (by simp; omega)) hbf (by simp; omega)
      exact ⟨by rw [HDF.out]; rfl, by rw [HDF.out]; exact HRF.out.keep0 hB9, hB9.wider (by simp)⟩
    case neg =>
      obtain ⟨k, hk⟩ := Int.eq_ofNat_of_zero_le (by omega : 0 ≤ P)
      subst hk
      have HDF : Hid (D = ⟨tr0, c.set 16 ((x + 4) % 4294967296), xs.set k (wth v (d % 4) (z % 256))⟩) := hDF.trans (by rw [put_yes (t := ⟨0, t2, t3, t4⟩) HP.out, ← HX16.out]; rfl)
      have hklt : (k : Int) < 64 := hP1
      have HK64 : Hid (k < xs.length) := by show _ < _; rw [HRF.out.len]; omega
      clear hneg hP0
      clear hDF
      go_wp2_with fail
      refine (rgetm_c bM bx cx xs A cA lo l _ _ (HRF.out.keep0 HB.out) hP1).mono ?_
      rintro e w5 ⟨rfl, rfl⟩
      rw [HVV.out]
      go_upto_region 18 with (go_at_call 52; refine (Wd.with_c v (d % 4) (z % 256) _ hv0 hv1 (by omega) (by omega)).mono ?_; rintro e w7 ⟨rfl, k7⟩)
      have hX7 := HX.out.keep0 (But.of_below k7)
      have hB7 := HB.out.trans (But.of_below k7)
      clear HX HB k7 hmx ra j0 j1
      have HX : Hid (MBx w7 g c 17 a b i) := hX7
      have HB : Hid (But [] w w7) := hB7
      have hmx := (HRF.out.keep0 HB.out).mem
      clear hX7 hB7
      obtain ⟨hxc, hxf⟩ := (HRF.out.keep0 HB.out).blk k HK64.out
      go_upto_region 20 with fail
      have hBL := (HRF.out.keep0 HB.out).blk.set HK64.out (wth v (d % 4) (z % 256))
      have k5 : But [bx] w7 (w7.setCell ⟨bx, k, none⟩ (.int .u32 (wth v (d % 4) (z % 256)))) := (But.refl [bx] w7).setCell (by simp) _
      generalize w7.setCell ⟨bx, k, none⟩ (.int .u32 (wth v (d % 4) (z % 256))) = w5 at hBL k5 ⊢
      have hX5 := HX.out.keep k5 (by have := HLX.out; simp; omega)
      have HBX : Hid (But [bx] w w5) := (HB.out.any _).trans k5
      have HBL : Hid (Blk w5 bx (xs.set k (wth v (d % 4) (z % 256)))) := hBL
      clear HX HB hmx k5 hBL hxc hxf
      have HX : Hid (MBx w5 g c 17 a b i) := hX5
      clear hX5
      have hpc : w5.cell? ⟨g, 16, none⟩ = some (.int .u32 x) := by rw [← HX16.out]; exact HX.out.ctx.reg 16 (by omega)
      have hz6 : w5.frozen? ⟨g, 16, none⟩ = false := HX.out.ctx.fz 16 (by omega)
      go_upto_region 21 with fail
      have hX6 := HX.out.set 16 (by omega) ((x + 4) % 4294967296)
      have k6 : But [g] w5 (w5.setCell ⟨g, 16, none⟩ (.int .u32 ((x + 4) % 4294967296))) := (But.refl [g] w5).setCell (by simp) _
      generalize w5.setCell ⟨g, 16, none⟩ (.int .u32 ((x + 4) % 4294967296)) = w6 at hX6 k6 ⊢
      clear hpc hz6 HX
      have HX : Hid (MBx w6 g (c.set 16 ((x + 4) % 4294967296)) 17 a b i) := hX6
      have HL6 : Hid ((c.set 16 ((x + 4) % 4294967296)).length = 17) := hX6.ctx.len
      have HK6 : Hid (But [g] w5 w6) := k6
      clear hX6 k6
      have HI9 : Hid ((Try.prog.info? 27).map (·.size) = some (cvl (c.set 16 ((x + 4) % 4294967296))).toArray.size) := by show _ = _; rw [List.size_toArray]; exact cvl_info _ HL6.out
      have HT8' : Hid (w6.there (g + 2) 0 (cvl (c.set 16 ((x + 4) % 4294967296))).toArray.size) := by show World.there _ _ _ _; rw [List.size_toArray, cvl_len, HL6.out]; exact HX.out.t8
      have HT9' : Hid ((w6.setCells (g + 2) 0 (cvl (c.set 16 ((x + 4) % 4294967296)))).there (g + 2 + 1) 0 4) := World.there_setCells HX.out.t9 _ _ _
      go_wp2_with (first
        | (refine wpList_load_mid rfl 27 _ rfl g 0 rfl (cvl (c.set 16 ((x + 4) % 4294967296))) _ HX.out.ctx.range Try.underlying27 rfl (cvl_info _ HL6.out) ?_)
        | (refine wpList_store_mid rfl 27 _ _ rfl (g + 2) 0 (cvl (c.set 16 ((x + 4) % 4294967296))).toArray rfl rfl ?ht HI9.out (all_oneCell_toArray (cvl_one _)) ?_; case ht => exact HT8'.out)
        | (refine wpList_store_mid rfl 37 _ _ rfl (g + 2 + 1) 0 #[.int .i64 0, .int .i64 0, .bool false, .int .i64 0] rfl rfl ?ht Try.sizeTrap (Tr.vs_all tr0) ?_; case ht => exact HT9'.out))
      obtain ⟨v1, v2, hbf⟩ := laid2 w6 (g + 2) (cvl (c.set 16 ((x + 4) % 4294967296))) [.int .i64 0, .int .i64 0, .bool false, .int .i64 0] (by rw [cvl_len, HL6.out]; exact HX.out.t8) HX.out.t9
      refine bodyPost_ret (results_two rfl _ _ (g + 2) 0 (g + 2 + 1) 0 _ _ _ _ rfl v1 Try.underlying27 rfl (cvl_info _ HL6.out) rfl v2 Try.underlying37 rfl Try.sizeTrap) rfl ?_
      have hg0 := HGS.out
      have hlx := HLX.out
      have hB9 : But [bx] w _ := but_fresh (but_fresh HBX.out HK6.out (by simp; omega)) hbf (by simp; omega)
      exact ⟨by rw [HDF.out]; rfl, by rw [HDF.out]; exact HRF.out.memed hB9 ((HBL.out.keep HK6.out (by simp; omega)).keep hbf (by simp; omega)) (by simp), hB9⟩
theorem rmemory_c (bM bx cx : Nat) (xs : List Int) (A : Option Addr) (cA lo : Nat) (l : List En) (s op : Int) (a b : Nat) (i : Int) (c : List Int) (w : World) (ho : 14 ≤ op ∧ op ≤ 17) (h : RefAt w bM bx cx 4 xs A cA lo l) (hl8 : l.length ≤ 1000) (hux : U32s xs) (hl : c.length = 17) (hu : U32s c) (ha : a < 16) (hb : b < 16) :
    Calls Try.prog 27 #[.pointer (some ⟨bM, 0, none⟩), .int .i64 s, .agg (cvl c).toArray, .agg #[.int .i64 op, .int .i64 a, .int .i64 b, .int .i64 i]] w fun e w' => e = .returned (endD c (doP 4 xs l s op a b i (pc4 c))).ans ∧ RefAt w' bM bx cx 4 (endD c (doP 4 xs l s op a b i (pc4 c))).xs A cA lo l ∧ But [bx] w w' := by
  have hop : op = 14 ∨ op = 15 ∨ op = 16 ∨ op = 17 := by omega
  rcases hop with rfl | rfl | rfl | rfl
  · exact rmem14 bM bx cx xs A cA lo l s a b i c w h hl8 hux hl hu ha hb
  · exact rmem15 bM bx cx xs A cA lo l s a b i c w h hl8 hux hl hu ha hb
  · exact rmem16 bM bx cx xs A cA lo l s a b i c w h hl8 hux hl hu ha hb
  · exact rmem17 bM bx cx xs A cA lo l s a b i c w h hl8 hux hl hu ha hb
end Go.Proofs.Ytjlcncdhlcpklaa.Cp
