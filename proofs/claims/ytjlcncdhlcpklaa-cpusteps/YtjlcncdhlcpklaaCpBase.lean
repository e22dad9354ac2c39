/-
  Layer 6 (cpu): how a CPU and an instruction that is being done lie in the machine's memory; what is found, told and laid, plainly; contracts of find, findWord, get, put, over the translated program.
-/
import Derived.Test.YtjlcncdhlcpklaaIsaRefs
import Derived.Test.YtjlcncdhlcpklaaFrLaw
import Derived.Test.YtjlcncdhlcpklaaTlLaw
import Derived.Test.YtjlcncdhlcpklaaWdWith
import Derived.Deep.RegionHeld3
import Derived.Deep.CutBlock
import Derived.Deep.DeepCutAuto
namespace Go.Proofs.Ytjlcncdhlcpklaa.Cp
open Go.ChangeShapes Go.WideShapes Go.ChangeAt Go.RowKit
open Fr (MemAt Blk hasW hasF) 
open Tl (En TlbAt Ens getE misE ansE en0)
set_option linter.unusedVariables false
set_option maxRecDepth 20000

/-- A trap: its cause, a page, is it to be written, a call. -/
structure Tr where
  cause : Int
  page : Int
  wr : Bool
  call : Int
  deriving DecidableEq
def tr0 : Tr := ⟨0, 0, false, 0⟩
def Tr.vs (t : Tr) : List Value := [.int .i64 t.cause, .int .i64 t.page, .bool t.wr, .int .i64 t.call]
theorem Tr.vs_all (t : Tr) : t.vs.toArray.all (·.oneCell') = true := all_oneCell_toArray (by
  intro v hv
  simp only [Tr.vs, List.mem_cons, List.not_mem_nil, or_false] at hv
  rcases hv with rfl | rfl | rfl | rfl <;> rfl)
/-- What is found: a trap, else a frame and a word's number. -/
structure Fd where
  t : Tr
  f : Int
  a : Int
/-- An address is found. -/
def fnd (l : List En) (s addr : Int) (wr : Bool) : Fd := match getE s (addr / 64) l with
  | none => ⟨⟨1, addr / 64, wr, 0⟩, 0, 0⟩
  | some e => if (wr && !e.wr) = true then ⟨⟨2, addr / 64, true, 0⟩, 0, 0⟩ else ⟨tr0, e.f, addr % 64 / 4⟩
def fndW (l : List En) (s addr : Int) (wr : Bool) : Fd := if addr % 4 = 0 then fnd l s addr wr else ⟨⟨5, 0, false, 0⟩, 0, 0⟩
/-- The word at a place; another one in its place. -/
def getW (n : Nat) (xs : List Int) (f a : Int) : Int := if hasW n f a = true then xs.getD (f.toNat * 16 + a.toNat) 0 else 0
def putW (n : Nat) (xs : List Int) (f a v : Int) : List Int := if hasW n f a = true then xs.set (f.toNat * 16 + a.toNat) v else xs
/-- All are numbers of 32 bits. -/
def U32s (xs : List Int) : Prop := ∀ j, 0 ≤ xs.getD j 0 ∧ xs.getD j 0 ≤ 4294967295
theorem U32s.set {xs : List Int} (h : U32s xs) {v : Int} (h0 : 0 ≤ v) (h1 : v ≤ 4294967295) (k : Nat) : U32s (xs.set k v) := fun j => by
  by_cases hk : k < xs.length
  · rw [Fr.set_get _ _ _ _ hk]
    split
    · exact ⟨h0, h1⟩
    · exact h j
  · rw [List.set_eq_of_length_le (by omega)]
    exact h j
theorem U32s.putW {n : Nat} {xs : List Int} (h : U32s xs) (f a : Int) {v : Int} (h0 : 0 ≤ v) (h1 : v ≤ 4294967295) : U32s (putW n xs f a v) := by
  unfold Cp.putW
  split
  · exact h.set h0 h1 _
  · exact h
theorem putW_len (n : Nat) (xs : List Int) (f a v : Int) : (putW n xs f a v).length = xs.length := by
  unfold putW
  split <;> simp
theorem getW_bd {n : Nat} {xs : List Int} (h : U32s xs) (f a : Int) : 0 ≤ getW n xs f a ∧ getW n xs f a ≤ 4294967295 := by
  unfold getW
  split
  · exact h _
  · omega

theorem tab_but {k : List Nat} {w w' : World} {b off : Nat} (h : TabOk w b off) (hk : But k w w') (hn : b ∉ k) : TabOk w' b off := by
  have hc : ∀ j, w'.cell? ⟨b, j, none⟩ = w.cell? ⟨b, j, none⟩ := fun j => hk.cell (p := ⟨b, j, none⟩) h.home hn
  have hf : ∀ j, w'.frozen? ⟨b, j, none⟩ = w.frozen? ⟨b, j, none⟩ := fun j => hk.frozen (p := ⟨b, j, none⟩) h.home hn
  rcases h with h | h
  · exact .inl ⟨(hc _).trans h.done, (hc _).trans h.state, (hf _).trans h.z0, (hf _).trans h.z1, fun i hi => ⟨(hc _).trans (h.rows i hi).1, (hf _).trans (h.rows i hi).2⟩⟩
  · exact .inr ⟨(hc _).trans h.done, (hc _).trans h.state, (hf _).trans h.z0, (hf _).trans h.z1, fun i hi => ⟨(hc _).trans (h.rows i hi).1, (hf _).trans (h.rows i hi).2⟩⟩

/-- Block bc is a CPU, of the memory bm (its words bp) and the TLB bt. -/
structure CpuAt (w : World) (bc bm bp n : Nat) (xs : List Int) (bt : Nat) (l : List En) (m : Nat) : Prop where
  mem : MemAt w bm bp n xs
  tlb : TlbAt w bt l m
  tab : TabOk w bc 2
  c0 : w.cell? ⟨bc, 0, none⟩ = some (.pointer (some ⟨bm, 0, none⟩))
  c1 : w.cell? ⟨bc, 1, none⟩ = some (.pointer (some ⟨bt, 0, none⟩))
  a1 : bc ≠ bm
  a2 : bc ≠ bp
  a3 : bc ≠ bt
  a4 : bm ≠ bt
  a5 : bp ≠ bt
  u : U32s xs
theorem CpuAt.keep {k : List Nat} {w w' : World} {bc bm bp n : Nat} {xs : List Int} {bt : Nat} {l : List En} {m : Nat} (h : CpuAt w bc bm bp n xs bt l m) (hk : But k w w') (h1 : bc ∉ k) (h2 : bm ∉ k) (h3 : bp ∉ k) (h4 : bt ∉ k) : CpuAt w' bc bm bp n xs bt l m :=
  ⟨h.mem.keep hk h2 h3, h.tlb.keep hk h4, tab_but h.tab hk h1, cell_keep h.c0 hk h1, cell_keep h.c1 hk h1, h.a1, h.a2, h.a3, h.a4, h.a5, h.u⟩
theorem CpuAt.keep0 {w w' : World} {bc bm bp n : Nat} {xs : List Int} {bt : Nat} {l : List En} {m : Nat} (h : CpuAt w bc bm bp n xs bt l m) (hk : But [] w w') : CpuAt w' bc bm bp n xs bt l m := h.keep hk (by simp) (by simp) (by simp) (by simp)
theorem CpuAt.lt {w : World} {bc bm bp n : Nat} {xs : List Int} {bt : Nat} {l : List En} {m : Nat} (h : CpuAt w bc bm bp n xs bt l m) : bc < w.heap.size ∧ bm < w.heap.size ∧ bp < w.heap.size ∧ bt < w.heap.size :=
  ⟨lt_of_cell h.c0, h.mem.lt.1, h.mem.lt.2, h.tlb.lt⟩
/-- Behind what only the TLB's misses may turn. -/
theorem CpuAt.tlbed {w w' : World} {bc bm bp n : Nat} {xs : List Int} {bt : Nat} {l : List En} {m m' : Nat} (h : CpuAt w bc bm bp n xs bt l m) (ht : TlbAt w' bt l m') (hk : But [bt] w w') : CpuAt w' bc bm bp n xs bt l m' :=
  ⟨h.mem.keep hk (by simp [h.a4]) (by simp [h.a5]), ht, tab_but h.tab hk (by simp [h.a3]), cell_keep h.c0 hk (by simp [h.a3]), cell_keep h.c1 hk (by simp [h.a3]), h.a1, h.a2, h.a3, h.a4, h.a5, h.u⟩
/-- Behind what may have filled the table. -/
theorem CpuAt.tabbed {w w' : World} {bc bm bp n : Nat} {xs : List Int} {bt : Nat} {l : List En} {m : Nat} (h : CpuAt w bc bm bp n xs bt l m) (ht : TabOk w' bc 2) (hk : Keep bc 2 105 w w') : CpuAt w' bc bm bp n xs bt l m :=
  ⟨h.mem.keep hk.toBut (by simp [h.a1.symm]) (by simp [h.a2.symm]), h.tlb.keep hk.toBut (by simp [h.a3.symm]), ht, (hk.cell 0 (by omega)).trans h.c0, (hk.cell 1 (by omega)).trans h.c1, h.a1, h.a2, h.a3, h.a4, h.a5, h.u⟩
/-- Behind what laid words into the memory. -/
theorem CpuAt.memed {w w' : World} {bc bm bp n : Nat} {xs ys : List Int} {bt : Nat} {l : List En} {m : Nat} (h : CpuAt w bc bm bp n xs bt l m) (ht : MemAt w' bm bp n ys) (hu : U32s ys) (hk : But [bp] w w') : CpuAt w' bc bm bp n ys bt l m :=
  ⟨ht, h.tlb.keep hk (by simp [h.a5.symm]), tab_but h.tab hk (by simp [h.a2]), cell_keep h.c0 hk (by simp [h.a2]), cell_keep h.c1 hk (by simp [h.a2]), h.a1, h.a2, h.a3, h.a4, h.a5, hu⟩

theorem Try.sizePlace : (Try.prog.info? 114).map (·.size) = some 2 := by kernel_rfl
theorem Try.sizeTrap : (Try.prog.info? 37).map (·.size) = some 4 := by kernel_rfl
theorem pl_all (f a : Int) : (#[Value.int .i64 f, .int .i64 a] : Array Value).all (·.oneCell') = true := all_oneCell_toArray (cs := [Value.int .i64 f, .int .i64 a]) (by
  intro v hv
  simp only [List.mem_cons, List.not_mem_nil, or_false] at hv
  rcases hv with rfl | rfl <;> rfl)
/-- The answer of find. -/
def Fd.ans (r : Fd) : Value := .tuple #[.agg #[.int .i64 r.f, .int .i64 r.a], .agg r.t.vs.toArray]

/-- Two results that are structs in memory. -/
theorem results_two {P : Program} {fn : Func} {p q : Tmp} {ty tz : TypeId} (h : fn.results = #[.cell p ty, .cell q tz]) (tmps : Array Value) (w : World) (b o b' o' : Nat) (cs ds : List Value) (d d' : TypeDesc)
    (hp : tmps.getD p undef = .pointer (some ⟨b, o, none⟩)) (hc : w.rangeAt b o cs) (hu : P.underlying ty = some d) (hd : d.isRow = true) (hi : (P.info? ty).map (·.size) = some cs.length)
    (hq : tmps.getD q undef = .pointer (some ⟨b', o', none⟩)) (hc' : w.rangeAt b' o' ds) (hu' : P.underlying tz = some d') (hd' : d'.isRow = true) (hi' : (P.info? tz).map (·.size) = some ds.length) :
    (results fn tmps).run P w = .ok (.tuple #[.agg cs.toArray, .agg ds.toArray]) w := by
  have hp' : tmps[p]?.getD undef = .pointer (some ⟨b, o, none⟩) := by simpa using hp
  have hq' : tmps[q]?.getD undef = .pointer (some ⟨b', o', none⟩) := by simpa using hq
  simp [results, h, hp', hq', asAddr, run_loadVar_mid w b o ty cs d hc hu hd hi, run_loadVar_mid w b' o' tz ds d' hc' hu' hd' hi']

/-- What a later step turns was free to turn, or is new. -/
theorem but_fresh {l k : List Nat} {w w1 w2 : World} (h : But l w w1) (h2 : But k w1 w2) (hk : ∀ x ∈ k, x ∈ l ∨ w.heap.size ≤ x) : But l w w2 :=
  ⟨h2.os.trans h.os, h2.tape.trans h.tape, h2.output.trans h.output, Nat.le_trans h.size h2.size, fun i hi hn =>
    (h2.block i (Nat.lt_of_lt_of_le hi h.size) (fun hm => by rcases hk i hm with hx | hx; exact hn hx; omega)).trans (h.block i hi hn)⟩
theorem there_keep {k : List Nat} {w w' : World} {b o n : Nat} (h : w.there b o n) (hk : But k w w') (hn : b ∉ k) : w'.there b o n := fun j hj => by
  obtain ⟨h1, h2⟩ := h j hj
  obtain ⟨v, hv⟩ := Option.isSome_iff_exists.1 h1
  have hl : b < w.heap.size := lt_of_cell hv
  exact ⟨by rw [hk.cell (p := ⟨b, o + j, none⟩) hl hn]; exact h1, by rw [hk.frozen (p := ⟨b, o + j, none⟩) hl hn]; exact h2⟩
/-- Two boxes that were just made. -/
theorem two_new (w : World) (C D : Array Value) (t t' : TypeId) (n n' : Nat) (hn : C.size = n) (hn' : D.size = n') :
    ((w.alloc (.cells C t)).alloc (.cells D t')).there w.heap.size 0 n ∧ ((w.alloc (.cells C t)).alloc (.cells D t')).there (w.heap.size + 1) 0 n' := by
  refine ⟨there_keep (there_new w C t n hn) ((But.refl [] _).alloc _) (by simp), ?_⟩
  have h := there_new (w.alloc (.cells C t)) D t' n' hn'
  rwa [show (w.alloc (.cells C t)).heap.size = w.heap.size + 1 by simp] at h
/-- Two boxes are laid: what they hold then. -/
theorem two_laid (w : World) (g h : Nat) (cs ds : List Value) (hg : w.there g 0 cs.length) (hh : w.there h 0 ds.length) (hne : g ≠ h) :
    ((w.setCells g 0 cs).setCells h 0 ds).rangeAt g 0 cs ∧ ((w.setCells g 0 cs).setCells h 0 ds).rangeAt h 0 ds :=
  ⟨range_keep (World.rangeAt_setCells_same _ _ _ _ hg) (But.setCells (l := [h]) (b := h) (by simp) ds 0 (But.refl [h] _)) (by simpa using hne),
    World.rangeAt_setCells_same _ _ _ _ (World.there_setCells hh g 0 cs)⟩

set_option maxHeartbeats 1000000 in
theorem find_c (bc bm bp n : Nat) (xs : List Int) (bt : Nat) (l : List En) (m : Nat) (s addr : Int) (wr : Bool) (w : World) (h : CpuAt w bc bm bp n xs bt l m) (hm : m < 4611686018427387904) (h0 : 0 ≤ addr) (h1 : addr ≤ 4294967295) :
    Calls Try.prog 57 #[.pointer (some ⟨bc, 0, none⟩), .int .i64 s, .int .u32 addr, .bool wr] w fun e w' => ∃ m', e = .returned (fnd l s addr wr).ans ∧ m' ≤ m + 1 ∧ CpuAt w' bc bm bp n xs bt l m' ∧ But [bt] w w' := by
  have H : Hid (CpuAt w bc bm bp n xs bt l m) := h
  have hc1 := h.c1
  have hbc := h.lt.1
  have hbt := h.lt.2.2.2
  have HL : Hid (bc < w.heap.size ∧ bm < w.heap.size ∧ bp < w.heap.size ∧ bt < w.heap.size) := h.lt
  clear h
  obtain ⟨g, hg⟩ : ∃ g, g = w.heap.size := ⟨_, rfl⟩
  obtain ⟨hT1, hT2⟩ := two_new w #[.int .i64 0, .int .i64 0] #[.int .i64 0, .int .i64 0, .bool false, .int .i64 0] 114 37 2 4 rfl rfl
  have HT1 : Hid (World.there _ _ _ _) := hT1
  have HT2 : Hid (World.there _ _ _ _) := hT2
  have HGS : Hid (w.heap.size ≤ g) := by show _ ≤ g; omega
  have hgb : ¬ bt = g ∧ ¬ bt = g + 1 := by omega
  clear hT1 hT2
  go_enter Try.func57, Try.ntmps57
  go_wp2_with fail
  refine (Tl.get_c bt l m s (addr / 64) _ ((H.out.keep0 (((But.refl [] w).alloc _).alloc _)).tlb) hm).mono ?_
  rintro e w1 ⟨rfl, ht1, k1⟩
  rw [← hg] at HT1 HT2 ⊢
  have HM : Hid (misE s (addr / 64) l m ≤ m + 1) := by show misE s (addr / 64) l m ≤ m + 1; unfold misE; split <;> omega
  have HB : Hid (But [bt] w w1) := ((((But.refl [bt] w).alloc _).alloc _).trans k1)
  have HC : Hid (CpuAt w1 bc bm bp n xs bt l (misE s (addr / 64) l m)) := H.out.tlbed ht1 HB.out
  have HT1' : Hid (w1.there g 0 2) := there_keep HT1.out k1 (by simp; omega)
  have HT2' : Hid (w1.there (g + 1) 0 4) := there_keep HT2.out k1 (by simp; omega)
  obtain ⟨m', hm'⟩ : ∃ m', m' = misE s (addr / 64) l m := ⟨_, rfl⟩
  rw [← hm'] at HM HC
  have HZ : Hid (w.heap.size ≤ w1.heap.size) := HB.out.size
  have hg1 : g + 1 < w1.heap.size := lt_of_there HT2'.out (by omega)
  clear ht1 k1 hg hm' hbc hc1 hbt HT1 HT2 H
  have HS1 : Hid (∀ o : Obj, (w1.alloc o).there g 0 2) := fun o => there_keep HT1'.out ((But.refl [] w1).alloc _) (by simp)
  have HS2 : Hid (∀ (o : Obj) (cs : List Value), ((w1.alloc o).setCells g 0 cs).there (g + 1) 0 4) := fun o cs => World.there_setCells (there_keep HT2'.out ((But.refl [] w1).alloc _) (by simp)) g 0 cs
  have hEnd : ∀ (wx : World) (cs ds : List Value), But [] w1 wx → cs.length = 2 → ds.length = 4 →
      ((wx.setCells g 0 cs).setCells (g + 1) 0 ds).rangeAt g 0 cs ∧ ((wx.setCells g 0 cs).setCells (g + 1) 0 ds).rangeAt (g + 1) 0 ds ∧ CpuAt ((wx.setCells g 0 cs).setCells (g + 1) 0 ds) bc bm bp n xs bt l m' ∧ But [bt] w ((wx.setCells g 0 cs).setCells (g + 1) 0 ds) := by
    intro wx cs ds hb hcs hds
    obtain ⟨q1, q2⟩ := two_laid wx g (g + 1) cs ds (by rw [hcs]; exact there_keep HT1'.out hb (by simp)) (by rw [hds]; exact there_keep HT2'.out hb (by simp)) (by omega)
    have hb2 : But [g, g + 1] w1 ((wx.setCells g 0 cs).setCells (g + 1) 0 ds) := ((hb.any [g, g + 1]).setCells (by simp) _ _).setCells (by simp) _ _
    have hl := HL.out
    have hg0 := HGS.out
    exact ⟨q1, q2, HC.out.keep hb2 (by simp; omega) (by simp; omega) (by simp; omega) (by simp; omega), but_fresh HB.out hb2 (by simp; omega)⟩
  have HE : Hid (∀ (wx : World) (cs ds : List Value), But [] w1 wx → cs.length = 2 → ds.length = 4 →
      ((wx.setCells g 0 cs).setCells (g + 1) 0 ds).rangeAt g 0 cs ∧ ((wx.setCells g 0 cs).setCells (g + 1) 0 ds).rangeAt (g + 1) 0 ds ∧ CpuAt ((wx.setCells g 0 cs).setCells (g + 1) 0 ds) bc bm bp n xs bt l m' ∧ But [bt] w ((wx.setCells g 0 cs).setCells (g + 1) 0 ds)) := hEnd
  clear hEnd
  cases hge : getE s (addr / 64) l with
  | none =>
    have HF : Hid (fnd l s addr wr = ⟨⟨1, addr / 64, wr, 0⟩, 0, 0⟩) := by show _ = _; simp [fnd, hge]
    clear hge
    simp only [ansE]
    go_wp2_with (first
      | (refine wpList_store_mid rfl 114 _ _ rfl g 0 #[.int .i64 0, .int .i64 0] rfl rfl ?ht Try.sizePlace (pl_all 0 0) ?_; case ht => exact HS1.out _)
      | (refine wpList_store_mid rfl 37 _ _ rfl (g + 1) 0 #[.int .i64 1, .int .i64 (addr / 64), .bool wr, .int .i64 0] rfl rfl ?ht Try.sizeTrap (Tr.vs_all ⟨1, addr / 64, wr, 0⟩) ?_; case ht => exact HS2.out _ _))
    obtain ⟨q1, q2, q3, q4⟩ := HE.out _ [.int .i64 0, .int .i64 0] [.int .i64 1, .int .i64 (addr / 64), .bool wr, .int .i64 0] ((But.refl [] w1).alloc _) rfl rfl
    refine bodyPost_ret (results_two rfl _ _ g 0 (g + 1) 0 _ _ _ _ rfl q1 Try.underlying114 rfl Try.sizePlace rfl q2 Try.underlying37 rfl Try.sizeTrap) rfl ?_
    exact ⟨m', by rw [HF.out]; rfl, HM.out, q3, q4⟩
  | some e =>
    obtain ⟨es, ep, ef, ew⟩ := e
    simp only [ansE]
    cases wr with
    | false =>
      have HF : Hid (fnd l s addr false = ⟨tr0, ef, addr % 64 / 4⟩) := by show _ = _; simp [fnd, hge]
      clear hge
      go_wp2_with (first
        | (refine wpList_store_mid rfl 114 _ _ rfl g 0 #[.int .i64 ef, .int .i64 (addr % 64 / 4)] rfl rfl ?ht Try.sizePlace (pl_all _ _) ?_; case ht => exact HS1.out _)
        | (refine wpList_store_mid rfl 37 _ _ rfl (g + 1) 0 #[.int .i64 0, .int .i64 0, .bool false, .int .i64 0] rfl rfl ?ht Try.sizeTrap (Tr.vs_all tr0) ?_; case ht => exact HS2.out _ _))
      obtain ⟨q1, q2, q3, q4⟩ := HE.out _ [.int .i64 ef, .int .i64 (addr % 64 / 4)] [.int .i64 0, .int .i64 0, .bool false, .int .i64 0] ((But.refl [] w1).alloc _) rfl rfl
      refine bodyPost_ret (results_two rfl _ _ g 0 (g + 1) 0 _ _ _ _ rfl q1 Try.underlying114 rfl Try.sizePlace rfl q2 Try.underlying37 rfl Try.sizeTrap) rfl ?_
      exact ⟨m', by rw [HF.out]; rfl, HM.out, q3, q4⟩
    | true =>
      cases ew with
      | true =>
        have HF : Hid (fnd l s addr true = ⟨tr0, ef, addr % 64 / 4⟩) := by show _ = _; simp [fnd, hge]
        clear hge
        go_wp2_with (first
          | (refine wpList_store_mid rfl 114 _ _ rfl g 0 #[.int .i64 ef, .int .i64 (addr % 64 / 4)] rfl rfl ?ht Try.sizePlace (pl_all _ _) ?_; case ht => exact HS1.out _)
          | (refine wpList_store_mid rfl 37 _ _ rfl (g + 1) 0 #[.int .i64 0, .int .i64 0, .bool false, .int .i64 0] rfl rfl ?ht Try.sizeTrap (Tr.vs_all tr0) ?_; case ht => exact HS2.out _ _))
        obtain ⟨q1, q2, q3, q4⟩ := HE.out _ [.int .i64 ef, .int .i64 (addr % 64 / 4)] [.int .i64 0, .int .i64 0, .bool false, .int .i64 0] ((But.refl [] w1).alloc _) rfl rfl
        refine bodyPost_ret (results_two rfl _ _ g 0 (g + 1) 0 _ _ _ _ rfl q1 Try.underlying114 rfl Try.sizePlace rfl q2 Try.underlying37 rfl Try.sizeTrap) rfl ?_
        exact ⟨m', by rw [HF.out]; rfl, HM.out, q3, q4⟩
      | false =>
        have HF : Hid (fnd l s addr true = ⟨⟨2, addr / 64, true, 0⟩, 0, 0⟩) := by show _ = _; simp [fnd, hge]
        clear hge
        go_wp2_with (first
          | (refine wpList_store_mid rfl 114 _ _ rfl g 0 #[.int .i64 0, .int .i64 0] rfl rfl ?ht Try.sizePlace (pl_all _ _) ?_; case ht => exact HS1.out _)
          | (refine wpList_store_mid rfl 37 _ _ rfl (g + 1) 0 #[.int .i64 2, .int .i64 (addr / 64), .bool true, .int .i64 0] rfl rfl ?ht Try.sizeTrap (Tr.vs_all ⟨2, addr / 64, true, 0⟩) ?_; case ht => exact HS2.out _ _))
        obtain ⟨q1, q2, q3, q4⟩ := HE.out _ [.int .i64 0, .int .i64 0] [.int .i64 2, .int .i64 (addr / 64), .bool true, .int .i64 0] ((But.refl [] w1).alloc _) rfl rfl
        refine bodyPost_ret (results_two rfl _ _ g 0 (g + 1) 0 _ _ _ _ rfl q1 Try.underlying114 rfl Try.sizePlace rfl q2 Try.underlying37 rfl Try.sizeTrap) rfl ?_
        exact ⟨m', by rw [HF.out]; rfl, HM.out, q3, q4⟩
end Go.Proofs.Ytjlcncdhlcpklaa.Cp
