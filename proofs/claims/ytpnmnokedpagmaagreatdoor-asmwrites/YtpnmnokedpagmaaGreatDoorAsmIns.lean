/-
  Package asm's reader: an instruction's parts, a word's parts.
-/
import Derived.Test.YtpnmnokedpagmaaGreatDoorAsmImm
import Derived.Deep.RegionHeld3
import Derived.Deep.DeepCutAuto
import Derived.BigCall
import Derived.BigGuard
namespace Go.Proofs.YtpnmnokedpagmaaGreatDoor
open Go.RowKit
set_option linter.unusedVariables false
set_option linter.unusedSimpArgs false
set_option maxRecDepth 20000

/-- What reading a word leans on: the reader in block b (its table, its labels' map M, how many words were read), the names, the errors. -/
structure RdrAt (w : World) (b M : Nat) (n here : Nat) (a0 : Option Addr) (c0 : Nat) (L : Labs) (D : DataW Unit) : Prop where
  tab : TabOk w b 0
  lab : w.cell? ⟨b, 103, none⟩ = some (.map (some M))
  words : w.cell? ⟨b, 104, none⟩ = some (.slice a0 here c0)
  own : w.ownsMap Tryz.prog 9 (plainElem Tryz.prog 3) M n D
  labs : LabOk L D
  errs : ErrsOk w
  names : NamesOk w
  hhere : here ≤ 4294967296
  hb : 6 < b
  hMb : M ≠ b
theorem RdrAt.keep {w w' : World} {b M n here : Nat} {a0 : Option Addr} {c0 : Nat} {L : Labs} {D : DataW Unit} (h : RdrAt w b M n here a0 c0 L D) (k : Keep b 0 103 w w') (t : TabOk w' b 0) : RdrAt w' b M n here a0 c0 L D := by
  obtain ⟨⟨e1, h1, g1⟩, e2, h2, g2⟩ := h.errs
  obtain ⟨t0, fr, hn⟩ := h.names
  have hb := h.hb
  have hbs := k.home
  have hMlt := h.own.lt
  refine ⟨t, (k.cell 103 (by omega)).trans h.lab, (k.cell 104 (by omega)).trans h.words, ?_, h.labs, ⟨⟨e1, (k.far (p := ⟨5, 0, none⟩) (by show 5 < _; omega) (by show 5 ≠ b; omega)).trans h1, g1⟩, e2, (k.far (p := ⟨6, 0, none⟩) (by show 6 < _; omega) (by show 6 ≠ b; omega)).trans h2, g2⟩,
    ⟨t0, fr, (k.block 0 (by omega) (by omega)).trans hn⟩, h.hhere, hb, h.hMb⟩
  obtain ⟨es, clock, hm, F, hs, hD⟩ := h.own
  exact ⟨es, clock, (k.block M hMlt h.hMb).trans hm, F, hs, hD⟩

theorem box3c {b : Nat} {w w1 : World} {t : TypeId} {x0 x1 x2 : Value} (q : Keep b 0 103 (w.drew.alloc (.cells #[x0, x1, x2] t)) w1) (hb : b < w.heap.size) :
    w1.cell? ⟨w.heap.size, 0, none⟩ = some x0 ∧ w1.cell? ⟨w.heap.size, 1, none⟩ = some x1 ∧ w1.cell? ⟨w.heap.size, 2, none⟩ = some x2 ∧ (∀ j, w1.frozen? ⟨w.heap.size, j, none⟩ = false) ∧ w.heap.size < w1.heap.size := by
  have h : w1.heap[w.heap.size]? = some (.cells #[x0, x1, x2] t) := (q.block w.heap.size (by simp) (by omega)).trans (heap_alloc_new w.drew _)
  have hs := q.size
  refine ⟨?_, ?_, ?_, fun j => ?_, by simp at hs; omega⟩
  · unfold World.cell?; rw [h]; rfl
  · unfold World.cell?; rw [h]; rfl
  · unfold World.cell?; rw [h]; rfl
  · unfold World.frozen?; rw [h]; simp
/-- In the midst of an instruction: its box ib, the box hb of what its Op has. -/
structure InsAt (w W : World) (b ib hb : Nat) (x0 x1 x2 x3 : Int) (op : Int) : Prop where
  tab : TabOk W b 0
  keep : Keep b 0 103 w W
  i0 : W.cell? ⟨ib, 0, none⟩ = some (.int .i64 x0)
  i1 : W.cell? ⟨ib, 1, none⟩ = some (.int .i64 x1)
  i2 : W.cell? ⟨ib, 2, none⟩ = some (.int .i64 x2)
  i3 : W.cell? ⟨ib, 3, none⟩ = some (.int .i64 x3)
  iz : ∀ j, W.frozen? ⟨ib, j, none⟩ = false
  h0 : W.cell? ⟨hb, 0, none⟩ = some (.bool (faB op))
  h1 : W.cell? ⟨hb, 1, none⟩ = some (.bool (fbB op))
  h2 : W.cell? ⟨hb, 2, none⟩ = some (.bool (fiB op))
  il : w.heap.size ≤ ib
  hl : w.heap.size ≤ hb
  ne : ib ≠ hb

theorem cells4 {W : World} {ib : Nat} {t : TypeId} {x0 x1 x2 x3 : Value} (h : W.heap[ib]? = some (.cells #[x0, x1, x2, x3] t)) :
    W.cell? ⟨ib, 0, none⟩ = some x0 ∧ W.cell? ⟨ib, 1, none⟩ = some x1 ∧ W.cell? ⟨ib, 2, none⟩ = some x2 ∧ W.cell? ⟨ib, 3, none⟩ = some x3 ∧ ∀ j, W.frozen? ⟨ib, j, none⟩ = false := by
  refine ⟨?_, ?_, ?_, ?_, fun j => ?_⟩
  · unfold World.cell?; rw [h]; rfl
  · unfold World.cell?; rw [h]; rfl
  · unfold World.cell?; rw [h]; rfl
  · unfold World.cell?; rw [h]; rfl
  · unfold World.frozen?; rw [h]; simp
theorem ins_B {w' W0 w2 : World} {b : Nat} {x0 x1 x2 x3 op : Int} {t t' : TypeId} (hbh : b < w'.heap.size) (K0 : Keep b 0 103 w' W0) (hnew : W0.heap[w'.heap.size]? = some (.cells #[.int .i64 x0, .int .i64 x1, .int .i64 x2, .int .i64 x3] t))
    (hsz : W0.heap.size = w'.heap.size + 1) (t2 : TabOk w2 b 0) (q2 : Keep b 0 (0 + 103) W0.drew w2) :
    InsAt w' (w2.alloc (.cells #[.bool (faB op), .bool (fbB op), .bool (fiB op)] t')) b w'.heap.size w2.heap.size x0 x1 x2 x3 op := by
  have hs2 : W0.heap.size ≤ w2.heap.size := q2.size
  have h2 : w2.heap[w'.heap.size]? = _ := (q2.block w'.heap.size (by show _ < W0.heap.size; omega) (by omega)).trans hnew
  have h3 := (Below.heap_alloc w2 (.cells #[.bool (faB op), .bool (fbB op), .bool (fiB op)] t') w'.heap.size (by omega)).trans h2
  have hn := heap_alloc_new w2 (.cells #[.bool (faB op), .bool (fbB op), .bool (fiB op)] t')
  obtain ⟨c0, c1, c2, c3, cz⟩ := cells4 h3
  refine ⟨t2.alloc _, (K0.drew.trans q2).alloc _, c0, c1, c2, c3, cz, ?_, ?_, ?_, Nat.le_refl _, by omega, by omega⟩
  · unfold World.cell?; rw [hn]; rfl
  · unfold World.cell?; rw [hn]; rfl
  · unfold World.cell?; rw [hn]; rfl
theorem ins_A {w' W0 w2 : World} {b : Nat} {x0 x1 x2 x3 op : Int} {t t' : TypeId} {y0 y1 y2 : Value} (hbh : b < w'.heap.size) (K0 : Keep b 0 103 w' W0) (hnew : W0.heap[w'.heap.size]? = some (.cells #[.int .i64 x0, .int .i64 x1, .int .i64 x2, .int .i64 x3] t))
    (hsz : W0.heap.size = w'.heap.size + 1) (t2 : TabOk w2 b 0) (q2 : Keep b 0 (0 + 103) (W0.drew.alloc (.cells #[y0, y1, y2] t')) w2) :
    InsAt w' (((w2.setCell ⟨W0.heap.size, 0, none⟩ (.bool (faB op))).setCell ⟨W0.heap.size, 1, none⟩ (.bool (fbB op))).setCell ⟨W0.heap.size, 2, none⟩ (.bool (fiB op))) b w'.heap.size W0.heap.size x0 x1 x2 x3 op := by
  have hs2 : W0.heap.size + 1 ≤ w2.heap.size := by have := q2.size; simpa using this
  have h2 : w2.heap[w'.heap.size]? = _ := (q2.block w'.heap.size (by simp; omega) (by omega)).trans ((Below.heap_alloc W0.drew _ w'.heap.size (by show _ < W0.heap.size; omega)).trans hnew)
  obtain ⟨d0, d1, d2, dz, dl⟩ := box3c q2 (by omega)
  have hne : W0.heap.size ≠ b := by omega
  have far : ∀ {W : World} {j m : Nat} {v : Value}, (W.setCell ⟨W0.heap.size, j, none⟩ v).heap[w'.heap.size]? = W.heap[w'.heap.size]? := fun {W j m v} => Below.heap_setCell _ _ _ _ (by show w'.heap.size ≠ W0.heap.size; omega)
  have h3 : (((w2.setCell ⟨W0.heap.size, 0, none⟩ (.bool (faB op))).setCell ⟨W0.heap.size, 1, none⟩ (.bool (fbB op))).setCell ⟨W0.heap.size, 2, none⟩ (.bool (fiB op))).heap[w'.heap.size]? = _ := (far (m := 0)).trans ((far (m := 0)).trans ((far (m := 0)).trans h2))
  obtain ⟨c0, c1, c2, c3, cz⟩ := cells4 h3
  have KK := (K0.drew.alloc (.cells #[y0, y1, y2] t')).trans q2
  have hl : w'.heap.size ≤ W0.heap.size := by omega
  refine ⟨((t2.setFar hne _).setFar hne _).setFar hne _, ((KK.setNew (p := ⟨W0.heap.size, 0, none⟩) hl _).setNew (p := ⟨W0.heap.size, 1, none⟩) hl _).setNew (p := ⟨W0.heap.size, 2, none⟩) hl _, c0, c1, c2, c3, cz, ?_, ?_, ?_, Nat.le_refl _, hl, by omega⟩
  · rw [World.cell?_setCell_other _ _ _ _ (addr_ne (by decide)), World.cell?_setCell_other _ _ _ _ (addr_ne (by decide))]; exact World.cell?_setCell_same _ _ _ d0
  · rw [World.cell?_setCell_other _ _ _ _ (addr_ne (by decide))]; exact World.cell?_setCell_same _ _ _ ((World.cell?_setCell_other _ _ _ _ (addr_ne (by decide))).trans d1)
  · exact World.cell?_setCell_same _ _ _ ((World.cell?_setCell_other _ _ _ _ (addr_ne (by decide))).trans ((World.cell?_setCell_other _ _ _ _ (addr_ne (by decide))).trans d2))

variable {w W : World} {b ib hb : Nat} {x0 x1 x2 x3 op : Int}
theorem InsAt.ibl (h : InsAt w W b ib hb x0 x1 x2 x3 op) : ib < W.heap.size := lt_of_cell h.i0
theorem InsAt.hbl (h : InsAt w W b ib hb x0 x1 x2 x3 op) : hb < W.heap.size := lt_of_cell h.h0
theorem InsAt.below {W' : World} (h : InsAt w W b ib hb x0 x1 x2 x3 op) (k : Below W.heap.size W W') : InsAt w W' b ib hb x0 x1 x2 x3 op :=
  have li := h.ibl
  have lh := h.hbl
  ⟨h.tab.below k, h.keep.below k, (k.cell (p := ⟨ib, 0, none⟩) li).trans h.i0, (k.cell (p := ⟨ib, 1, none⟩) li).trans h.i1, (k.cell (p := ⟨ib, 2, none⟩) li).trans h.i2, (k.cell (p := ⟨ib, 3, none⟩) li).trans h.i3, fun j => (k.frozen (p := ⟨ib, j, none⟩) li).trans (h.iz j),
    (k.cell (p := ⟨hb, 0, none⟩) lh).trans h.h0, (k.cell (p := ⟨hb, 1, none⟩) lh).trans h.h1, (k.cell (p := ⟨hb, 2, none⟩) lh).trans h.h2, h.il, h.hl, h.ne⟩
theorem InsAt.set {v : Value} {k : Nat} (h : InsAt w W b ib hb x0 x1 x2 x3 op) :
    TabOk (W.setCell ⟨ib, k, none⟩ v) b 0 ∧ Keep b 0 103 w (W.setCell ⟨ib, k, none⟩ v) ∧ (∀ j, (W.setCell ⟨ib, k, none⟩ v).frozen? ⟨ib, j, none⟩ = false) ∧
    (W.setCell ⟨ib, k, none⟩ v).cell? ⟨hb, 0, none⟩ = some (.bool (faB op)) ∧ (W.setCell ⟨ib, k, none⟩ v).cell? ⟨hb, 1, none⟩ = some (.bool (fbB op)) ∧ (W.setCell ⟨ib, k, none⟩ v).cell? ⟨hb, 2, none⟩ = some (.bool (fiB op)) :=
  have hne : ib ≠ b := by have := h.il; have := h.keep.home; omega
  have ha : ∀ j, (⟨ib, k, none⟩ : Addr) ≠ ⟨hb, j, none⟩ := fun j e => h.ne (by injection e)
  ⟨h.tab.setFar hne _, h.keep.setNew (p := ⟨ib, k, none⟩) h.il _, fun j => (frozen_setCell _ _ _ _).trans (h.iz j), (World.cell?_setCell_other _ _ _ _ (ha 0)).trans h.h0, (World.cell?_setCell_other _ _ _ _ (ha 1)).trans h.h1, (World.cell?_setCell_other _ _ _ _ (ha 2)).trans h.h2⟩
theorem InsAt.set1 (h : InsAt w W b ib hb x0 x1 x2 x3 op) (v : Int) : InsAt w (W.setCell ⟨ib, 1, none⟩ (.int .i64 v)) b ib hb x0 v x2 x3 op :=
  have ⟨a1, a2, a3, a4, a5, a6⟩ := h.set (v := .int .i64 v) (k := 1)
  ⟨a1, a2, (World.cell?_setCell_other _ _ _ _ (addr_ne (by decide))).trans h.i0, World.cell?_setCell_same _ _ _ h.i1, (World.cell?_setCell_other _ _ _ _ (addr_ne (by decide))).trans h.i2, (World.cell?_setCell_other _ _ _ _ (addr_ne (by decide))).trans h.i3, a3, a4, a5, a6, h.il, h.hl, h.ne⟩
theorem InsAt.set2 (h : InsAt w W b ib hb x0 x1 x2 x3 op) (v : Int) : InsAt w (W.setCell ⟨ib, 2, none⟩ (.int .i64 v)) b ib hb x0 x1 v x3 op :=
  have ⟨a1, a2, a3, a4, a5, a6⟩ := h.set (v := .int .i64 v) (k := 2)
  ⟨a1, a2, (World.cell?_setCell_other _ _ _ _ (addr_ne (by decide))).trans h.i0, (World.cell?_setCell_other _ _ _ _ (addr_ne (by decide))).trans h.i1, World.cell?_setCell_same _ _ _ h.i2, (World.cell?_setCell_other _ _ _ _ (addr_ne (by decide))).trans h.i3, a3, a4, a5, a6, h.il, h.hl, h.ne⟩
theorem InsAt.set3 (h : InsAt w W b ib hb x0 x1 x2 x3 op) (v : Int) : InsAt w (W.setCell ⟨ib, 3, none⟩ (.int .i64 v)) b ib hb x0 x1 x2 v op :=
  have ⟨a1, a2, a3, a4, a5, a6⟩ := h.set (v := .int .i64 v) (k := 3)
  ⟨a1, a2, (World.cell?_setCell_other _ _ _ _ (addr_ne (by decide))).trans h.i0, (World.cell?_setCell_other _ _ _ _ (addr_ne (by decide))).trans h.i1, (World.cell?_setCell_other _ _ _ _ (addr_ne (by decide))).trans h.i2, World.cell?_setCell_same _ _ _ h.i3, a3, a4, a5, a6, h.il, h.hl, h.ne⟩

/-- A word, or none: what is handed back of it, and what it leaves. -/
def GotW (r : Option Int) (b : Nat) (w : World) (e : Ending) (w' : World) : Prop :=
  ∃ v ok, e = .returned (.tuple #[.int .u32 v, .bool ok]) ∧ r = (if ok then some v else none) ∧ TabOk w' b 0 ∧ Keep b 0 103 w w'
/-- A slice of strings in block bk. -/
def Sl (w : World) (bk : Nat) (v : Value) (ps : List Bs) : Prop :=
  ∃ o c, v = .slice (some ⟨bk, o, none⟩) ps.length c ∧ ps.length ≤ c ∧ ∀ j x, ps[j]? = some x → w.cell? ⟨bk, o + j, none⟩ = some (.string (BA x))
/-- A register's part has been read, if the Op has one. -/
def StR (has : Bool) (ps : List Bs) (a : Int) (ok : Bool) (ps1 : List Bs) : Prop :=
  (has = true ∧ ∃ q r, ps = q :: r ∧ ps1 = r ∧ ok = (regNum q).isSome ∧ a = ((regNum q).getD 0 : Nat)) ∨ (has = false ∧ ps1 = ps ∧ ok = true ∧ a = 0)
def StI (has : Bool) (L : Labs) (here op : Nat) (ps : List Bs) (i : Int) (ok : Bool) : Prop :=
  (has = true ∧ ∃ q r, ps = q :: r ∧ immOf L here op q = (if ok then some i else none)) ∨ (has = false ∧ ok = true ∧ i = 0)

theorem StR.take {has : Bool} {ps ps1 : List Bs} {a : Int} {ok : Bool} (h : StR has ps a ok ps1) : takeR has ps = if ok then some (a, ps1) else none := by
  unfold takeR
  rcases h with ⟨rfl, q, r, rfl, rfl, rfl, rfl⟩ | ⟨rfl, rfl, rfl, rfl⟩
  · rw [if_pos rfl]
    cases h : regNum q with
    | none => simp [h]
    | some m => simp [h]
  · rfl
theorem StI.take {has : Bool} {L : Labs} {here op : Nat} {ps : List Bs} {i : Int} {ok : Bool} (h : StI has L here op ps i ok) : takeI has L here op ps = if ok then some i else none := by
  unfold takeI
  rcases h with ⟨rfl, q, r, rfl, e⟩ | ⟨rfl, rfl, rfl⟩
  · rw [if_pos rfl]; exact e
  · rfl
theorem ins_of {L : Labs} {here op : Nat} {p : Bs} {ps ps1 ps2 : List Bs} {a b1 i : Int} {okA okB okI : Bool} (hop : op = opNum p) (hlen : ps.length = cntB op)
    (HA : StR (faB op) ps a okA ps1) (HB : StR (fbB op) ps1 b1 okB ps2) (HI : StI (fiB op) L here op ps2 i okI) :
    insOf L here p ps = if okA && okB && okI then (if vldB op a b1 i then some (encI op a b1 i) else none) else none := by
  unfold insOf argsOf
  rw [← hop]
  simp only [hlen, ne_eq, not_true_eq_false, if_false]
  rw [HA.take]
  cases okA with
  | false => rfl
  | true =>
    simp only [if_true]
    rw [HB.take]
    cases okB with
    | false => rfl
    | true =>
      simp only [if_true]
      rw [HI.take]
      cases okI <;> rfl

set_option maxHeartbeats 2000000 in
theorem ins_c (b M n here : Nat) (a0 : Option Addr) (c0 : Nat) (L : Labs) (D : DataW Unit) (p : Bs) (ps : List Bs) (bk o c : Nat) (w : World) (R : RdrAt w b M n here a0 c0 L D)
    (hc : ps.length + 1 ≤ c) (hcs : ∀ j x, (p :: ps)[j]? = some x → w.cell? ⟨bk, o + j, none⟩ = some (.string (BA x))) (hln : ∀ x ∈ ps, x.length ≤ 4294967296) (hbk : bk ≠ b) (hn : ps.length ≤ 4294967296) :
    Calls Tryz.prog 44 #[.pointer (some ⟨b, 0, none⟩), .slice (some ⟨bk, o, none⟩) (ps.length + 1) c] w (GotW (insOf L here p ps) b w) := by
  have hbh := R.tab.home
  have hp0 : w.cell? ⟨bk, o, none⟩ = some (.string (BA p)) := hcs 0 p rfl
  have hbkl : bk < w.heap.size := lt_of_cell hp0
  obtain ⟨op, hop⟩ : ∃ op, op = opNum p := ⟨_, rfl⟩
  have hopc := opOf_c p w R.names
  rw [← hop] at hopc
  have HOP : Hid _ := hop
  clear hop
  go_enter Tryz.func44, Tryz.ntmps44
  go_wp2_with (go_at_call 59; refine hopc.mono ?_; clear hopc; rintro e w' ⟨rfl, rfl⟩)
  have t0 := R.tab.alloc (.cells #[.int .i64 op, .int .i64 0, .int .i64 0, .int .i64 0] 78)
  have K0 := (Keep.refl 0 103 hbh).alloc (.cells #[.int .i64 op, .int .i64 0, .int .i64 0, .int .i64 0] 78)
  have hnew := heap_alloc_new w' (.cells #[.int .i64 op, .int .i64 0, .int .i64 0, .int .i64 0] 78)
  have hsz0 : (w'.alloc (.cells #[.int .i64 op, .int .i64 0, .int .i64 0, .int .i64 0] 78)).heap.size = w'.heap.size + 1 := by simp
  obtain ⟨W0, hW0⟩ : ∃ W0, W0 = w'.alloc (.cells #[.int .i64 op, .int .i64 0, .int .i64 0, .int .i64 0] 78) := ⟨_, rfl⟩
  rw [← hW0] at t0 K0 hnew hsz0 ⊢
  have HNEW : Hid _ := hnew
  have HSZ0 : Hid _ := hsz0
  have i0 : W0.cell? ⟨w'.heap.size, 0, none⟩ = some (.int .i64 op) := by unfold World.cell?; rw [hnew]; rfl
  have i0a : ∀ o : Obj, (W0.drew.alloc o).cell? ⟨w'.heap.size, 0, none⟩ = some (.int .i64 op) := fun o => (World.cell?_alloc_past _ _ _ (by show w'.heap.size < W0.heap.size; omega)).trans i0
  have i0b : ∀ o : Obj, (W0.alloc o).cell? ⟨w'.heap.size, 0, none⟩ = some (.int .i64 op) := fun o => (World.cell?_alloc_past _ _ _ (by show w'.heap.size < W0.heap.size; omega)).trans i0
  clear hW0 hnew hsz0
  go_cut [7] (fun s7 wx => ∃ hb, s7 = .pointer (some ⟨hb, 0, none⟩) ∧ InsAt w' wx b w'.heap.size hb op 0 0 0 op)
  case first =>
    -- ⟪slow⟫
    go_region_with (first
      | (go_at_call 24; refine (fieldsOf_c b 0 op _ (by first | exact t0.drew | exact t0.drew.alloc _)).mono ?_; rintro e w2 ⟨rfl, t2, q2⟩; try (obtain ⟨d0, d1, d2, dz, dl⟩ := box3c q2 (by have := HSZ0.out; omega)))
      | go_in)
    all_goals (go_wp2_with fail; go_meet)
    all_goals first
      | exact ⟨_, rfl, ins_B hbh K0 HNEW.out HSZ0.out t2 q2⟩
      | exact ⟨_, rfl, ins_A hbh K0 HNEW.out HSZ0.out t2 q2⟩
    -- ⟪/slow⟫
  case rest =>
    obtain ⟨hb, rfl, I0⟩ := hcut
    have HI0 : Hid _ := I0
    clear I0 i0 i0a i0b t0 K0
    have i1 : (1 : Int) ≤ (ps.length : Int) + 1 := by omega
    go_upto_region 3 with fail
    go_cut [8] (fun s8 wx => wx = wc ∧ Sl w' bk s8 ps)
    case first =>
      by_cases hc1 : c = 1
      · subst hc1
        obtain rfl : ps = [] := List.length_eq_zero_iff.1 (by omega)
        go_wp2
        go_meet
        exact ⟨rfl, o, _, rfl, by simp, fun j x hx => by simp at hx⟩
      · go_wp2
        go_meet
        exact ⟨rfl, o + 1, _, rfl, by omega, fun j x hx => by rw [Nat.add_assoc, Nat.add_comm 1]; exact hcs (j + 1) x hx⟩
    case rest =>
      obtain ⟨hwx, o1, c1, rfl, hc1, S0⟩ := hcut
      subst hwx
      have HS0 : Hid _ := S0
      clear S0 hcs hp0
      have h0 := HI0.out.h0
      have h1 := HI0.out.h1
      have h2 := HI0.out.h2
      have hcnt := count_c (faB op) (fbB op) (fiB op) wc
      have HC : Hid ((bitN (faB op) + bitN (fbB op) + bitN (fiB op) : Nat) = cntB op) := rfl
      rw [HC.out] at hcnt
      by_cases hlen : ps.length = cntB op
      · have hlen' : (ps.length : Int) = (cntB op : Nat) := by omega
        have hne' : ((ps.length : Int) != (cntB op : Nat)) = false := by simp [hlen]
        go_upto_region 7 with (first
          | (go_at_call 60; refine hcnt.mono ?_; rintro e w3 ⟨rfl, rfl⟩)
          | go_in)
        have I3 := HI0.out.below ((Below.refl _ _).alloc (Nat.le_refl _) (.cells #[.bool (faB op), .bool (fbB op), .bool (fiB op)] 85))
        obtain ⟨w3, hw3⟩ : ∃ w3, w3 = wc.alloc (.cells #[.bool (faB op), .bool (fbB op), .bool (fiB op)] 85) := ⟨_, rfl⟩
        rw [← hw3] at I3 ⊢
        clear hw3 HI0 h0 h1 h2 hcnt hlen' hne' i1
        rw [← hlen]
        have HL : Hid _ := hlen
        clear hlen
        have HI3 : Hid _ := I3
        have h0 := I3.h0
        clear I3
        go_upto_if 31 with fail
        go_cut [8, 9] (fun s8 s9 wx => ∃ a okA ps1, s9 = .bool okA ∧ Sl w' bk s8 ps1 ∧ InsAt w' wx b w'.heap.size hb op a 0 0 op ∧ StR (faB op) ps a okA ps1)
        case first =>
          -- ⟪slow⟫
          cases hfa : faB op with
          | false =>
            rw [hfa] at h0
            go_wp2
            go_meet
            exact ⟨0, true, ps, rfl, ⟨o1, c1, rfl, hc1, HS0.out⟩, HI3.out, .inr ⟨hfa, rfl, rfl, rfl⟩⟩
          | true =>
            cases ps with
            | nil => exfalso; have hlen := HL.out; unfold cntB at hlen; rw [hfa] at hlen; simp at hlen; omega
            | cons q r =>
              have hq : w3.cell? ⟨bk, o1, none⟩ = some (.string (BA q)) := (HI3.out.keep.far (p := ⟨bk, o1, none⟩) hbkl hbk).trans (HS0.out 0 q rfl)
              have i1 := HI3.out.i1
              have iz := HI3.out.iz
              go_wp2_with (first
                | (go_at_call 61; refine (register_c q _).mono ?_; rintro e w4 ⟨rfl, rfl⟩)
                | go_in)
              · go_meet
                obtain rfl : r = [] := List.length_eq_zero_iff.1 (by simp at hc1; omega)
                exact ⟨_, _, [], rfl, ⟨o1, 0, rfl, by simp, fun j x hx => by simp at hx⟩, HI3.out.set1 _, .inl ⟨hfa, q, [], rfl, rfl, rfl, rfl⟩⟩
              · go_meet
                exact ⟨_, _, r, rfl, ⟨o1 + 1, _, rfl, by simp at hc1; omega, fun j x hx => by rw [Nat.add_assoc, Nat.add_comm 1]; exact HS0.out (j + 1) x hx⟩, HI3.out.set1 _, .inl ⟨hfa, q, r, rfl, rfl, rfl, rfl⟩⟩
          -- ⟪/slow⟫
        case rest =>
          obtain ⟨a, okA, ps1, rfl, ⟨o2, c2, rfl, hc2, S1⟩, I4, HA⟩ := hcut
          have HHA : Hid _ := HA
          have HS1 : Hid _ := S1
          have HI4 : Hid _ := I4
          have h1 := I4.h1
          have hl1 : ps1.length + bitN (faB op) = ps.length := by
            rcases HA with ⟨h, q, r, rfl, rfl, -⟩ | ⟨h, rfl, -⟩ <;> simp [h, bitN]
          have HL1 : Hid _ := hl1
          clear HA S1 I4 HI3 HS0 hl1 h0
          go_upto_if 43 with fail
          go_cut [8, 10] (fun s8 s10 wx => ∃ b1 okB ps2, s10 = .bool okB ∧ Sl w' bk s8 ps2 ∧ InsAt w' wx b w'.heap.size hb op a b1 0 op ∧ StR (fbB op) ps1 b1 okB ps2)
          case first =>
            -- ⟪slow⟫
            cases hfb : fbB op with
            | false =>
              rw [hfb] at h1
              go_wp2
              go_meet
              exact ⟨0, true, ps1, rfl, ⟨o2, c2, rfl, hc2, HS1.out⟩, HI4.out, .inr ⟨hfb, rfl, rfl, rfl⟩⟩
            | true =>
              rw [hfb] at h1
              cases ps1 with
              | nil => exfalso; have hlen := HL.out; have := HL1.out; unfold cntB at hlen; rw [hfb] at hlen; unfold bitN at this; simp at this hlen; omega
              | cons q r =>
                have hq : wc.cell? ⟨bk, o2, none⟩ = some (.string (BA q)) := (HI4.out.keep.far (p := ⟨bk, o2, none⟩) hbkl hbk).trans (HS1.out 0 q rfl)
                have i2 := HI4.out.i2
                have iz := HI4.out.iz
                go_wp2_with (first
                  | (go_at_call 61; refine (register_c q _).mono ?_; rintro e w4 ⟨rfl, rfl⟩)
                  | go_in)
                · go_meet
                  obtain rfl : r = [] := List.length_eq_zero_iff.1 (by simp at hc2; omega)
                  exact ⟨_, _, [], rfl, ⟨o2, 0, rfl, by simp, fun j x hx => by simp at hx⟩, HI4.out.set2 _, .inl ⟨hfb, q, [], rfl, rfl, rfl, rfl⟩⟩
                · go_meet
                  exact ⟨_, _, r, rfl, ⟨o2 + 1, _, rfl, by simp at hc2; omega, fun j x hx => by rw [Nat.add_assoc, Nat.add_comm 1]; exact HS1.out (j + 1) x hx⟩, HI4.out.set2 _, .inl ⟨hfb, q, r, rfl, rfl, rfl, rfl⟩⟩
            -- ⟪/slow⟫
          case rest =>
            obtain ⟨b1, okB, ps2, rfl, ⟨o3, c3, rfl, hc3, S2⟩, I5, HB⟩ := hcut
            have HHB : Hid _ := HB
            have HS2 : Hid _ := S2
            have HI5 : Hid _ := I5
            have h2 := I5.h2
            have hl2 : ps2.length + bitN (fbB op) = ps1.length := by
              rcases HB with ⟨h, q, r, rfl, rfl, -⟩ | ⟨h, rfl, -⟩ <;> simp [h, bitN]
            have HL2 : Hid _ := hl2
            clear HB S2 I5 HI4 HS1 hl2 h1
            go_upto_if 55 with fail
            go_cut [11] (fun s11 wx => ∃ i okI, s11 = .bool okI ∧ InsAt w' wx b w'.heap.size hb op a b1 i op ∧ StI (fiB op) L here op ps2 i okI)
            case first =>
              cases hfi : fiB op with
              | false =>
                rw [hfi] at h2
                go_wp2
                go_meet
                exact ⟨0, true, rfl, HI5.out, .inr ⟨hfi, rfl, rfl⟩⟩
              | true =>
                rw [hfi] at h2
                cases ps2 with
                | nil => exfalso; have hlen := HL.out; have h3 := HL1.out; have h4 := HL2.out; unfold cntB at hlen; rw [hfi] at hlen; unfold bitN at h3 h4; simp at h3 h4 hlen; omega
                | cons q r =>
                  have hq : wc.cell? ⟨bk, o3, none⟩ = some (.string (BA q)) := (HI5.out.keep.far (p := ⟨bk, o3, none⟩) hbkl hbk).trans (HS2.out 0 q rfl)
                  have i0 := HI5.out.i0
                  have i3 := HI5.out.i3
                  have iz := HI5.out.iz
                  have hql : q.length ≤ 4294967296 := by
                    refine hln q ?_
                    have m2 : q ∈ ps1 := by rcases HHB.out with ⟨_, q', r', rfl, rfl, _⟩ | ⟨_, rfl, _⟩ <;> simp
                    rcases HHA.out with ⟨_, q', r', rfl, rfl, _⟩ | ⟨_, rfl, _⟩
                    · exact List.mem_cons_of_mem _ m2
                    · exact m2
                  have R5 := R.keep HI5.out.keep.drew HI5.out.tab.drew
                  have HR5 : Hid _ := R5
                  clear R5
                  go_wp2_with fail
                  go_region_with (first
                    | (go_at_call 62; refine (imm_c b M n here a0 c0 L D op q hql wc.drew HR5.out.lab HR5.out.words HR5.out.hhere HR5.out.own HR5.out.labs HR5.out.errs).mono ?_; rintro e w4 ⟨v, ok, rfl, himm, hb4⟩; have I6 := HI5.out.below (((Below.refl _ wc).drew).trans hb4); have j3 := I6.i3; have jz := I6.iz; have HIMM : Hid _ := himm; have HI6 : Hid _ := I6; clear himm I6)
                    | go_in)
                  all_goals (go_wp2_with fail; go_meet)
                  all_goals exact ⟨v, ok, rfl, HI6.out.set3 v, .inl ⟨hfi, q, r, rfl, HIMM.out⟩⟩
            case rest =>
              obtain ⟨i, okI, rfl, I6, HII⟩ := hcut
              have HR : Hid (insOf L here p ps = if okA && okB && okI then (if vldB op a b1 i then some (encI op a b1 i) else none) else none) := by
                show insOf L here p ps = _
                exact ins_of HOP.out HL.out HHA.out HHB.out HII
              have HI6 : Hid _ := I6
              clear I6 HI5 HS2
              cases okA with
              | false =>
                go_wp2
                go_ret2
                exact ⟨_, false, rfl, HR.out, HI6.out.tab, HI6.out.keep⟩
              | true =>
                cases okB with
                | false =>
                  go_wp2
                  go_ret2
                  exact ⟨_, false, rfl, HR.out, HI6.out.tab, HI6.out.keep⟩
                | true =>
                  cases okI with
                  | false =>
                    go_wp2
                    go_ret2
                    exact ⟨_, false, rfl, HR.out, HI6.out.tab, HI6.out.keep⟩
                  | true =>
                    have i0 := HI6.out.i0
                    have i1 := HI6.out.i1
                    have i2 := HI6.out.i2
                    have i3 := HI6.out.i3
                    have t6 := HI6.out.tab.drew
                    go_wp2_with fail
                    go_region_with (first
                      | (go_at_call 63; refine (encode_c b 0 op a b1 i _ t6).mono ?_; rintro e w5 ⟨rfl, t7, q7⟩)
                      | go_in)
                    all_goals go_wp2
                    all_goals go_ret2
                    all_goals (refine ⟨_, vldB op a b1 i, rfl, ?_, t7, HI6.out.keep.drew.trans q7⟩; rw [HR.out]; unfold encR; simp only [Bool.and_self, if_true]; cases vldB op a b1 i <;> rfl)
      · have hne' : ((ps.length : Int) != (cntB op : Nat)) = true := by simp; omega
        have HF : Hid (insOf L here p ps = none) := by show insOf L here p ps = none; unfold insOf; rw [← HOP.out]; simp [hlen]
        go_wp2_with (first
          | (go_at_call 60; refine hcnt.mono ?_; rintro e w3 ⟨rfl, rfl⟩)
          | go_in)
        go_ret2
        exact ⟨_, false, rfl, HF.out, HI0.out.tab.alloc _, HI0.out.keep.alloc _⟩
end Go.Proofs.YtpnmnokedpagmaaGreatDoor
