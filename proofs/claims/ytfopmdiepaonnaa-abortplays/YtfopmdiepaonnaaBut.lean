/-
  Words of my own for memory that a call writes: which blocks may have turned (But), a block known cell by cell that may be written (VB), whole structs loaded and copied. Nothing of the program is named here.
-/
import Derived.Test.YtfopmdiepaonnaaKeep
import Derived.WalkKit
import Derived.ProofKit
import Derived.OpenShut
import Derived.Below
import Derived.OwnWalk
import Derived.Deep.OwnRows
import Derived.Deep.Draws
import Derived.Deep.MidRow
import Derived.Deep.QuietTactic
import Derived.BigQuiet
import Derived.WalkSpells
import Derived.WalkSmall
import Derived.Laws.ResultCell
import Derived.Deep.WholeRow
import Derived.StillTailTactics
import Derived.Outline
import Derived.Deep.LoopGhost
import Derived.ChangeKeysEq
import Derived.WalkMore
namespace Go.Proofs.Ytfopmdiepaonnaa
open Go.ChangeShapes Go.WideShapes Go.ChangeAt Go.RowKit
set_option linter.unusedVariables false

/-- Of the blocks of w all but those of l are in w' as they were; nothing has gone. -/
structure But (l : List Nat) (w w' : World) : Prop where
  os : w'.os = w.os
  tape : w'.tape = w.tape
  output : w'.output = w.output
  size : w.heap.size ≤ w'.heap.size
  block : ∀ k, k < w.heap.size → k ∉ l → w'.heap[k]? = w.heap[k]?
theorem But.refl (l : List Nat) (w : World) : But l w w := ⟨rfl, rfl, rfl, Nat.le_refl _, fun _ _ _ => rfl⟩
theorem But.trans {l : List Nat} {u v w : World} (h : But l u v) (k : But l v w) : But l u w :=
  ⟨k.os.trans h.os, k.tape.trans h.tape, k.output.trans h.output, Nat.le_trans h.size k.size, fun i hi hn => (k.block i (Nat.lt_of_lt_of_le hi h.size) hn).trans (h.block i hi hn)⟩
theorem But.wider {l l' : List Nat} {w w' : World} (h : But l w w') (hl : ∀ k, k ∈ l → k ∈ l') : But l' w w' := ⟨h.os, h.tape, h.output, h.size, fun k hk hn => h.block k hk (fun hm => hn (hl k hm))⟩
theorem But.any {w w' : World} (h : But [] w w') (l : List Nat) : But l w w' := h.wider (by simp)
/-- New blocks may be struck from the list. -/
theorem But.strike {l l' : List Nat} {w w' : World} (h : But l w w') (hl : ∀ k, k ∈ l → k < w.heap.size → k ∈ l') : But l' w w' := ⟨h.os, h.tape, h.output, h.size, fun k hk hn => h.block k hk (fun hm => hn (hl k hm hk))⟩
theorem But.drew {l : List Nat} {u w : World} (h : But l u w) : But l u w.drew := ⟨h.os, h.tape, h.output, h.size, h.block⟩
theorem But.drewN {l : List Nat} {u w : World} (h : But l u w) (n : Nat) : But l u (w.drewN n) := ⟨h.os, h.tape, h.output, h.size, h.block⟩
theorem But.alloc {l : List Nat} {u w : World} (h : But l u w) (o : Obj) : But l u (w.alloc o) :=
  h.trans ⟨rfl, rfl, rfl, by simp, fun k hk _ => Below.heap_alloc _ _ _ hk⟩
theorem But.setCell {l : List Nat} {u w : World} (h : But l u w) {p : Addr} (hp : p.block ∈ l ∨ u.heap.size ≤ p.block) (v : Value) : But l u (w.setCell p v) :=
  ⟨h.os, h.tape, h.output, by simpa [World.setCell] using h.size, fun k hk hn => (Below.heap_setCell _ _ _ _ (fun e => by subst e; rcases hp with hp | hp; exact hn hp; omega)).trans (h.block k hk hn)⟩
theorem But.setCells {l : List Nat} {u : World} {b : Nat} (hp : b ∈ l ∨ u.heap.size ≤ b) : ∀ (vs : List Value) (o : Nat) {w : World}, But l u w → But l u (w.setCells b o vs)
  | [], _, _, h => h
  | v :: r, o, w, h => But.setCells hp r (o + 1) (h.setCell (p := ⟨b, o, none⟩) hp v)
theorem But.below {l : List Nat} {w w' : World} {B : Nat} (h : But l w w') (hB : B ≤ w.heap.size) (hl : ∀ k ∈ l, B ≤ k) : Below B w w' :=
  ⟨h.os, h.tape, h.output, h.size, fun k hk => h.block k (by omega) (fun hm => by have := hl k hm; omega)⟩
theorem But.of_below {l : List Nat} {w w' : World} (h : Below w.heap.size w w') : But l w w' := ⟨h.os, h.tape, h.output, h.size, fun k hk _ => h.block k hk⟩
theorem But.grown {l : List Nat} {u w w' : World} {row : Option Nat} (h : But l u w) (hg : w.grownBy w' row) (hr : ∀ k, row = some k → k ∈ l ∨ u.heap.size ≤ k) : But l u w' :=
  ⟨hg.os.trans h.os, hg.tape.trans h.tape, hg.output.trans h.output, Nat.le_trans h.size hg.size, fun k hk hn =>
    (hg.block k (Nat.lt_of_lt_of_le hk h.size) (fun e => by rcases hr k e.symm with hm | hm; exact hn hm; omega)).trans (h.block k hk hn)⟩
theorem Keep.toBut {b lo hi : Nat} {w w' : World} (h : Keep b lo hi w w') : But [b] w w' := ⟨h.os, h.tape, h.output, h.size, fun k hk hn => h.block k hk (by simpa using hn)⟩
theorem But.cell {l : List Nat} {w w' : World} (h : But l w w') {p : Addr} (hp : p.block < w.heap.size) (hn : p.block ∉ l) : w'.cell? p = w.cell? p := World.cell?_of_block (w := w) (h.block p.block hp hn)
theorem But.frozen {l : List Nat} {w w' : World} (h : But l w w') {p : Addr} (hp : p.block < w.heap.size) (hn : p.block ∉ l) : w'.frozen? p = w.frozen? p := World.frozen?_of_block (w := w) (h.block p.block hp hn)

theorem lt_of_there {w : World} {b o n : Nat} (h : w.there b o n) (hn : 0 < n) : b < w.heap.size := by
  obtain ⟨v, hv⟩ := Option.isSome_iff_exists.1 (h 0 hn).1
  exact lt_of_cell hv
theorem range_keep {l : List Nat} {w w' : World} {b o : Nat} {cs : List Value} (h : w.rangeAt b o cs) (hk : But l w w') (hn : b ∉ l) : w'.rangeAt b o cs := fun j v hv =>
  (hk.cell (p := ⟨b, o + j, none⟩) (lt_of_cell (h j v hv)) hn).trans (h j v hv)
theorem cell_keep {l : List Nat} {w w' : World} {b o : Nat} {v : Value} (h : w.cell? ⟨b, o, none⟩ = some v) (hk : But l w w') (hn : b ∉ l) : w'.cell? ⟨b, o, none⟩ = some v :=
  (hk.cell (p := ⟨b, o, none⟩) (lt_of_cell h) hn).trans h
theorem range_cells {w : World} {b o : Nat} {cs : List Value} (h : w.rangeAt b o cs) (j : Nat) (v : Value) (hv : cs[j]? = some v) : w.cell? ⟨b, o + j, none⟩ = some v := h j v hv

/-- The first n cells of block b hold the values of f, and may be written. -/
def VB (w : World) (b n : Nat) (f : Nat → Value) : Prop := ∀ j, j < n → w.cell? ⟨b, j, none⟩ = some (f j) ∧ w.frozen? ⟨b, j, none⟩ = false
theorem VB.lt {w : World} {b n : Nat} {f : Nat → Value} (h : VB w b n f) (hn : 0 < n) : b < w.heap.size := lt_of_cell (h 0 hn).1
theorem VB.keep {l : List Nat} {w w' : World} {b n : Nat} {f : Nat → Value} (h : VB w b n f) (hk : But l w w') (hn : b ∉ l) : VB w' b n f := fun j hj => by
  obtain ⟨h1, h2⟩ := h j hj
  have hb : b < w.heap.size := lt_of_cell h1
  exact ⟨(hk.cell (p := ⟨b, j, none⟩) hb hn).trans h1, (hk.frozen (p := ⟨b, j, none⟩) hb hn).trans h2⟩
theorem VB.congr {w : World} {b n : Nat} {f g : Nat → Value} (h : VB w b n f) (hfg : ∀ j, j < n → f j = g j) : VB w b n g := fun j hj => by rw [← hfg j hj]; exact h j hj
theorem VB.drew {w : World} {b n : Nat} {f : Nat → Value} (h : VB w b n f) : VB w.drew b n f := fun j hj => by simpa using h j hj
theorem VB.set {w : World} {b n k : Nat} {f : Nat → Value} (h : VB w b n f) (v : Value) : VB (w.setCell ⟨b, k, none⟩ v) b n (fun j => if j = k then v else f j) := fun j hj => by
  obtain ⟨h1, h2⟩ := h j hj
  refine ⟨?_, by rw [World.frozen?_setCell]; exact h2⟩
  show _ = some (if j = k then v else f j)
  by_cases e : j = k
  · subst e
    rw [if_pos rfl]
    exact World.cell?_setCell_same _ _ _ h1
  · rw [if_neg e, World.cell?_setCell_other _ _ _ _ (by intro e'; injection e' with e1 e2; exact e e2.symm)]
    exact h1
theorem VB.sets {w : World} {b n o : Nat} {f : Nat → Value} (h : VB w b n f) (cs : List Value) (ho : o + cs.length ≤ n) : VB (w.setCells b o cs) b n (fun j => if o ≤ j ∧ j < o + cs.length then cs.getD (j - o) undef else f j) := fun j hj => by
  obtain ⟨h1, h2⟩ := h j hj
  refine ⟨?_, by rw [World.frozen?_setCells]; exact h2⟩
  show _ = some (if o ≤ j ∧ j < o + cs.length then cs.getD (j - o) undef else f j)
  by_cases e : o ≤ j ∧ j < o + cs.length
  · rw [if_pos e]
    obtain ⟨i, rfl⟩ : ∃ i, j = o + i := ⟨j - o, by omega⟩
    have hi : i < cs.length := by omega
    rw [World.cell?_setCells_in b cs o w (fun i hi' => by rw [(h (o + i) (by omega)).1]; rfl) i hi]
    simp [List.getD, hi]
  · rw [if_neg e, World.cell?_setCells_out b cs o w ⟨b, j, none⟩ (fun _ _ => by show j < o ∨ o + cs.length ≤ j; omega)]
    exact h1
theorem VB.there {w : World} {b n o k : Nat} {f : Nat → Value} (h : VB w b n f) (ho : o + k ≤ n) : w.there b o k := fun j hj => by
  obtain ⟨h1, h2⟩ := h (o + j) (by omega)
  exact ⟨by rw [h1]; rfl, h2⟩
theorem VB.range {w : World} {b n o : Nat} {f : Nat → Value} (h : VB w b n f) (cs : List Value) (ho : o + cs.length ≤ n) (hc : ∀ i, i < cs.length → cs[i]? = some (f (o + i))) : w.rangeAt b o cs := fun j v hv => by
  have hj : j < cs.length := (List.getElem?_eq_some_iff.1 hv).1
  rw [hc j hj] at hv
  obtain rfl := Option.some.inj hv
  exact (h (o + j) (by omega)).1
theorem VB.new (w : World) (C : Array Value) (t : TypeId) (n : Nat) (hn : C.size = n) (f : Nat → Value) (hf : ∀ j, j < n → C[j]? = some (f j)) : VB (w.alloc (.cells C t)) w.heap.size n f := fun j hj => by
  rw [cell_of_row _ _ j C t (0, 0) (heap_alloc_last w _), frozen_of_row _ _ j C t (heap_alloc_last w _)]
  exact ⟨hf j hj, rfl⟩

theorem there_new (w : World) (C : Array Value) (t : TypeId) (n : Nat) (hn : C.size = n) : (w.alloc (.cells C t)).there w.heap.size 0 n := fun j hj => by
  rw [Nat.zero_add, cell_of_row _ _ j C t (0, 0) (heap_alloc_last w _), frozen_of_row _ _ j C t (heap_alloc_last w _)]
  exact ⟨by rw [Array.getElem?_eq_getElem (by omega)]; rfl, rfl⟩
theorem new_range (w : World) (cs : List Value) (t : TypeId) : (w.alloc (.cells cs.toArray t)).rangeAt w.heap.size 0 cs := fun j v hv => by
  rw [Nat.zero_add, cell_of_row _ _ j cs.toArray t (0, 0) (heap_alloc_last w _)]
  simpa using hv

/-- A result that is a struct or an array in memory, and one beside it. -/
theorem results_range {P : Program} {fn : Func} {p u : Tmp} {ty : TypeId} (h : fn.results = #[.cell p ty, .tmp u]) (tmps : Array Value) (w : World) (b o : Nat) (cs : List Value) (d : TypeDesc)
    (hp : tmps.getD p undef = .pointer (some ⟨b, o, none⟩)) (hc : w.rangeAt b o cs) (hu : P.underlying ty = some d) (hd : d.isRow = true) (hi : (P.info? ty).map (·.size) = some cs.length) :
    (results fn tmps).run P w = .ok (.tuple #[.agg cs.toArray, tmps.getD u undef]) w := by
  rw [results_cell_tmp h, hp]
  simp [asAddr, run_loadVar_mid w b o ty cs d hc hu hd hi]
theorem results_range1 {P : Program} {fn : Func} {p : Tmp} {ty : TypeId} (h : fn.results = #[.cell p ty]) (tmps : Array Value) (w : World) (b o : Nat) (cs : List Value) (d : TypeDesc)
    (hp : tmps.getD p undef = .pointer (some ⟨b, o, none⟩)) (hc : w.rangeAt b o cs) (hu : P.underlying ty = some d) (hd : d.isRow = true) (hi : (P.info? ty).map (·.size) = some cs.length) :
    (results fn tmps).run P w = .ok (.agg cs.toArray) w := by
  have hp' : tmps[p]?.getD undef = .pointer (some ⟨b, o, none⟩) := by simpa using hp
  simp [results, h, hp', asAddr, run_loadVar_mid w b o ty cs d hc hu hd hi]

/-- In a region that draws, all of whose operations ahead of the tail stand still: a load of a whole struct or array. -/
theorem wpStill_load_mid {P : Program} {ops : Array Oper} {w : World} {Q : Act → Prop} {a : Act} {o : Oper} {rest : List Oper} (hgd : o.guard = none) (ty : TypeId) (x : Operand) (ho : o.op = .load ty x)
    (b k : Nat) (hx : a.eval x = .pointer (some ⟨b, k, none⟩)) (cs : List Value) (d : TypeDesc) (hc : w.rangeAt b k cs)
    (hu : P.underlying ty = some d) (hd : d.isRow = true) (hi : (P.info? ty).map (·.size) = some cs.length)
    (h : wpStill P ops w Q rest (a.put o.dst (.agg cs.toArray))) : wpStill P ops w Q (o :: rest) a := by
  refine wpStill_step fun K hK => ?_
  rw [if_pos (by unfold Region.wanted; rw [hgd])]
  unfold Oper.still execOp
  simp only [ho, hx, Instr.loadAt, Instr.sureAddr, Sem.run_bind, Sem.run_pure, Result.andThen_ok, run_loadVar_mid w b k ty cs d hc hu hd hi, Oper.stillUpon]
  exact ⟨trivial, hK _ h⟩

/-- copy of elements of whatever size: all is read before anything is written. -/
theorem run_copy_wide {P : Program} (w : World) (dT sT ty elem : TypeId) (b o dLen dCap : Nat) (a : Addr) (sLen sCap z n : Nat) (cs : List Value)
    (hu : P.underlying dT = some (.slice elem)) (hs : (P.info? elem).map (·.size) = some z) (hm : Nat.min sLen dLen = n) (hn : cs.length = n * z)
    (hsrc : ∀ j v, cs[j]? = some v → w.cell? (a.add j) = some v) (hc : w.there b o cs.length) (h1 : ∀ v ∈ cs, v.oneCell' = true) :
    (Builtin.copy_ #[dT, sT] ty #[.slice (some ⟨b, o, none⟩) dLen dCap, .slice (some a) sLen sCap]).run P w = .ok (goInt n) (w.setCells b o cs) := by
  have hl := run_loadCells_list (P := P) w a cs hsrc
  have hst := run_storeCells_cells (P := P) b o cs 0 w (fun j hj => by simpa using (hc j hj).1) (fun j hj => by simpa using (hc j hj).2) h1
  cases hq : P.info? elem with
  | none => simp [hq] at hs
  | some i =>
    have hi : i.size = z := by simpa [hq] using hs
    simp [Builtin.copy_, run_underlying hu, Builtin.lenOf, Builtin.firstCells, sizeOf, typeInfo, hq, hi, hm, ← hn, hl, hst]
/-- The operation copy, where its run is known. -/
theorem wpList_copy_known {P : Program} (w : World) {ops : Array Oper} {rest : List Oper} {o : Oper} {a : Act} {Q : Exit → Act → World → Prop} (hgd : o.guard = none) (d s : Operand) (t t' : TypeId)
    (ho : o.op = .call { callee := .builtin .copy, args := #[d, s], argTypes := #[t, t'] }) (v u : Value) (hd : a.eval d = v) (hs : a.eval s = u) {v' : Value} {w' : World}
    (hr : (Builtin.copy_ #[t, t'] o.type #[v, u]).run P w = .ok v' w') (h : wpList P ops Q rest (a.put o.dst v') w') : wpList P ops Q (o :: rest) a w :=
  wpList_plain hgd fun K hK => by
    unfold Oper.wp execOp
    simp only [ho, resolve, invoke, builtin, Sem.run_bind, Sem.run_pure, Result.andThen_ok, List.map_toArray, List.map_cons, List.map_nil, hd, hs, hr]
    exact hK _ _ h
end Go.Proofs.Ytfopmdiepaonnaa
