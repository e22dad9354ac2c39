/-
  Words of my own for memory: what one part of one block may have turned, and all else stands. Nothing of the program is named here.
-/
import Derived.WalkKit
import Derived.Below
import Derived.Laws.NewBlocks
import Derived.Deep.Draws
namespace Go.Proofs.Ytfopmdiepaonnaa
open Go.RowKit
set_option linter.unusedVariables false

/-- Of what there was in w, w' may differ from it in the cells lo to hi - 1 of block b alone; nothing has gone. -/
structure Keep (b lo hi : Nat) (w w' : World) : Prop where
  os : w'.os = w.os
  tape : w'.tape = w.tape
  output : w'.output = w.output
  size : w.heap.size ≤ w'.heap.size
  block : ∀ k, k < w.heap.size → k ≠ b → w'.heap[k]? = w.heap[k]?
  cell : ∀ j, (j < lo ∨ hi ≤ j) → w'.cell? ⟨b, j, none⟩ = w.cell? ⟨b, j, none⟩
  frozen : ∀ j, w'.frozen? ⟨b, j, none⟩ = w.frozen? ⟨b, j, none⟩
  home : b < w.heap.size

theorem Keep.refl {b : Nat} (lo hi : Nat) {w : World} (h : b < w.heap.size) : Keep b lo hi w w := ⟨rfl, rfl, rfl, Nat.le_refl _, fun _ _ _ => rfl, fun _ _ => rfl, fun _ => rfl, h⟩
theorem Keep.trans {b lo hi : Nat} {u v w : World} (h : Keep b lo hi u v) (k : Keep b lo hi v w) : Keep b lo hi u w :=
  ⟨k.os.trans h.os, k.tape.trans h.tape, k.output.trans h.output, Nat.le_trans h.size k.size, fun i hi hn => (k.block i (Nat.lt_of_lt_of_le hi h.size) hn).trans (h.block i hi hn),
    fun j hj => (k.cell j hj).trans (h.cell j hj), fun j => (k.frozen j).trans (h.frozen j), h.home⟩
theorem Keep.wider {b lo hi lo' hi' : Nat} {w w' : World} (h : Keep b lo hi w w') (h1 : lo' ≤ lo) (h2 : hi ≤ hi') : Keep b lo' hi' w w' :=
  ⟨h.os, h.tape, h.output, h.size, h.block, fun j hj => h.cell j (by omega), h.frozen, h.home⟩
theorem Keep.drew {b lo hi : Nat} {u w : World} (h : Keep b lo hi u w) : Keep b lo hi u w.drew := ⟨h.os, h.tape, h.output, h.size, h.block, h.cell, h.frozen, h.home⟩
theorem Keep.drewN {b lo hi : Nat} {u w : World} (h : Keep b lo hi u w) (n : Nat) : Keep b lo hi u (w.drewN n) := ⟨h.os, h.tape, h.output, h.size, h.block, h.cell, h.frozen, h.home⟩
theorem Keep.below {b lo hi : Nat} {u v w : World} (h : Keep b lo hi u v) (k : Below v.heap.size v w) : Keep b lo hi u w :=
  have hb : b < v.heap.size := Nat.lt_of_lt_of_le h.home h.size
  ⟨k.os.trans h.os, k.tape.trans h.tape, k.output.trans h.output, Nat.le_trans h.size k.size, fun i hi hn => (k.block i (Nat.lt_of_lt_of_le hi h.size)).trans (h.block i hi hn),
    fun j hj => (k.cell (p := ⟨b, j, none⟩) hb).trans (h.cell j hj), fun j => (k.frozen (p := ⟨b, j, none⟩) hb).trans (h.frozen j), h.home⟩
theorem Keep.alloc {b lo hi : Nat} {u w : World} (h : Keep b lo hi u w) (o : Obj) : Keep b lo hi u (w.alloc o) := h.below ((Below.refl _ _).alloc (Nat.le_refl _) o)
theorem frozen_setCell (w : World) (a : Addr) (v : Value) (p : Addr) : (w.setCell a v).frozen? p = w.frozen? p := by simp
theorem Keep.setCell {b lo hi : Nat} {u w : World} (h : Keep b lo hi u w) {j : Nat} (h1 : lo ≤ j) (h2 : j < hi) (v : Value) : Keep b lo hi u (w.setCell ⟨b, j, none⟩ v) :=
  h.trans ⟨rfl, rfl, rfl, by simp [World.setCell], fun k hk hn => Below.heap_setCell _ _ _ _ hn,
    fun i hi => World.cell?_setCell_other w ⟨b, j, none⟩ ⟨b, i, none⟩ v (fun e => by injection e; omega), fun i => frozen_setCell _ _ _ _, Nat.lt_of_lt_of_le h.home h.size⟩
/-- A store into a block that is new. -/
theorem Keep.setNew {b lo hi : Nat} {u w : World} (h : Keep b lo hi u w) {p : Addr} (hp : u.heap.size ≤ p.block) (v : Value) : Keep b lo hi u (w.setCell p v) :=
  have hb : b ≠ p.block := by have := h.home; omega
  ⟨h.os, h.tape, h.output, by simpa [World.setCell] using h.size, fun k hk hn => (Below.heap_setCell _ _ _ _ (by omega)).trans (h.block k hk hn),
    fun i hi => (World.cell?_setCell_other w p ⟨b, i, none⟩ v (fun e => hb (by rw [e]))).trans (h.cell i hi), fun i => (frozen_setCell _ _ _ _).trans (h.frozen i), h.home⟩
theorem Keep.toBelow {b lo hi B : Nat} {w w' : World} (h : Keep b lo hi w w') (hB : B ≤ b) : Below B w w' :=
  ⟨h.os, h.tape, h.output, h.size, fun k hk => h.block k (by have := h.home; omega) (by omega)⟩
theorem Keep.far {b lo hi : Nat} {w w' : World} (h : Keep b lo hi w w') {p : Addr} (hp : p.block < w.heap.size) (hn : p.block ≠ b) : w'.cell? p = w.cell? p := World.cell?_of_block (w := w) (h.block p.block hp hn)
theorem Keep.farFrozen {b lo hi : Nat} {w w' : World} (h : Keep b lo hi w w') {p : Addr} (hp : p.block < w.heap.size) (hn : p.block ≠ b) : w'.frozen? p = w.frozen? p := World.frozen?_of_block (w := w) (h.block p.block hp hn)

theorem lt_of_cell {w : World} {a : Addr} {v : Value} (h : w.cell? a = some v) : a.block < w.heap.size := by
  unfold World.cell? at h
  rcases Nat.lt_or_ge a.block w.heap.size with h' | h'
  · exact h'
  · rw [Array.getElem?_eq_none h'] at h
    cases h
end Go.Proofs.Ytfopmdiepaonnaa
