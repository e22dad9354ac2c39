/-
  Layer 4 (frames): how a memory lies in the machine's memory; contracts of Len, has, hasWord, Get, over the translated program.
-/
import Derived.Test.YthabdcejjnhpbaaProg
import Derived.WalkKit
import Derived.ProofKit
import Derived.OpenShut
import Derived.Below
import Derived.OwnWalk
import Derived.Deep.OwnRows
import Derived.Deep.Draws
import Derived.Deep.MidRow
import Derived.Deep.QuietTactic
import Derived.BigQuiet
import Derived.WalkSpells
import Derived.WalkSmall
namespace Go.Proofs.Ythabdcejjnhpbaa
open Go.ChangeShapes Go.WideShapes Go.ChangeAt Go.RowKit
set_option linter.unusedVariables false

/-- Of the blocks of w all but those of l are in w' as they were; nothing has gone. -/
structure But (l : List Nat) (w w' : World) : Prop where
  os : w'.os = w.os
  tape : w'.tape = w.tape
  output : w'.output = w.output
  size : w.heap.size ≤ w'.heap.size
  block : ∀ k, k < w.heap.size → k ∉ l → w'.heap[k]? = w.heap[k]?
theorem But.refl (l : List Nat) (w : World) : But l w w := ⟨rfl, rfl, rfl, Nat.le_refl _, fun _ _ _ => rfl⟩
theorem But.trans {l : List Nat} {u v w : World} (h : But l u v) (k : But l v w) : But l u w :=
  ⟨k.os.trans h.os, k.tape.trans h.tape, k.output.trans h.output, Nat.le_trans h.size k.size, fun i hi hn => (k.block i (Nat.lt_of_lt_of_le hi h.size) hn).trans (h.block i hi hn)⟩
theorem But.wider {l l' : List Nat} {w w' : World} (h : But l w w') (hl : ∀ k, k ∈ l → k ∈ l') : But l' w w' := ⟨h.os, h.tape, h.output, h.size, fun k hk hn => h.block k hk (fun hm => hn (hl k hm))⟩
/-- New blocks may be struck from the list. -/
theorem But.strike {l l' : List Nat} {w w' : World} (h : But l w w') (hl : ∀ k, k ∈ l → k < w.heap.size → k ∈ l') : But l' w w' := ⟨h.os, h.tape, h.output, h.size, fun k hk hn => h.block k hk (fun hm => hn (hl k hm hk))⟩
theorem But.drew {l : List Nat} {u w : World} (h : But l u w) : But l u w.drew := ⟨h.os, h.tape, h.output, h.size, h.block⟩
theorem But.drewN {l : List Nat} {u w : World} (h : But l u w) (n : Nat) : But l u (w.drewN n) := ⟨h.os, h.tape, h.output, h.size, h.block⟩
theorem But.alloc {l : List Nat} {u w : World} (h : But l u w) (o : Obj) : But l u (w.alloc o) :=
  h.trans ⟨rfl, rfl, rfl, by simp, fun k hk _ => Below.heap_alloc _ _ _ hk⟩
theorem But.setCell {l : List Nat} {u w : World} (h : But l u w) {p : Addr} (hp : p.block ∈ l ∨ u.heap.size ≤ p.block) (v : Value) : But l u (w.setCell p v) :=
  ⟨h.os, h.tape, h.output, by simpa [World.setCell] using h.size, fun k hk hn => (Below.heap_setCell _ _ _ _ (fun e => by subst e; rcases hp with hp | hp; exact hn hp; omega)).trans (h.block k hk hn)⟩
theorem But.setCells {l : List Nat} {u : World} {b : Nat} (hp : b ∈ l ∨ u.heap.size ≤ b) : ∀ (vs : List Value) (o : Nat) {w : World}, But l u w → But l u (w.setCells b o vs)
  | [], _, _, h => h
  | v :: r, o, w, h => But.setCells hp r (o + 1) (h.setCell (p := ⟨b, o, none⟩) hp v)
theorem But.below {l : List Nat} {w w' : World} {B : Nat} (h : But l w w') (hB : B ≤ w.heap.size) (hl : ∀ k ∈ l, B ≤ k) : Below B w w' :=
  ⟨h.os, h.tape, h.output, h.size, fun k hk => h.block k (by omega) (fun hm => by have := hl k hm; omega)⟩
theorem But.of_below {l : List Nat} {w w' : World} (h : Below w.heap.size w w') : But l w w' := ⟨h.os, h.tape, h.output, h.size, fun k hk _ => h.block k hk⟩
theorem But.grown {l : List Nat} {u w w' : World} {row : Option Nat} (h : But l u w) (hg : w.grownBy w' row) (hr : ∀ k, row = some k → k ∈ l ∨ u.heap.size ≤ k) : But l u w' :=
  ⟨hg.os.trans h.os, hg.tape.trans h.tape, hg.output.trans h.output, Nat.le_trans h.size hg.size, fun k hk hn =>
    (hg.block k (Nat.lt_of_lt_of_le hk h.size) (fun e => by rcases hr k e.symm with hm | hm; exact hn hm; omega)).trans (h.block k hk hn)⟩
theorem But.cell {l : List Nat} {w w' : World} (h : But l w w') {p : Addr} (hp : p.block < w.heap.size) (hn : p.block ∉ l) : w'.cell? p = w.cell? p := World.cell?_of_block (w := w) (h.block p.block hp hn)
theorem But.frozen {l : List Nat} {w w' : World} (h : But l w w') {p : Addr} (hp : p.block < w.heap.size) (hn : p.block ∉ l) : w'.frozen? p = w.frozen? p := World.frozen?_of_block (w := w) (h.block p.block hp hn)

theorem lt_of_cell {w : World} {a : Addr} {v : Value} (h : w.cell? a = some v) : a.block < w.heap.size := by
  unfold World.cell? at h
  rcases Nat.lt_or_ge a.block w.heap.size with h' | h'
  · exact h'
  · rw [Array.getElem?_eq_none h'] at h
    cases h

/-- Block b begins with the words xs, and they may be written. -/
def Blk (w : World) (b : Nat) (xs : List Int) : Prop := ∀ j, j < xs.length → w.cell? ⟨b, j, none⟩ = some (.int .u32 (xs.getD j 0)) ∧ w.frozen? ⟨b, j, none⟩ = false
theorem Blk.lt {w : World} {b : Nat} {xs : List Int} (h : Blk w b xs) (hx : 0 < xs.length) : b < w.heap.size := lt_of_cell (h 0 hx).1
theorem Blk.keep {l : List Nat} {w w' : World} {b : Nat} {xs : List Int} (h : Blk w b xs) (hk : But l w w') (hn : b ∉ l) : Blk w' b xs := fun j hj => by
  obtain ⟨h1, h2⟩ := h j hj
  have hb : b < w.heap.size := lt_of_cell h1
  exact ⟨(hk.cell (p := ⟨b, j, none⟩) hb hn).trans h1, (hk.frozen (p := ⟨b, j, none⟩) hb hn).trans h2⟩

/-- A memory of n frames with the words xs: its struct is block bm, its pages are block bp. -/
structure MemAt (w : World) (bm bp n : Nat) (xs : List Int) : Prop where
  head : ∃ cap, w.cell? ⟨bm, 0, none⟩ = some (.slice (some ⟨bp, 0, none⟩) n cap)
  apart : bm ≠ bp
  len : xs.length = 16 * n
  pos : 0 < n
  most : n ≤ 256
  blk : Blk w bp xs
theorem MemAt.lt {w : World} {bm bp n : Nat} {xs : List Int} (h : MemAt w bm bp n xs) : bm < w.heap.size ∧ bp < w.heap.size :=
  ⟨by obtain ⟨c, hc⟩ := h.head; exact lt_of_cell hc, h.blk.lt (by have := h.len; have := h.pos; omega)⟩
theorem MemAt.keep {l : List Nat} {w w' : World} {bm bp n : Nat} {xs : List Int} (h : MemAt w bm bp n xs) (hk : But l w w') (h1 : bm ∉ l) (h2 : bp ∉ l) : MemAt w' bm bp n xs :=
  ⟨by obtain ⟨c, hc⟩ := h.head; exact ⟨c, (hk.cell (p := ⟨bm, 0, none⟩) (lt_of_cell hc) h1).trans hc⟩, h.apart, h.len, h.pos, h.most, h.blk.keep hk h2⟩

theorem len_c (bm bp n : Nat) (xs : List Int) (w : World) (h : MemAt w bm bp n xs) :
    Calls Try.prog 19 #[.pointer (some ⟨bm, 0, none⟩)] w fun e w' => e = .returned (.int .i64 n) ∧ w = w' := by
  obtain ⟨cap, hc⟩ := h.head
  clear h
  go_enter Try.func19, Try.ntmps19
  go_wp2
  go_ret
  exact ⟨rfl, rfl⟩
theorem len_nil (w : World) :
    Calls Try.prog 19 #[.pointer none] w fun e w' => e = .returned (.int .i64 0) ∧ w = w' := by
  go_enter Try.func19, Try.ntmps19
  go_wp2
  go_ret
  exact ⟨rfl, rfl⟩

/-- Is there such a frame? -/
def hasF (n : Nat) (f : Int) : Bool := decide (0 ≤ f ∧ f < n)
theorem has_c (bm bp n : Nat) (xs : List Int) (f : Int) (w : World) (h : MemAt w bm bp n xs) :
    Calls Try.prog 24 #[.pointer (some ⟨bm, 0, none⟩), .int .i64 f] w fun e w' => e = .returned (.bool (hasF n f)) ∧ w = w' := by
  have H : Hid (MemAt w bm bp n xs) := h
  clear h
  go_enter Try.func24, Try.ntmps24
  by_cases h0 : 0 ≤ f
  · go_wp2_with fail
    refine (len_c bm bp n xs _ H.out).mono ?_
    rintro e w1 ⟨rfl, rfl⟩
    go_wp2
    go_ret
    exact ⟨by simp [hasF, h0], rfl⟩
  · have hf : hasF n f = false := by simp [hasF]; omega
    rw [hf]
    go_wp2
    go_ret
    exact ⟨rfl, rfl⟩
theorem has_nil (f : Int) (w : World) :
    Calls Try.prog 24 #[.pointer none, .int .i64 f] w fun e w' => e = .returned (.bool false) ∧ w = w' := by
  go_enter Try.func24, Try.ntmps24
  by_cases h0 : 0 ≤ f
  · go_wp2_with fail
    refine (len_nil _).mono ?_
    rintro e w1 ⟨rfl, rfl⟩
    go_wp2
    go_ret
    exact ⟨by simp; omega, rfl⟩
  · go_wp2
    go_ret
    exact ⟨rfl, rfl⟩
/-- Is there such a word? -/
def hasW (n : Nat) (f a : Int) : Bool := decide ((0 ≤ f ∧ f < n) ∧ 0 ≤ a ∧ a < 16)
theorem hasWord_c (bm bp n : Nat) (xs : List Int) (f a : Int) (w : World) (h : MemAt w bm bp n xs) :
    Calls Try.prog 23 #[.pointer (some ⟨bm, 0, none⟩), .int .i64 f, .int .i64 a] w fun e w' => e = .returned (.bool (hasW n f a)) ∧ w = w' := by
  have H : Hid (MemAt w bm bp n xs) := h
  clear h
  go_enter Try.func23, Try.ntmps23
  go_wp2_with fail
  refine (has_c bm bp n xs _ _ H.out).mono ?_
  rintro e w1 ⟨rfl, rfl⟩
  by_cases hf : 0 ≤ f ∧ f < n
  · rw [show hasF n f = true by simpa [hasF] using hf]
    by_cases h0 : 0 ≤ a
    · go_wp2
      go_ret
      exact ⟨by simp [hasW, hf, h0], rfl⟩
    · have ha : hasW n f a = false := by simp [hasW]; omega
      go_wp2
      go_ret
      exact ⟨rfl, rfl⟩
  · rw [show hasF n f = false by simpa [hasF] using hf]
    have ha : hasW n f a = false := by simp [hasW]; omega
    go_wp2
    go_ret
    exact ⟨by rw [ha]; rfl, rfl⟩
theorem hasWord_nil (f a : Int) (w : World) :
    Calls Try.prog 23 #[.pointer none, .int .i64 f, .int .i64 a] w fun e w' => e = .returned (.bool false) ∧ w = w' := by
  go_enter Try.func23, Try.ntmps23
  go_wp2_with fail
  refine (has_nil _ _).mono ?_
  rintro e w1 ⟨rfl, rfl⟩
  go_wp2
  go_ret
  exact ⟨rfl, rfl⟩
end Go.Proofs.Ythabdcejjnhpbaa
