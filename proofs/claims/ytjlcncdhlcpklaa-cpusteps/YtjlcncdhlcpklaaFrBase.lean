/-
  Layer 4 (frames): how a memory lies in the machine's memory; contracts of Len, has, hasWord, Get, over the translated program.
-/
import Derived.Test.YtjlcncdhlcpklaaProg
import Derived.Test.YtjlcncdhlcpklaaBut
namespace Go.Proofs.Ytjlcncdhlcpklaa.Fr
open Go.ChangeShapes Go.WideShapes Go.ChangeAt Go.RowKit
set_option linter.unusedVariables false
set_option maxRecDepth 20000

/-- Block b begins with the words xs, and they may be written. -/
def Blk (w : World) (b : Nat) (xs : List Int) : Prop := ∀ j, j < xs.length → w.cell? ⟨b, j, none⟩ = some (.int .u32 (xs.getD j 0)) ∧ w.frozen? ⟨b, j, none⟩ = false
theorem Blk.lt {w : World} {b : Nat} {xs : List Int} (h : Blk w b xs) (hx : 0 < xs.length) : b < w.heap.size := lt_of_cell (h 0 hx).1
theorem Blk.keep {l : List Nat} {w w' : World} {b : Nat} {xs : List Int} (h : Blk w b xs) (hk : But l w w') (hn : b ∉ l) : Blk w' b xs := fun j hj => by
  obtain ⟨h1, h2⟩ := h j hj
  have hb : b < w.heap.size := lt_of_cell h1
  exact ⟨(hk.cell (p := ⟨b, j, none⟩) hb hn).trans h1, (hk.frozen (p := ⟨b, j, none⟩) hb hn).trans h2⟩

/-- A memory of n frames with the words xs: its struct is block bm, its pages are block bp. -/
structure MemAt (w : World) (bm bp n : Nat) (xs : List Int) : Prop where
  head : ∃ cap, w.cell? ⟨bm, 0, none⟩ = some (.slice (some ⟨bp, 0, none⟩) n cap)
  apart : bm ≠ bp
  len : xs.length = 16 * n
  pos : 0 < n
  most : n ≤ 256
  blk : Blk w bp xs
theorem MemAt.lt {w : World} {bm bp n : Nat} {xs : List Int} (h : MemAt w bm bp n xs) : bm < w.heap.size ∧ bp < w.heap.size :=
  ⟨by obtain ⟨c, hc⟩ := h.head; exact lt_of_cell hc, h.blk.lt (by have := h.len; have := h.pos; omega)⟩
theorem MemAt.keep {l : List Nat} {w w' : World} {bm bp n : Nat} {xs : List Int} (h : MemAt w bm bp n xs) (hk : But l w w') (h1 : bm ∉ l) (h2 : bp ∉ l) : MemAt w' bm bp n xs :=
  ⟨by obtain ⟨c, hc⟩ := h.head; exact ⟨c, (hk.cell (p := ⟨bm, 0, none⟩) (lt_of_cell hc) h1).trans hc⟩, h.apart, h.len, h.pos, h.most, h.blk.keep hk h2⟩

theorem len_c (bm bp n : Nat) (xs : List Int) (w : World) (h : MemAt w bm bp n xs) :
    Calls Try.prog 30 #[.pointer (some ⟨bm, 0, none⟩)] w fun e w' => e = .returned (.int .i64 n) ∧ w = w' := by
  obtain ⟨cap, hc⟩ := h.head
  clear h
  go_enter Try.func30, Try.ntmps30
  go_wp2
  go_ret
  exact ⟨rfl, rfl⟩
theorem len_nil (w : World) :
    Calls Try.prog 30 #[.pointer none] w fun e w' => e = .returned (.int .i64 0) ∧ w = w' := by
  go_enter Try.func30, Try.ntmps30
  go_wp2
  go_ret
  exact ⟨rfl, rfl⟩

/-- Is there such a frame? -/
def hasF (n : Nat) (f : Int) : Bool := decide (0 ≤ f ∧ f < n)
theorem has_c (bm bp n : Nat) (xs : List Int) (f : Int) (w : World) (h : MemAt w bm bp n xs) :
    Calls Try.prog 33 #[.pointer (some ⟨bm, 0, none⟩), .int .i64 f] w fun e w' => e = .returned (.bool (hasF n f)) ∧ w = w' := by
  have H : Hid (MemAt w bm bp n xs) := h
  clear h
  go_enter Try.func33, Try.ntmps33
  by_cases h0 : 0 ≤ f
  · go_wp2_with fail
    refine (len_c bm bp n xs _ H.out).mono ?_
    rintro e w1 ⟨rfl, rfl⟩
    go_wp2
    go_ret
    exact ⟨by simp [hasF, h0], rfl⟩
  · have hf : hasF n f = false := by simp [hasF]; omega
    rw [hf]
    go_wp2
    go_ret
    exact ⟨rfl, rfl⟩
theorem has_nil (f : Int) (w : World) :
    Calls Try.prog 33 #[.pointer none, .int .i64 f] w fun e w' => e = .returned (.bool false) ∧ w = w' := by
  go_enter Try.func33, Try.ntmps33
  by_cases h0 : 0 ≤ f
  · go_wp2_with fail
    refine (len_nil _).mono ?_
    rintro e w1 ⟨rfl, rfl⟩
    go_wp2
    go_ret
    exact ⟨by simp; omega, rfl⟩
  · go_wp2
    go_ret
    exact ⟨rfl, rfl⟩
/-- Is there such a word? -/
def hasW (n : Nat) (f a : Int) : Bool := decide ((0 ≤ f ∧ f < n) ∧ 0 ≤ a ∧ a < 16)
theorem hasWord_c (bm bp n : Nat) (xs : List Int) (f a : Int) (w : World) (h : MemAt w bm bp n xs) :
    Calls Try.prog 34 #[.pointer (some ⟨bm, 0, none⟩), .int .i64 f, .int .i64 a] w fun e w' => e = .returned (.bool (hasW n f a)) ∧ w = w' := by
  have H : Hid (MemAt w bm bp n xs) := h
  clear h
  go_enter Try.func34, Try.ntmps34
  go_wp2_with fail
  refine (has_c bm bp n xs _ _ H.out).mono ?_
  rintro e w1 ⟨rfl, rfl⟩
  by_cases hf : 0 ≤ f ∧ f < n
  · rw [show hasF n f = true by simpa [hasF] using hf]
    by_cases h0 : 0 ≤ a
    · go_wp2
      go_ret
      exact ⟨by simp [hasW, hf, h0], rfl⟩
    · have ha : hasW n f a = false := by simp [hasW]; omega
      go_wp2
      go_ret
      exact ⟨rfl, rfl⟩
  · rw [show hasF n f = false by simpa [hasF] using hf]
    have ha : hasW n f a = false := by simp [hasW]; omega
    go_wp2
    go_ret
    exact ⟨by rw [ha]; rfl, rfl⟩
theorem hasWord_nil (f a : Int) (w : World) :
    Calls Try.prog 34 #[.pointer none, .int .i64 f, .int .i64 a] w fun e w' => e = .returned (.bool false) ∧ w = w' := by
  go_enter Try.func34, Try.ntmps34
  go_wp2_with fail
  refine (has_nil _ _).mono ?_
  rintro e w1 ⟨rfl, rfl⟩
  go_wp2
  go_ret
  exact ⟨rfl, rfl⟩
end Go.Proofs.Ytjlcncdhlcpklaa.Fr
