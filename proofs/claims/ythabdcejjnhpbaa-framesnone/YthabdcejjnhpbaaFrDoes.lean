/-
  Layer 4 (frames): the contract of the statements' deed (does), over the translated program.
-/
import Derived.Test.YthabdcejjnhpbaaFrLaw
import Derived.Deep.RegionHeld3
namespace Go.Proofs.Ythabdcejjnhpbaa
open Go.ChangeShapes Go.WideShapes Go.ChangeAt Go.RowKit
set_option linter.unusedVariables false

/-- The words behind a deed. -/
def dd (n : Nat) (xs : List Int) (K F A W : Int) : List Int :=
  if K = 0 ∨ K = 1 ∨ K = 2 then (if hasW n F A then xs.set (F.toNat * 16 + A.toNat) W else xs)
  else if K = 3 then (if hasF n F && hasF n A then layL xs (F.toNat * 16) (xs.drop (A.toNat * 16)) else xs)
  else if K = 4 then (if hasF n F then layL xs (F.toNat * 16) (pageL W) else xs)
  else xs
theorem dd_len (n : Nat) (xs : List Int) (K F A W : Int) : (dd n xs K F A W).length = xs.length := by
  unfold dd
  split
  · split
    · exact List.length_set
    · rfl
  · split
    · split
      · exact layL_len _ _ _
      · rfl
    · split
      · split
        · exact layL_len _ _ _
        · rfl
      · rfl
/-- A memory, the document's words beside it, both with the words xs; nothing but these has turned since w. -/
structure Both (w : World) (bm bp bx n : Nat) (xs : List Int) (w' : World) : Prop where
  mem : MemAt w' bm bp n xs
  blk : Blk w' bx xs
  but : But [bp, bx] w w'
theorem Both.keep {w W w' : World} {bm bp bx n : Nat} {xs : List Int} (h : Both w bm bp bx n xs W) (k : But [] W w') : Both w bm bp bx n xs w' :=
  ⟨h.mem.keep k (by simp) (by simp), h.blk.keep k (by simp), h.but.trans (k.wider (by simp))⟩
/-- The box of a deed lies in block g, which is new. -/
structure Box (w : World) (g : Nat) (K F A W : Int) (w' : World) : Prop where
  k : w'.cell? ⟨g, 0, none⟩ = some (.int .i64 K)
  f : w'.cell? ⟨g, 1, none⟩ = some (.int .i64 F)
  a : w'.cell? ⟨g, 2, none⟩ = some (.int .i64 A)
  w : w'.cell? ⟨g, 3, none⟩ = some (.int .u32 W)
theorem Box.keep {w W w' : World} {g : Nat} {K F A V : Int} {l : List Nat} (h : Box w g K F A V W) (k : But l W w') (hn : g ∉ l) : Box w g K F A V w' :=
  ⟨(k.cell (p := ⟨g, 0, none⟩) (lt_of_cell h.k) hn).trans h.k, (k.cell (p := ⟨g, 1, none⟩) (lt_of_cell h.f) hn).trans h.f, (k.cell (p := ⟨g, 2, none⟩) (lt_of_cell h.a) hn).trans h.a, (k.cell (p := ⟨g, 3, none⟩) (lt_of_cell h.w) hn).trans h.w⟩
theorem box_new (w : World) (K F A V : Int) (t : TypeId) : Box w w.heap.size K F A V (w.alloc (.cells #[.int .i64 K, .int .i64 F, .int .i64 A, .int .u32 V] t)) := by
  have h := heap_alloc_last w (.cells #[.int .i64 K, .int .i64 F, .int .i64 A, .int .u32 V] t)
  refine ⟨?_, ?_, ?_, ?_⟩ <;> (unfold World.cell?; rw [h]; rfl)

theorem at_any (A : Option Addr) (c n : Nat) (f a : Int) (w : World) (hn : n ≤ 256) :
    Calls Try.prog 20 #[.slice A (16 * n) c, .int .i64 f, .int .i64 a] w fun e w' => (∃ r, e = .returned (.int .i64 r)) ∧ w = w' := by
  cases hw : hasW n f a with
  | false => exact (at_no A c n f a w hn hw).mono fun e w' ⟨h1, h2⟩ => ⟨⟨_, h1⟩, h2⟩
  | true =>
    simp only [hasW, decide_eq_true_eq] at hw
    obtain ⟨f', rfl⟩ : ∃ f' : Nat, f = f' := ⟨f.toNat, by omega⟩
    obtain ⟨a', rfl⟩ : ∃ a' : Nat, a = a' := ⟨a.toNat, by omega⟩
    exact (at_c A c n f' a' w hn (by omega) (by omega)).mono fun e w' ⟨h1, h2⟩ => ⟨⟨_, h1⟩, h2⟩

set_option maxHeartbeats 2000000 in
theorem does_put (bm bp bx n c : Nat) (xs : List Int) (K : Int) (hK : K = 0 ∨ K = 1 ∨ K = 2) (f a : Nat) (hf : f < n) (ha : a < 16) (W : Int) (w : World) (h : MemAt w bm bp n xs) (hb : Blk w bx xs) (h1 : bx ≠ bp) (h2 : bx ≠ bm) :
    Calls Try.prog 8 #[.pointer (some ⟨bm, 0, none⟩), .slice (some ⟨bx, 0, none⟩) (16 * n) c, .agg #[.int .i64 K, .int .i64 (f : Int), .int .i64 (a : Int), .int .u32 W]] w fun e w' =>
      e = .returned (.bool true) ∧ Both w bm bp bx n (xs.set (f * 16 + a) W) w' := by
  have hn := h.most
  have hxl : bx < w.heap.size := hb.lt (by have := h.len; have := h.pos; omega)
  obtain ⟨hbm, hbp⟩ := h.lt
  have HB : Hid (Both w bm bp bx n xs (w.alloc (.cells #[.int .i64 K, .int .i64 (f : Int), .int .i64 (a : Int), .int .u32 W] 30))) := (Both.mk h hb (But.refl _ _)).keep ((But.refl [] w).alloc _)
  have HX : Hid (Box w w.heap.size K (f : Int) (a : Int) W (w.alloc (.cells #[.int .i64 K, .int .i64 (f : Int), .int .i64 (a : Int), .int .u32 W] 30))) := box_new _ _ _ _ _ _
  have HL : Hid (xs.length = 16 * n) := h.len
  clear h hb
  obtain ⟨g, hg⟩ : ∃ g, g = w.heap.size := ⟨_, rfl⟩
  have hgx : g ≠ bx := by omega
  have hgp : g ≠ bp := by omega
  have hgm : g ≠ bm := by omega
  have HG : Hid (g = w.heap.size) := hg
  have hkl : f * 16 + a < xs.length := by have := HL.out; omega
  go_enter Try.func8, Try.ntmps8
  go_wp2_with fail
  refine (at_c _ c n f a _ hn hf ha).mono ?_
  rintro e w1 ⟨rfl, hw⟩
  rw [hw] at HB HX
  clear hw
  rw [← hg] at HX ⊢
  have hX := HX.out
  obtain ⟨hx0, hx1, hx2, hx3⟩ := hX
  obtain ⟨hc2, hz2⟩ := HB.out.blk (f * 16 + a) hkl
  obtain ⟨q2, hq2⟩ : ∃ q, q = xs.getD (f * 16 + a) 0 := ⟨_, rfl⟩
  rw [← hq2, Nat.mul_comm f 16] at hc2
  rw [Nat.mul_comm f 16] at hz2
  have HS : Hid (MemAt (w1.setCell ⟨bx, 16 * f + a, none⟩ (.int .u32 W)) bm bp n xs ∧ Blk (w1.setCell ⟨bx, 16 * f + a, none⟩ (.int .u32 W)) bx (xs.set (f * 16 + a) W) ∧ But [bp, bx] w (w1.setCell ⟨bx, 16 * f + a, none⟩ (.int .u32 W)) ∧ Box w g K f a W (w1.setCell ⟨bx, 16 * f + a, none⟩ (.int .u32 W))) := by
    have k : But [bx] w1 (w1.setCell ⟨bx, 16 * f + a, none⟩ (.int .u32 W)) := (But.refl _ _).setCell (by simp) _
    refine ⟨HB.out.mem.keep k (by simpa using h2.symm) (by simpa using h1.symm), ?_, HB.out.but.trans (k.wider (by simp)), HX.out.keep k (by simpa using hgx)⟩
    rw [Nat.mul_comm 16 f]
    exact HB.out.blk.set hkl W
  have hS := HS.out
  obtain ⟨-, -, -, hy0, hy1, hy2, hy3⟩ := hS
  clear hq2 hg
  rcases hK with rfl | rfl | rfl
  all_goals
    go_wp2_with fail
    refine (put_c bm bp n f a W xs _ HS.out.1 hf ha).mono ?_
    rintro e w3 ⟨rfl, m3, k3⟩
    have HE : Hid (Both w bm bp bx n (xs.set (f * 16 + a) W) w3) := ⟨m3, HS.out.2.1.keep k3 (by simpa using h1), HS.out.2.2.1.trans (k3.wider (by simp))⟩
    clear m3 k3
    go_wp2
    go_ret
    exact ⟨rfl, HE.out⟩
set_option maxHeartbeats 2000000 in
theorem does_putno (bm bp bx n c : Nat) (xs : List Int) (K : Int) (hK : K = 0 ∨ K = 1 ∨ K = 2) (F A : Int) (hw : hasW n F A = false) (W : Int) (w : World) (h : MemAt w bm bp n xs) (hb : Blk w bx xs) (h1 : bx ≠ bp) (h2 : bx ≠ bm) :
    Calls Try.prog 8 #[.pointer (some ⟨bm, 0, none⟩), .slice (some ⟨bx, 0, none⟩) (16 * n) c, .agg #[.int .i64 K, .int .i64 F, .int .i64 A, .int .u32 W]] w fun e w' =>
      e = .returned (.bool true) ∧ Both w bm bp bx n (xs) w' := by
  have hn := h.most
  have hxl : bx < w.heap.size := hb.lt (by have := h.len; have := h.pos; omega)
  obtain ⟨hbm, hbp⟩ := h.lt
  have HB : Hid (Both w bm bp bx n xs (w.alloc (.cells #[.int .i64 K, .int .i64 F, .int .i64 A, .int .u32 W] 30))) := (Both.mk h hb (But.refl _ _)).keep ((But.refl [] w).alloc _)
  have HX : Hid (Box w w.heap.size K F A W (w.alloc (.cells #[.int .i64 K, .int .i64 F, .int .i64 A, .int .u32 W] 30))) := box_new _ _ _ _ _ _
  have HL : Hid (xs.length = 16 * n) := h.len
  clear h hb
  obtain ⟨g, hg⟩ : ∃ g, g = w.heap.size := ⟨_, rfl⟩
  have hgx : g ≠ bx := by omega
  have hgp : g ≠ bp := by omega
  have hgm : g ≠ bm := by omega
  have HG : Hid (g = w.heap.size) := hg
  have HW : Hid (hasW n F A = false) := hw
  clear hw
  go_enter Try.func8, Try.ntmps8
  go_wp2_with fail
  refine (at_no _ c n F A _ hn HW.out).mono ?_
  rintro e w1 ⟨rfl, hw⟩
  rw [hw] at HB HX
  clear hw
  rw [← hg] at HX ⊢
  have hX := HX.out
  obtain ⟨hx0, hx1, hx2, hx3⟩ := hX
  clear hg
  rcases hK with rfl | rfl | rfl
  all_goals
    go_wp2_with fail
    refine (put_no bm bp n F A W xs _ HB.out.mem HW.out).mono ?_
    rintro e w3 ⟨rfl, rfl⟩
    go_wp2
    go_ret
    exact ⟨rfl, HB.out⟩
set_option maxHeartbeats 2000000 in
theorem does_else (bm bp bx n c : Nat) (xs : List Int) (K F A : Int) (hK : ¬ (K = 0 ∨ K = 1 ∨ K = 2 ∨ K = 3 ∨ K = 4)) (W : Int) (w : World) (h : MemAt w bm bp n xs) (hb : Blk w bx xs) (h1 : bx ≠ bp) (h2 : bx ≠ bm) :
    Calls Try.prog 8 #[.pointer (some ⟨bm, 0, none⟩), .slice (some ⟨bx, 0, none⟩) (16 * n) c, .agg #[.int .i64 K, .int .i64 F, .int .i64 A, .int .u32 W]] w fun e w' =>
      e = .returned (.bool true) ∧ Both w bm bp bx n (xs) w' := by
  have hn := h.most
  have hxl : bx < w.heap.size := hb.lt (by have := h.len; have := h.pos; omega)
  obtain ⟨hbm, hbp⟩ := h.lt
  have HB : Hid (Both w bm bp bx n xs (w.alloc (.cells #[.int .i64 K, .int .i64 F, .int .i64 A, .int .u32 W] 30))) := (Both.mk h hb (But.refl _ _)).keep ((But.refl [] w).alloc _)
  have HX : Hid (Box w w.heap.size K F A W (w.alloc (.cells #[.int .i64 K, .int .i64 F, .int .i64 A, .int .u32 W] 30))) := box_new _ _ _ _ _ _
  have HL : Hid (xs.length = 16 * n) := h.len
  clear h hb
  obtain ⟨g, hg⟩ : ∃ g, g = w.heap.size := ⟨_, rfl⟩
  have hgx : g ≠ bx := by omega
  have hgp : g ≠ bp := by omega
  have hgm : g ≠ bm := by omega
  have HG : Hid (g = w.heap.size) := hg
  go_enter Try.func8, Try.ntmps8
  go_wp2_with fail
  refine (at_any _ c n F A _ hn).mono ?_
  rintro e w1 ⟨⟨r, rfl⟩, hw⟩
  rw [hw] at HB HX
  clear hw
  rw [← hg] at HX ⊢
  have hX := HX.out
  obtain ⟨hx0, hx1, hx2, hx3⟩ := hX
  clear hg
  have e0 : (K == 0) = false := by simp; omega
  have e1 : (K == 1) = false := by simp; omega
  have e2 : (K == 2) = false := by simp; omega
  have e3 : (K == 3) = false := by simp; omega
  have e4 : (K == 4) = false := by simp; omega
  clear hK
  go_wp2
  go_ret
  exact ⟨rfl, HB.out⟩
end Go.Proofs.Ythabdcejjnhpbaa
