/-
  Layer 4 (frames): the contract of the statements' deed (does), over the translated program: Copy and Lay.
-/
import Derived.Test.YthabdcejjnhpbaaFrDoes
namespace Go.Proofs.Ythabdcejjnhpbaa
open Go.ChangeShapes Go.WideShapes Go.ChangeAt Go.RowKit
set_option linter.unusedVariables false

/-- A memory with the words xs, the document's words beside it, ys; nothing but these has turned since w. -/
structure Half (w : World) (bm bp bx n : Nat) (xs ys : List Int) (w' : World) : Prop where
  mem : MemAt w' bm bp n xs
  blk : Blk w' bx ys
  but : But [bp, bx] w w'
theorem Half.keep {w W w' : World} {bm bp bx n : Nat} {xs ys : List Int} (h : Half w bm bp bx n xs ys W) (k : But [] W w') : Half w bm bp bx n xs ys w' :=
  ⟨h.mem.keep k (by simp) (by simp), h.blk.keep k (by simp), h.but.trans (k.wider (by simp))⟩
theorem two_keep {W w' : World} {g p q : Nat} {u v : Value} {l : List Nat} (h : W.cell? ⟨g, p, none⟩ = some u ∧ W.cell? ⟨g, q, none⟩ = some v) (k : But l W w') (hn : g ∉ l) : w'.cell? ⟨g, p, none⟩ = some u ∧ w'.cell? ⟨g, q, none⟩ = some v :=
  ⟨(k.cell (p := ⟨g, p, none⟩) (lt_of_cell h.1) hn).trans h.1, (k.cell (p := ⟨g, q, none⟩) (lt_of_cell h.2) hn).trans h.2⟩

set_option maxHeartbeats 2000000 in
theorem does_copy (bm bp bx n c : Nat) (xs : List Int) (f a : Nat) (hf : f < n) (ha : a < n) (W : Int) (w : World) (h : MemAt w bm bp n xs) (hb : Blk w bx xs) (h1 : bx ≠ bp) (h2 : bx ≠ bm) :
    Calls Try.prog 8 #[.pointer (some ⟨bm, 0, none⟩), .slice (some ⟨bx, 0, none⟩) (16 * n) c, .agg #[.int .i64 3, .int .i64 (f : Int), .int .i64 (a : Int), .int .u32 W]] w fun e w' =>
      e = .returned (.bool true) ∧ Both w bm bp bx n (layL xs (f * 16) (xs.drop (a * 16))) w' := by
  have hn := h.most
  have hxl : bx < w.heap.size := hb.lt (by have := h.len; have := h.pos; omega)
  obtain ⟨hbm, hbp⟩ := h.lt
  have HB : Hid (Both w bm bp bx n xs (w.alloc (.cells #[.int .i64 3, .int .i64 (f : Int), .int .i64 (a : Int), .int .u32 W] 30))) := (Both.mk h hb (But.refl _ _)).keep ((But.refl [] w).alloc _)
  have HX : Hid (Box w w.heap.size 3 (f : Int) (a : Int) W (w.alloc (.cells #[.int .i64 3, .int .i64 (f : Int), .int .i64 (a : Int), .int .u32 W] 30))) := box_new _ _ _ _ _ _
  have HL : Hid (xs.length = 16 * n) := h.len
  clear h hb
  obtain ⟨g, hg⟩ : ∃ g, g = w.heap.size := ⟨_, rfl⟩
  have hgx : g ∉ [bx] := by simp; omega
  have hgp : g ∉ [bp] := by simp; omega
  have hxp : bx ∉ [bp] := by simpa using h1
  go_enter Try.func8, Try.ntmps8
  go_wp2_with fail
  refine (at_any _ c n _ _ _ hn).mono ?_
  rintro e w1 ⟨⟨r, rfl⟩, hw⟩
  rw [hw] at HB HX
  clear hw
  rw [← hg] at HX ⊢
  have hX := HX.out
  obtain ⟨hx0, hx1, hx2, hx3⟩ := hX
  have HD : Hid (Both w bm bp bx n xs w1.drew) := HB.out.keep (But.refl [] _).drew
  have hS : w1.drew.cell? ⟨g, 1, none⟩ = some (.int .i64 f) ∧ w1.drew.cell? ⟨g, 2, none⟩ = some (.int .i64 a) := ⟨hx1, hx2⟩
  clear hg
  go_wp2
  go_region_held3 (fun w' => w'.cell? ⟨g, 1, none⟩ = some (.int .i64 f) ∧ w'.cell? ⟨g, 2, none⟩ = some (.int .i64 a))
    (first | exact hS | exact two_keep (by assumption) (by assumption) hgp | exact two_keep (by assumption) (by assumption) hgx)
    (first
      | (go_at_call 18; refine (copy_c bm bp n f a xs _ HD.out.mem hf ha).mono ?_; rintro e w4 ⟨rfl, m4, k4⟩)
      | (go_at_call 21; refine (rcopy_c bx c n f a xs _ hn HL.out ?_ hf ha).mono ?_; (exact HD.out.blk.keep (by assumption) hxp); rintro e w5 ⟨rfl, b5, k5⟩))
  have HE : Hid (Both w bm bp bx n (layL xs (f * 16) (xs.drop (a * 16))) w5) := ⟨m4.keep k5 (by simpa using h2.symm) (by simpa using h1.symm), b5, HD.out.but.trans ((k4.wider (by simp)).trans (k5.wider (by simp)))⟩
  clear m4 k4 b5 k5
  go_wp2
  go_ret
  exact ⟨rfl, HE.out⟩
set_option maxHeartbeats 2000000 in
theorem does_copyno (bm bp bx n c : Nat) (xs : List Int) (F A : Int) (hh : (hasF n F && hasF n A) = false) (W : Int) (w : World) (h : MemAt w bm bp n xs) (hb : Blk w bx xs) (h1 : bx ≠ bp) (h2 : bx ≠ bm) :
    Calls Try.prog 8 #[.pointer (some ⟨bm, 0, none⟩), .slice (some ⟨bx, 0, none⟩) (16 * n) c, .agg #[.int .i64 3, .int .i64 F, .int .i64 A, .int .u32 W]] w fun e w' =>
      e = .returned (.bool true) ∧ Both w bm bp bx n (xs) w' := by
  have hn := h.most
  have hxl : bx < w.heap.size := hb.lt (by have := h.len; have := h.pos; omega)
  obtain ⟨hbm, hbp⟩ := h.lt
  have HB : Hid (Both w bm bp bx n xs (w.alloc (.cells #[.int .i64 3, .int .i64 F, .int .i64 A, .int .u32 W] 30))) := (Both.mk h hb (But.refl _ _)).keep ((But.refl [] w).alloc _)
  have HX : Hid (Box w w.heap.size 3 F A W (w.alloc (.cells #[.int .i64 3, .int .i64 F, .int .i64 A, .int .u32 W] 30))) := box_new _ _ _ _ _ _
  have HL : Hid (xs.length = 16 * n) := h.len
  clear h hb
  obtain ⟨g, hg⟩ : ∃ g, g = w.heap.size := ⟨_, rfl⟩
  have hgx : g ∉ [bx] := by simp; omega
  have hgp : g ∉ [bp] := by simp; omega
  have hxp : bx ∉ [bp] := by simpa using h1
  go_enter Try.func8, Try.ntmps8
  go_wp2_with fail
  refine (at_any _ c n _ _ _ hn).mono ?_
  rintro e w1 ⟨⟨r, rfl⟩, hw⟩
  rw [hw] at HB HX
  clear hw
  rw [← hg] at HX ⊢
  have hX := HX.out
  obtain ⟨hx0, hx1, hx2, hx3⟩ := hX
  have HH : Hid ((hasF n F && hasF n A) = false) := hh
  have HD : Hid (Both w bm bp bx n xs w1.drew) := HB.out.keep (But.refl [] _).drew
  have hS : w1.drew.cell? ⟨g, 1, none⟩ = some (.int .i64 F) ∧ w1.drew.cell? ⟨g, 2, none⟩ = some (.int .i64 A) := ⟨hx1, hx2⟩
  clear hg hh
  go_wp2
  go_region_held3 (fun w' => w'.cell? ⟨g, 1, none⟩ = some (.int .i64 F) ∧ w'.cell? ⟨g, 2, none⟩ = some (.int .i64 A))
    (first | exact hS | exact two_keep (by assumption) (by assumption) hgp | exact two_keep (by assumption) (by assumption) hgx)
    (first
      | (go_at_call 18; refine (copy_no bm bp n F A xs _ HD.out.mem HH.out).mono ?_; rintro e w4 ⟨rfl, rfl⟩)
      | (go_at_call 21; refine (rcopy_no _ c n F A _ hn HH.out).mono ?_; rintro e w5 ⟨rfl, rfl⟩))
  go_wp2
  go_ret
  exact ⟨rfl, HD.out⟩
set_option maxHeartbeats 2000000 in
theorem does_lay (bm bp bx n c : Nat) (xs : List Int) (f : Nat) (A : Int) (hf : f < n) (W : Int) (w : World) (h : MemAt w bm bp n xs) (hb : Blk w bx xs) (h1 : bx ≠ bp) (h2 : bx ≠ bm) :
    Calls Try.prog 8 #[.pointer (some ⟨bm, 0, none⟩), .slice (some ⟨bx, 0, none⟩) (16 * n) c, .agg #[.int .i64 4, .int .i64 (f : Int), .int .i64 A, .int .u32 W]] w fun e w' =>
      e = .returned (.bool true) ∧ Both w bm bp bx n (layL xs (f * 16) (pageL W)) w' := by
  have hn := h.most
  have hxl : bx < w.heap.size := hb.lt (by have := h.len; have := h.pos; omega)
  obtain ⟨hbm, hbp⟩ := h.lt
  have HB : Hid (Both w bm bp bx n xs (w.alloc (.cells #[.int .i64 4, .int .i64 (f : Int), .int .i64 A, .int .u32 W] 30))) := (Both.mk h hb (But.refl _ _)).keep ((But.refl [] w).alloc _)
  have HX : Hid (Box w w.heap.size 4 (f : Int) A W (w.alloc (.cells #[.int .i64 4, .int .i64 (f : Int), .int .i64 A, .int .u32 W] 30))) := box_new _ _ _ _ _ _
  have HL : Hid (xs.length = 16 * n) := h.len
  clear h hb
  obtain ⟨g, hg⟩ : ∃ g, g = w.heap.size := ⟨_, rfl⟩
  have hgx : g ∉ [bx] := by simp; omega
  have hgp : g ∉ [bp] := by simp; omega
  have hxp : bx ∉ [bp] := by simpa using h1
  go_enter Try.func8, Try.ntmps8
  go_wp2_with fail
  refine (at_any _ c n _ _ _ hn).mono ?_
  rintro e w1 ⟨⟨r, rfl⟩, hw⟩
  rw [hw] at HB HX
  clear hw
  rw [← hg] at HX ⊢
  have hX := HX.out
  obtain ⟨hx0, hx1, hx2, hx3⟩ := hX
  have HH : Hid (Half w bm bp bx n xs xs w1 ∧ Box w g 4 f A W w1) := ⟨⟨HB.out.mem, HB.out.blk, HB.out.but⟩, HX.out⟩
  clear hg HB HX
  go_wp2_with fail
  refine (at_c _ c n f 0 _ hn hf (by omega)).mono ?_
  rintro e w2 ⟨rfl, rfl⟩
  go_wp2
  go_loopg [8] 16 (fun g2 j wy => ∃ m : Nat, m + g2 = 16 ∧ j = .int .i64 m ∧ Half w bm bp bx n xs (layN xs (f * 16) (pageL W) m) wy ∧ Box w g 4 f A W wy)
  case atStart => exact ⟨0, by omega, rfl, by rw [layN_zero]; exact HH.out.1, HH.out.2⟩
  case round =>
    obtain ⟨m, hmg, rfl, hh, hbox⟩ := hrel
    have HK : Hid (Half w bm bp bx n xs (layN xs (f * 16) (pageL W) m) wr) := hh
    have HX : Hid (Box w g 4 f A W wr) := hbox
    obtain ⟨hy0, hy1, hy2, hy3⟩ := hbox
    clear hh hx0 hx1 hx2 hx3 HH
    by_cases hm : m < 16
    · have hkl : f * 16 + m < xs.length := by have := HL.out; omega
      obtain ⟨hc2, hz2⟩ := HK.out.blk (f * 16 + m) (by rw [layN_len]; exact hkl)
      obtain ⟨q2, hq2⟩ : ∃ q, q = (layN xs (f * 16) (pageL W) m).getD (f * 16 + m) 0 := ⟨_, rfl⟩
      rw [← hq2, Nat.mul_comm f 16] at hc2
      rw [Nat.mul_comm f 16] at hz2
      have HS : Hid (Half w bm bp bx n xs (layN xs (f * 16) (pageL W) (m + 1)) (wr.setCell ⟨bx, 16 * f + m, none⟩ (.int .u32 ((W + (m : Int)) % 4294967296))) ∧ Box w g 4 f A W (wr.setCell ⟨bx, 16 * f + m, none⟩ (.int .u32 ((W + (m : Int)) % 4294967296)))) := by
        have k : But [bx] wr (wr.setCell ⟨bx, 16 * f + m, none⟩ (.int .u32 ((W + (m : Int)) % 4294967296))) := (But.refl _ _).setCell (by simp) _
        refine ⟨⟨HK.out.mem.keep k (by simpa using h2.symm) (by simpa using h1.symm), ?_, HK.out.but.trans (k.wider (by simp))⟩, HX.out.keep k hgx⟩
        rw [← layN_set _ _ _ _ hkl, pageL_get W m hm, Nat.mul_comm 16 f]
        exact HK.out.blk.set (by rw [layN_len]; exact hkl) _
      clear hq2
      have hbd : (16 : Int) * (f : Int) + (m : Int) < 16 * (n : Int) := by omega
      go_wp2
      go_roundg (16 - (m + 1))
      case measure => omega
      case rel => exact ⟨m + 1, by omega, by go_num, HS.out.1, HS.out.2⟩
    · obtain rfl : m = 16 := by omega
      have HD : Hid (Half w bm bp bx n xs (layN xs (f * 16) (pageL W) 16) wr.drew) := HK.out.keep (But.refl [] _).drew
      have hS : wr.drew.cell? ⟨g, 1, none⟩ = some (.int .i64 f) ∧ wr.drew.cell? ⟨g, 3, none⟩ = some (.int .u32 W) := ⟨hy1, hy3⟩
      clear hy0 hy2
      go_wp2
      go_region_held3 (fun w' => w'.cell? ⟨g, 1, none⟩ = some (.int .i64 f) ∧ w'.cell? ⟨g, 3, none⟩ = some (.int .u32 W))
        (first | exact hS | exact two_keep (by assumption) (‹But [] _ _›) (by simp) | exact two_keep (by assumption) (by assumption) hgp)
        (first
          | (go_at_call 17; refine (pageOf_c W _).mono ?_; rintro e w4 ⟨rfl, k4⟩)
          | (go_at_call 16; refine (lay_c bm bp n f xs (pageL W) _ ?_ hf).mono ?_; (exact HD.out.mem.keep (‹But [] _ _›) (by simp) (by simp)); rintro e w5 ⟨rfl, m5, k5⟩))
      have HE : Hid (Both w bm bp bx n (layL xs (f * 16) (pageL W)) w5) := ⟨m5, (HD.out.blk.keep k4 (by simp)).keep k5 hxp, HD.out.but.trans ((k4.wider (by simp)).trans (k5.wider (by simp)))⟩
      clear m5 k4 k5
      go_wp2
      go_ret
      exact ⟨rfl, HE.out⟩
set_option maxHeartbeats 2000000 in
theorem does_layno (bm bp bx n c : Nat) (xs : List Int) (F A : Int) (hh : hasF n F = false) (W : Int) (w : World) (h : MemAt w bm bp n xs) (hb : Blk w bx xs) (h1 : bx ≠ bp) (h2 : bx ≠ bm) :
    Calls Try.prog 8 #[.pointer (some ⟨bm, 0, none⟩), .slice (some ⟨bx, 0, none⟩) (16 * n) c, .agg #[.int .i64 4, .int .i64 F, .int .i64 A, .int .u32 W]] w fun e w' =>
      e = .returned (.bool true) ∧ Both w bm bp bx n (xs) w' := by
  have hn := h.most
  have hxl : bx < w.heap.size := hb.lt (by have := h.len; have := h.pos; omega)
  obtain ⟨hbm, hbp⟩ := h.lt
  have HB : Hid (Both w bm bp bx n xs (w.alloc (.cells #[.int .i64 4, .int .i64 F, .int .i64 A, .int .u32 W] 30))) := (Both.mk h hb (But.refl _ _)).keep ((But.refl [] w).alloc _)
  have HX : Hid (Box w w.heap.size 4 F A W (w.alloc (.cells #[.int .i64 4, .int .i64 F, .int .i64 A, .int .u32 W] 30))) := box_new _ _ _ _ _ _
  have HL : Hid (xs.length = 16 * n) := h.len
  clear h hb
  obtain ⟨g, hg⟩ : ∃ g, g = w.heap.size := ⟨_, rfl⟩
  have hgx : g ∉ [bx] := by simp; omega
  have hgp : g ∉ [bp] := by simp; omega
  have hxp : bx ∉ [bp] := by simpa using h1
  go_enter Try.func8, Try.ntmps8
  go_wp2_with fail
  refine (at_any _ c n _ _ _ hn).mono ?_
  rintro e w1 ⟨⟨r, rfl⟩, hw⟩
  rw [hw] at HB HX
  clear hw
  rw [← hg] at HX ⊢
  have hX := HX.out
  obtain ⟨hx0, hx1, hx2, hx3⟩ := hX
  have HH : Hid (hasF n F = false) := hh
  have HW : Hid (hasW n F 0 = false) := by
    show hasW n F 0 = false
    simp only [hasF, hasW, decide_eq_false_iff_not] at hh ⊢
    omega
  have HD : Hid (Both w bm bp bx n xs w1.drew) := HB.out.keep (But.refl [] _).drew
  have hS : w1.drew.cell? ⟨g, 1, none⟩ = some (.int .i64 F) ∧ w1.drew.cell? ⟨g, 3, none⟩ = some (.int .u32 W) := ⟨hx1, hx3⟩
  clear hg hh
  go_wp2_with fail
  refine (at_no _ c n F 0 _ hn HW.out).mono ?_
  rintro e w2 ⟨rfl, rfl⟩
  go_wp2
  go_loopg [8] 0 (fun g2 j wy => j = .int .i64 0 ∧ w1 = wy)
  case atStart => exact ⟨rfl, rfl⟩
  case round =>
    obtain ⟨rfl, rfl⟩ := hrel
    go_wp2
    go_region_held3 (fun w' => w'.cell? ⟨g, 1, none⟩ = some (.int .i64 F) ∧ w'.cell? ⟨g, 3, none⟩ = some (.int .u32 W))
      (first | exact hS | exact two_keep (by assumption) (by assumption) (by simp))
      (first
        | (go_at_call 17; refine (pageOf_c W _).mono ?_; rintro e w4 ⟨rfl, k4⟩)
        | (go_at_call 16; refine (lay_no bm bp n F xs (pageL W) _ ?_ HH.out).mono ?_; (exact HD.out.mem.keep (by assumption) (by simp) (by simp)); rintro e w5 ⟨rfl, k5⟩))
    have HE : Hid (Both w bm bp bx n xs w5) := (HD.out.keep k4).keep k5
    clear k4 k5
    go_wp2
    go_ret
    exact ⟨rfl, HE.out⟩
end Go.Proofs.Ythabdcejjnhpbaa
