/-
  Layer 6 (cpu): words for what loads and stores: what was found, in two new boxes.
-/
import Derived.Test.YtjlcncdhlcpklaaCpJump
namespace Go.Proofs.Ytjlcncdhlcpklaa.Cp
open Go.ChangeShapes Go.WideShapes Go.ChangeAt Go.RowKit
open Fr (MemAt Blk hasW hasF) 
open Tl (En TlbAt Ens getE misE ansE en0)
set_option linter.unusedVariables false
set_option maxRecDepth 20000

/-- An instruction that is being done lies apart from its machine. -/
structure Ap (bd bc bm bp bt : Nat) : Prop where
  c : bd ≠ bc
  m : bd ≠ bm
  p : bd ≠ bp
  t : bd ≠ bt
theorem two_but {k : List Nat} {w w' : World} {b : Nat} {v0 v1 : Value} (h : w.cell? ⟨b, 0, none⟩ = some v0 ∧ w.cell? ⟨b, 22, none⟩ = some v1) (hk : But k w w') (hn : b ∉ k) :
    w'.cell? ⟨b, 0, none⟩ = some v0 ∧ w'.cell? ⟨b, 22, none⟩ = some v1 := ⟨cell_keep h.1 hk hn, cell_keep h.2 hk hn⟩

theorem setCell_some {w : World} {a : Addr} {v : Value} (h : (w.cell? a).isSome = true) : (w.setCell a v).cell? a = some v := by
  obtain ⟨u, hu⟩ := Option.isSome_iff_exists.1 h
  exact World.cell?_setCell_same w a v hu
theorem four_but {w w' : World} {b b3 : Nat} {v0 v1 v2 v3 : Value} (h : w.cell? ⟨b, 0, none⟩ = some v0 ∧ w.cell? ⟨b, 2, none⟩ = some v1 ∧ w.cell? ⟨b3, 0, none⟩ = some v2 ∧ w.cell? ⟨b3, 1, none⟩ = some v3) (hk : But [] w w') :
    w'.cell? ⟨b, 0, none⟩ = some v0 ∧ w'.cell? ⟨b, 2, none⟩ = some v1 ∧ w'.cell? ⟨b3, 0, none⟩ = some v2 ∧ w'.cell? ⟨b3, 1, none⟩ = some v3 :=
  ⟨cell_keep h.1 hk (by simp), cell_keep h.2.1 hk (by simp), cell_keep h.2.2.1 hk (by simp), cell_keep h.2.2.2 hk (by simp)⟩
theorem four_set {w : World} {b b3 a : Nat} {v v0 v1 v2 v3 : Value} (h : w.cell? ⟨b, 0, none⟩ = some v0 ∧ w.cell? ⟨b, 2, none⟩ = some v1 ∧ w.cell? ⟨b3, 0, none⟩ = some v2 ∧ w.cell? ⟨b3, 1, none⟩ = some v3) (hb : ¬ b3 = b) :
    (w.setCell ⟨b, 5 + a, none⟩ v).cell? ⟨b, 0, none⟩ = some v0 ∧ (w.setCell ⟨b, 5 + a, none⟩ v).cell? ⟨b, 2, none⟩ = some v1 ∧ (w.setCell ⟨b, 5 + a, none⟩ v).cell? ⟨b3, 0, none⟩ = some v2 ∧ (w.setCell ⟨b, 5 + a, none⟩ v).cell? ⟨b3, 1, none⟩ = some v3 :=
  ⟨(World.cell?_setCell_other _ _ _ _ (by intro e; injection e with e1 e2; omega)).trans h.1, (World.cell?_setCell_other _ _ _ _ (by intro e; injection e with e1 e2; omega)).trans h.2.1,
    (World.cell?_setCell_other _ _ _ _ (by intro e; injection e with e1 e2; exact hb e1.symm)).trans h.2.2.1, (World.cell?_setCell_other _ _ _ _ (by intro e; injection e with e1 e2; exact hb e1.symm)).trans h.2.2.2⟩
/-- The one if there was no trap. -/
def selC {α : Type} (t : Int) (x y : α) : α := if t = 0 then x else y
theorem selC_pos {α : Type} (x y : α) : selC 0 x y = x := rfl
theorem selC_neg {α : Type} {t : Int} (h : ¬ t = 0) (x y : α) : selC t x y = y := if_neg h
/-- What was found lies in two boxes that are new; the machine is as it was but for the TLB's misses. -/
structure LdR (w1 : World) (bc bm bp n : Nat) (xs : List Int) (bt : Nat) (l : List En) (m : Nat) (f q t1 t2 : Int) (t3 : Bool) (t4 : Int) (b3 b4 : Nat) (wx : World) : Prop where
  f0 : wx.cell? ⟨b3, 0, none⟩ = some (.int .i64 f)
  f1 : wx.cell? ⟨b3, 1, none⟩ = some (.int .i64 q)
  t0 : wx.cell? ⟨b4, 0, none⟩ = some (.int .i64 t1)
  t1' : wx.cell? ⟨b4, 1, none⟩ = some (.int .i64 t2)
  t2' : wx.cell? ⟨b4, 2, none⟩ = some (.bool t3)
  t3' : wx.cell? ⟨b4, 3, none⟩ = some (.int .i64 t4)
  n3 : w1.heap.size ≤ b3
  n4 : w1.heap.size ≤ b4
  mach : ∃ m', m' ≤ m + 1 ∧ CpuAt wx bc bm bp n xs bt l m'
  but : But [bt] w1 wx
theorem LdR.of {w1 w4 wx : World} {bc bm bp n : Nat} {xs : List Int} {bt : Nat} {l : List En} {m m' : Nat} {f q t1 t2 : Int} {t3 : Bool} {t4 : Int} {b3 b4 : Nat}
    (hl : bc < w1.heap.size ∧ bm < w1.heap.size ∧ bp < w1.heap.size ∧ bt < w1.heap.size) (hC4 : CpuAt w4 bc bm bp n xs bt l m') (hB4 : But [bt] w1 w4) (hm' : m' ≤ m + 1) (hk : But [w1.heap.size, w1.heap.size + 1] w4 wx) (n3 : w1.heap.size ≤ b3) (n4 : w1.heap.size ≤ b4)
    (h0 : wx.cell? ⟨b3, 0, none⟩ = some (.int .i64 f)) (h1 : wx.cell? ⟨b3, 1, none⟩ = some (.int .i64 q)) (h2 : wx.cell? ⟨b4, 0, none⟩ = some (.int .i64 t1)) (h3 : wx.cell? ⟨b4, 1, none⟩ = some (.int .i64 t2)) (h4 : wx.cell? ⟨b4, 2, none⟩ = some (.bool t3)) (h5 : wx.cell? ⟨b4, 3, none⟩ = some (.int .i64 t4)) :
    LdR w1 bc bm bp n xs bt l m f q t1 t2 t3 t4 b3 b4 wx :=
  ⟨h0, h1, h2, h3, h4, h5, n3, n4, ⟨m', hm', hC4.keep hk (by simp; omega) (by simp; omega) (by simp; omega) (by simp; omega)⟩, but_fresh hB4 hk (by simp)⟩

theorem five_but {k : List Nat} {w w' : World} {b b3 a : Nat} {v0 v1 v2 v3 v4 : Value} (h : w.cell? ⟨b, 0, none⟩ = some v0 ∧ w.cell? ⟨b, 2, none⟩ = some v1 ∧ w.cell? ⟨b, 5 + a, none⟩ = some v4 ∧ w.cell? ⟨b3, 0, none⟩ = some v2 ∧ w.cell? ⟨b3, 1, none⟩ = some v3) (hk : But k w w') (h1 : b ∉ k) (h2 : b3 ∉ k) :
    w'.cell? ⟨b, 0, none⟩ = some v0 ∧ w'.cell? ⟨b, 2, none⟩ = some v1 ∧ w'.cell? ⟨b, 5 + a, none⟩ = some v4 ∧ w'.cell? ⟨b3, 0, none⟩ = some v2 ∧ w'.cell? ⟨b3, 1, none⟩ = some v3 :=
  ⟨cell_keep h.1 hk h1, cell_keep h.2.1 hk h1, cell_keep h.2.2.1 hk h1, cell_keep h.2.2.2.1 hk h2, cell_keep h.2.2.2.2 hk h2⟩
end Go.Proofs.Ytjlcncdhlcpklaa.Cp
