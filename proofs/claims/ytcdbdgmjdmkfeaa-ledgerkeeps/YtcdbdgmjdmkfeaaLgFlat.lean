/-
  Layer 13 (ledger): deeds and four numbers that came in; what a law carries.
-/
import Derived.Test.YtcdbdgmjdmkfeaaLgDoes
import Derived.Test.YtcdbdgmjdmkfeaaLgAwake
import Derived.Test.YtcdbdgmjdmkfeaaFlat
namespace Go.Proofs.Ytcdbdgmjdmkfeaa
open Go.RowKit
set_option linter.unusedVariables false

def ks_flatDeed : List Pk := [.int .i64, .int .i64, .int .i64, .int .i64, .int .i64]
theorem flatInt : FlatT Try.prog 3 [.int .i64] := flat_int Try.underlying3 (by kernel_rfl)
theorem flatDeed : FlatT Try.prog 30 ks_flatDeed :=
  flat_struct (fun _ => [.int .i64]) Try.underlying30 (by kernel_rfl)
    (by
      intro f hf
      simp only [List.mem_cons, List.not_mem_nil, or_false] at hf
      rcases hf with rfl | rfl | rfl | rfl | rfl <;> exact flatInt)
    (by decide)
theorem deed_of {vs : List Value} (h : Fits ks_flatDeed vs) : ∃ K e t k n : Int, vs = [.int .i64 K, .int .i64 e, .int .i64 t, .int .i64 k, .int .i64 n] := by
  obtain ⟨v0, l0, rfl, ⟨K, rfl, _⟩, h0⟩ := fits_cons h
  obtain ⟨v1, l1, rfl, ⟨e, rfl, _⟩, h1⟩ := fits_cons h0
  obtain ⟨v2, l2, rfl, ⟨t, rfl, _⟩, h2⟩ := fits_cons h1
  obtain ⟨v3, l3, rfl, ⟨k, rfl, _⟩, h3⟩ := fits_cons h2
  obtain ⟨v4, l4, rfl, ⟨n, rfl, _⟩, h4⟩ := fits_cons h3
  obtain rfl := fits_nil h4
  exact ⟨K, e, t, k, n, rfl⟩
theorem infoDeed : (Try.prog.info? 30).map (·.size) = some 5 := by kernel_rfl
def ks_flatFour : List Pk := [.int .i64, .int .i64, .int .i64, .int .i64]
theorem flatFour : FlatT Try.prog 22 ks_flatFour := flat_array (n := 4) Try.underlying22 (by kernel_rfl) flatInt (by decide) (by decide)
theorem four_of {vs : List Value} (h : Fits ks_flatFour vs) : ∃ a : Nat → Int, vs = Lg.av a := by
  obtain ⟨v0, l0, rfl, ⟨a0, rfl, _⟩, h0⟩ := fits_cons h
  obtain ⟨v1, l1, rfl, ⟨a1, rfl, _⟩, h1⟩ := fits_cons h0
  obtain ⟨v2, l2, rfl, ⟨a2, rfl, _⟩, h2⟩ := fits_cons h1
  obtain ⟨v3, l3, rfl, ⟨a3, rfl, _⟩, h3⟩ := fits_cons h2
  obtain rfl := fits_nil h3
  exact ⟨fun j => if j = 0 then a0 else if j = 1 then a1 else if j = 2 then a2 else a3, rfl⟩
namespace Lg
open Go.ChangeShapes Go.WideShapes Go.ChangeAt
theorem own {l : List Nat} {w w1 w2 : World} (h : But [] w w1) (k : But l w1 w2) (hl : ∀ i, i ∈ l → w.heap.size ≤ i) : But [] w w2 :=
  ((h.any l).trans k).strike (fun i hi hlt => by have := hl i hi; omega)
/-- How far a law is: both ledgers, the same; what came in by value. -/
structure Lw (w : World) (bx bl B : Nat) (a : Nat → Int) (q u : Tb) (wx : World) : Prop where
  ld : LdAt wx bx 0 q u
  rf : RfAt wx bl q u
  ok : Ok q u (fun k => clm (a k))
  ra : wx.rangeAt B 0 (av a)
  kp : But [] w wx
  ne : bx ≠ bl
  nx : B ≠ bx
  nl : B ≠ bl
  hx : w.heap.size ≤ bx
  hl : w.heap.size ≤ bl
section
variable {w wx : World} {bx bl B : Nat} {a : Nat → Int} {q u : Tb}
theorem Lw.ask (h : Lw w bx bl B a q u wx) {w' : World} (hd : LdAt w' bx 0 q u) (k : But [bx] wx w') : Lw w bx bl B a q u w' :=
  ⟨hd, h.rf.keep k (by simpa using h.ne.symm), h.ok, range_keep h.ra k (by simpa using h.nx), own h.kp k (by simpa using h.hx), h.ne, h.nx, h.nl, h.hx, h.hl⟩
theorem Lw.keep0 (h : Lw w bx bl B a q u wx) {w' : World} (k : But [] wx w') : Lw w bx bl B a q u w' :=
  ⟨h.ld.keep k (by simp), h.rf.keep k (by simp), h.ok, range_keep h.ra k (by simp), h.kp.trans k, h.ne, h.nx, h.nl, h.hx, h.hl⟩
theorem Lw.dn (h : Lw w bx bl B a q u wx) {w' : World} (hd : Dn bx bl (fun k => clm (a k)) wx w') : ∃ q' u', Lw w bx bl B a q' u' w' := by
  obtain ⟨⟨q', u', h1, h2, h3⟩, k⟩ := hd
  exact ⟨q', u', h1, h2, h3, range_keep h.ra k (by simp; exact ⟨h.nx, h.nl⟩), own h.kp k (by have := h.hx; have := h.hl; simp; omega), h.ne, h.nx, h.nl, h.hx, h.hl⟩
theorem Lw.bo (h : Lw w bx bl B a q u wx) : Bo bx bl (fun k => clm (a k)) wx := ⟨q, u, h.ld, h.rf, h.ok⟩
end
/-- A row that came in is as it was. -/
theorem range_below {w w' : World} {b o : Nat} {cs : List Value} (h : w.rangeAt b o cs) (k : But [] w w') : w'.rangeAt b o cs := range_keep h k (by simp)
end Lg
end Go.Proofs.Ytcdbdgmjdmkfeaa
