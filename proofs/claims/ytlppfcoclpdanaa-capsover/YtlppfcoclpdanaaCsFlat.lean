/-
  Layer 12 (caps): deeds and caps that came in; both trees new; what has come in stays.
-/
import Derived.Test.YtlppfcoclpdanaaCsBo
import Derived.Test.YtlppfcoclpdanaaCsPut
import Derived.Test.YtlppfcoclpdanaaFlat
namespace Go.Proofs.Ytlppfcoclpdanaa
open Go.RowKit
set_option linter.unusedVariables false

def ks_flatDeed : List Pk := [.int .i64, .int .i64, .int .i64, .int .i64, .int .u64]
def kd_flatDeed (t : TypeId) : List Pk := if t = 3 then [.int .i64] else [.int .u64]
theorem flatDeed : FlatT Try.prog 40 ks_flatDeed :=
  flat_struct kd_flatDeed Try.underlying40 (by kernel_rfl)
    (by
      intro f hf
      simp only [List.mem_cons, List.not_mem_nil, or_false] at hf
      rcases hf with rfl | rfl | rfl | rfl | rfl
      · exact flat_int Try.underlying3 (by kernel_rfl)
      · exact flat_int Try.underlying3 (by kernel_rfl)
      · exact flat_int Try.underlying3 (by kernel_rfl)
      · exact flat_int Try.underlying3 (by kernel_rfl)
      · exact flat_int Try.underlying24 (by kernel_rfl))
    (by decide)
theorem u64_nat {a : Int} (h : (Lit.int .u64 a).wf = true) : ∃ n : Nat, a = n := by
  refine ⟨a.toNat, ?_⟩
  simp [Lit.wf, IntKind.min, IntKind.max, IntKind.signed, IntKind.bits] at h
  omega
theorem deed_of {vs : List Value} (h : Fits ks_flatDeed vs) : ∃ (K at_ F To : Int) (G : Nat), vs = [.int .i64 K, .int .i64 at_, .int .i64 F, .int .i64 To, .int .u64 G] := by
  obtain ⟨v0, l0, rfl, ⟨K, rfl, _⟩, h0⟩ := fits_cons h
  obtain ⟨v1, l1, rfl, ⟨at_, rfl, _⟩, h1⟩ := fits_cons h0
  obtain ⟨v2, l2, rfl, ⟨F, rfl, _⟩, h2⟩ := fits_cons h1
  obtain ⟨v3, l3, rfl, ⟨To, rfl, _⟩, h3⟩ := fits_cons h2
  obtain ⟨v4, l4, rfl, ⟨G, rfl, hG⟩, h4⟩ := fits_cons h3
  obtain rfl := fits_nil h4
  obtain ⟨G, rfl⟩ := u64_nat hG
  exact ⟨K, at_, F, To, G, rfl⟩
theorem infoDeed : (Try.prog.info? 40).map (·.size) = some 5 := by kernel_rfl
def ks_flatCap : List Pk := [.int .i64, .int .u64]
theorem flatCap : FlatT Try.prog 26 ks_flatCap :=
  flat_struct kd_flatDeed Try.underlying26 (by kernel_rfl)
    (by
      intro f hf
      simp only [List.mem_cons, List.not_mem_nil, or_false] at hf
      rcases hf with rfl | rfl
      · exact flat_int Try.underlying3 (by kernel_rfl)
      · exact flat_int Try.underlying24 (by kernel_rfl))
    (by decide)
theorem cap_of {vs : List Value} (h : Fits ks_flatCap vs) : ∃ (at_ : Int) (G : Nat), vs = [.int .i64 at_, .int .u64 G] := by
  obtain ⟨v0, l0, rfl, ⟨at_, rfl, _⟩, h0⟩ := fits_cons h
  obtain ⟨v1, l1, rfl, ⟨G, rfl, hG⟩, h1⟩ := fits_cons h0
  obtain rfl := fits_nil h1
  obtain ⟨G, rfl⟩ := u64_nat hG
  exact ⟨at_, G, rfl⟩
namespace Cs
open Go.ChangeShapes Go.WideShapes Go.ChangeAt
open Wh Sn
theorem TrA.less' {w : World} {b m : Nat} {Z Z' : List Nat} {T : Tr} (h : TrA w b Z T m) (hb : b ∈ Z') (hz : ∀ z, z ∈ Z' → z ∈ Z) : TrA w b Z' T m := by
  obtain ⟨f, hf⟩ := h
  exact ⟨f, hf.vb, hb, fun z h => hf.low z (hz z h), hf.gen, hf.par, fun p hp => by
    obtain ⟨A, n, c, e, h1, h2⟩ := hf.set p hp
    exact ⟨A, n, c, e, h1, fun g off e0 h0 hm => h2 g off e0 h0 (hz g hm)⟩, hf.made⟩
/-- Both trees, new. -/
theorem Bo.new {w w' : World} {bt bx bl m : Nat} {T : Tr} (ht : TrA w bt [bt] T m) (k : But [] w w') (h1 : w.heap.size ≤ bx) (h2 : w.heap.size ≤ bl) (hr : RfAt w' bx bl T m) (hW : Wf T m) : Bo w' bt bx bl [] T m := by
  obtain ⟨f, hf⟩ := ht
  have hb := hf.low bt (by simp)
  have hl := hr.lt
  have hw := hf.wide k [bx, bl] (fun x hx => by simp at hx; omega)
  exact ⟨TrA.less' ⟨f, hw⟩ (by simp) (by simp), hr, hW, by omega, by omega⟩
def T0 (st : Nat → Bool) : Tr := updN (fun _ => nd0) 0 ⟨1, -1, st⟩
/-- How far a law is: i deeds done. -/
structure Lw (w : World) (bt bx bl : Nat) (Y : List Nat) (T : Tr) (m i : Nat) (wx : World) : Prop where
  bo : Bo wx bt bx bl Y T m
  le : m ≤ i + 1
  but : But [] w wx
  o1 : w.heap.size ≤ bt
  o2 : w.heap.size ≤ bx
  o3 : w.heap.size ≤ bl
theorem Lw.keep {w wx wy : World} {bt bx bl m i : Nat} {Y : List Nat} {T : Tr} (h : Lw w bt bx bl Y T m i wx) (k : But [] wx wy) : Lw w bt bx bl Y T m i wy := ⟨h.bo.keep0 k, h.le, h.but.trans k, h.o1, h.o2, h.o3⟩
theorem Lw.step {w wx wy : World} {bt bx bl m m' i : Nat} {Y : List Nat} {T T' : Tr} (h : Lw w bt bx bl Y T m i wx) (hb : Bo wy bt bx bl Y T' m') (hs : Stp T m T' m') (k : But [bt, bx, bl] wx wy) : Lw w bt bx bl Y T' m' (i + 1) wy :=
  ⟨hb, by have := h.le; have := hs.2.1; omega, but_own h.but k (fun j hj => by have := h.o1; have := h.o2; have := h.o3; simp at hj; omega), h.o1, h.o2, h.o3⟩
theorem range_below {w wx : World} {b o : Nat} {cs : List Value} (h : w.rangeAt b o cs) (k : But [] w wx) : wx.rangeAt b o cs := range_keep h k (by simp)
end Cs
end Go.Proofs.Ytlppfcoclpdanaa
