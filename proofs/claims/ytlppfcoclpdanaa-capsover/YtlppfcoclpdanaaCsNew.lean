/-
  Layer 12 (caps): the contract of New, over the translated program.
-/
import Derived.Test.YtlppfcoclpdanaaCsPut
import Derived.Test.YtlppfcoclpdanaaSnRef
namespace Go.Proofs.Ytlppfcoclpdanaa.Cs
open Go.ChangeShapes Go.WideShapes Go.ChangeAt Go.RowKit
open Wh Sn
set_option linter.unusedVariables false
set_option maxRecDepth 20000

/-- The cells of a tree of nobody. -/
def zf (j : Nat) : Value := if j = 192 then .int .u64 0 else if j % 3 = 0 then .int .u64 0 else if j % 3 = 1 then .int .i64 0 else .slice none 0 0
def zt : List Value := (List.range 193).map zf
theorem zt_len : zt.length = 193 := by simp [zt]
theorem zt_get (j : Nat) (h : j < 193) : zt[j]? = some (zf j) := by simp [zt, h]
theorem bTree : Try.prog.built 73 [] = some zt.toArray := by kernel_rfl
attribute [irreducible] zt
theorem zt_tree (w : World) (Z : List Nat) (hb : w.heap.size ∈ Z) (hz : ∀ z, z ∈ Z → z ≤ w.heap.size) : TrAt (w.alloc (.cells zt.toArray 73)) w.heap.size Z (fun _ => nd0) 0 zf := by
  refine ⟨VB.new w zt.toArray _ 193 (by simp [zt_len]) zf (fun j hj => by simpa using zt_get j hj), hb, fun z h => by have := hz z h; simp; omega, fun p hp => ?_, fun p hp => ?_, fun p hp => ?_, rfl⟩
  · unfold zf; rw [if_neg (by omega), if_pos (by omega)]; rfl
  · unfold zf; rw [if_neg (by omega), if_neg (by omega), if_pos (by omega)]; rfl
  · refine ⟨none, 0, 0, ?_, SetAt.nil _ _ (fun _ => rfl), Off.nil _ _⟩
    unfold zf; rw [if_neg (by omega), if_neg (by omega), if_neg (by omega)]
/-- A result beside one that is a struct in memory. -/
theorem results_tmp_cell {P : Program} {fn : Func} {p u : Tmp} {ty : TypeId} (h : fn.results = #[.tmp u, .cell p ty]) (tmps : Array Value) (w : World) (b o : Nat) (cs : List Value) (d : TypeDesc)
    (hp : tmps.getD p undef = .pointer (some ⟨b, o, none⟩)) (hc : w.rangeAt b o cs) (hu : P.underlying ty = some d) (hd : d.isRow = true) (hi : (P.info? ty).map (·.size) = some cs.length) :
    (results fn tmps).run P w = .ok (.tuple #[tmps.getD u undef, .agg cs.toArray]) w := by
  have hp' : tmps[p]?.getD undef = .pointer (some ⟨b, o, none⟩) := by simpa using hp
  simp [results, h, hp', asAddr, run_loadVar_mid w b o ty cs d hc hu hd hi]
def NewP (w : World) (st : Nat → Bool) (e : Ending) (w' : World) : Prop :=
  ∃ bt, e = .returned (.tuple #[.pointer (some ⟨bt, 0, none⟩), .agg #[.int .i64 0, .int .u64 1]]) ∧ w.heap.size ≤ bt ∧ TrA w' bt [bt] (updN (fun _ => nd0) 0 ⟨1, -1, st⟩) 1 ∧ But [] w w'
set_option maxHeartbeats 2000000 in
theorem New_c (A : Option Addr) (n c lo : Nat) (st : Nat → Bool) (w : World) (hs : SetAt w lo A n st) :
    Calls Try.prog 7 #[.agg #[.slice A n c]] w (NewP w st) := by
  have hbt := bTree
  obtain ⟨B, hB⟩ : ∃ B, B = w.heap.size := ⟨_, rfl⟩
  obtain ⟨r1, r2, r3, r4, r5⟩ := two_box w [.slice A n c] [.int .i64 0, .int .u64 0] 31 26
  obtain ⟨w0, hw0⟩ : ∃ w0, w0 = (w.alloc (.cells #[.slice A n c] 31)).alloc (.cells #[.int .i64 0, .int .u64 0] 26) := ⟨_, rfl⟩
  rw [← hw0, ← hB] at r1 r2 r3 r4
  rw [← hw0] at r5
  have HC1 : Hid (w0.cell? ⟨B, 0, none⟩ = some (.slice A n c)) := range_cells r1 0 _ rfl
  have HT3 : Hid (w0.there (B + 1) 0 2) := r3
  have HS0 := hid r4
  have HK0 := hid r5
  have HBW := hid hB
  have HS := hid (hs.wider (Nat.zero_le lo))
  clear r1 r2 r3 r4 r5 hs
  go_enter Try.func7, Try.ntmps7
  go_upto_region 1 with fail
  rw [← hw0, ← hB]
  clear hw0 hB
  obtain ⟨b, hb⟩ : ∃ b, b = w0.heap.size := ⟨_, rfl⟩
  have HB2 : Hid (b = B + 2) := by show b = _; have := HS0.out; omega
  have HZ := hid (zt_tree w0 ([B + 1] ++ [w0.heap.size]) (by simp) (fun z hz => by simp at hz; have := HS0.out; omega))
  have hk1 : But [] w0 (w0.alloc (.cells zt.toArray 73)) := (But.refl [] w0).alloc _
  have HK1 := hid hk1
  have hc1 := cell_keep HC1.out hk1 (by simp)
  have HT1 := hid (there_keep HT3.out hk1 (by have := HS0.out; omega) (by simp))
  go_upto_region 2 with (first | (refine wpList_build' rfl 73 [] rfl zt.toArray ?hb ?_; case hb => exact bTree))
  rw [← hb]
  rw [← hb] at HZ
  generalize w0.alloc (.cells zt.toArray 73) = w1 at *
  have HX1 := hid (HS.out.keep0 (HK0.out.trans HK1.out))
  have HO1 : Hid (Off ([B + 1] ++ [b]) A n) := Off.old HS.out (fun x hx => by have := HB2.out; have := HBW.out; simp at hx; omega)
  have HBS : Hid (w1.heap.size = w1.heap.size) := rfl
  clear hk1 hb
  go_wp2_with fail
  refine (put_c b 0 ([B + 1] ++ [b]) _ zf 0 (by omega) 0 (-1) A n c st w1 HZ.out HX1.out HO1.out (by omega)).mono ?_
  rintro e w2 ⟨rfl, ht2, k2⟩
  have HT2 := there_keep HT1.out k2 (lt_of_there HT1.out (by omega)) (by have := HB2.out; simp; omega)
  obtain ⟨u1, u2, hu1, hu2, hz1, hz2⟩ := there_two HT2
  have H2 := hid ht2
  have HK2 := hid k2
  clear ht2 k2 HT2 hc1
  go_wp2
  refine bodyPost_ret (results_tmp_cell rfl _ _ (B + 1) 0 [.int .i64 0, .int .u64 1] _ rfl (range_two hu1 hu2) Try.underlying26 rfl sizeCap) rfl ?_
  have hk9 : But [B + 1] w2 ((w2.setCell ⟨B + 1, 0, none⟩ (.int .i64 0)).setCell ⟨B + 1, 1, none⟩ (.int .u64 1)) := ((But.refl [B + 1] w2).setCell (by simp) _).setCell (by simp) _
  have hb2 := HB2.out
  have hbw := HBW.out
  obtain ⟨f2, h2⟩ := H2.out
  have hl : w1.heap.size ≤ w2.heap.size := HK2.out.size
  have hw1 : B + 1 < w1.heap.size := lt_of_there HT1.out (by omega)
  refine ⟨b, rfl, by omega, ⟨f2, ?_⟩, but_own (but_own (HK0.out.trans HK1.out) HK2.out (fun i hi => by simp at hi; omega)) hk9 (fun i hi => by simp at hi; omega)⟩
  exact (h2.keep hk9 (by simp; omega) (by simp)).less (by simp)
end Go.Proofs.Ytlppfcoclpdanaa.Cs
