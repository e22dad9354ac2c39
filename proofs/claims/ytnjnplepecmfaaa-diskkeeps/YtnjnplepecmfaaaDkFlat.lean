/-
  Layer 8 (disk): deeds that came in (structs with slices inside, and slices of such).
-/
import Derived.Test.YtnjnplepecmfaaaDkThree
import Derived.Test.YtnjnplepecmfaaaFlat
namespace Go.Proofs.Ytnjnplepecmfaaa.Dk
open Go.ChangeShapes Go.WideShapes Go.ChangeAt Go.RowKit
set_option linter.unusedVariables false
set_option maxRecDepth 20000

def ks_u8 : List Pk := [.int .u8]
theorem flatU8 : FlatT Try.prog 5 ks_u8 := flat_int Try.underlying5 (by kernel_rfl)
def ks_flatBool : List Pk := [.bool]
theorem flatBool : FlatT Try.prog 4 ks_flatBool := flat_bool Try.underlying4 (by kernel_rfl)
theorem bytes_of {w : World} {A : Option Addr} {len cap : Nat} (h : RowOf ks_u8 w A len cap) : ∃ ys : List Int, ys.length = len ∧ Rd .u8 w 0 w.heap.size A ys := by
  obtain ⟨-, -, h0 | ⟨b, off, rfl, hb, hall⟩⟩ := h
  · exact ⟨[], by simp [h0], .inl rfl⟩
  · have H : ∀ i, i < len → ∃ x : Int, w.cell? ⟨b, off + i, none⟩ = some (.int .u8 x) := fun i hi => by
      obtain ⟨vs, hr, hf⟩ := hall i hi
      obtain ⟨v, vs', rfl, ⟨x, rfl, hw⟩, h'⟩ := fits_cons hf
      have := hr 0 _ rfl
      exact ⟨x, by simpa [ks_u8] using this⟩
    refine ⟨(List.range len).map fun i => if hi : i < len then (H i hi).choose else 0, by simp, .inr ⟨b, off, rfl, Nat.zero_le _, hb, fun j hj => ?_⟩⟩
    have hj' : j < len := by simpa using hj
    simp only [List.getD_eq_getElem?_getD, List.getElem?_map, List.getElem?_range hj', Option.map_some, Option.getD_some, dif_pos hj']
    exact (H j hj').choose_spec
theorem bools_of {w : World} {A : Option Addr} {len cap : Nat} (h : RowOf ks_flatBool w A len cap) : ∃ ys : List Bool, ys.length = len ∧ Bl w A ys := by
  obtain ⟨-, -, h0 | ⟨b, off, rfl, hb, hall⟩⟩ := h
  · exact ⟨[], by simp [h0], .inl rfl⟩
  · have H : ∀ i, i < len → ∃ x : Bool, w.cell? ⟨b, off + i, none⟩ = some (.bool x) := fun i hi => by
      obtain ⟨vs, hr, hf⟩ := hall i hi
      obtain ⟨v, vs', rfl, ⟨x, rfl⟩, h'⟩ := fits_cons hf
      have := hr 0 _ rfl
      exact ⟨x, by simpa [ks_flatBool] using this⟩
    refine ⟨(List.range len).map fun i => if hi : i < len then (H i hi).choose else false, by simp, .inr ⟨b, off, rfl, hb, fun j hj => ?_⟩⟩
    have hj' : j < len := by simpa using hj
    simp only [List.getD_eq_getElem?_getD, List.getElem?_map, List.getElem?_range hj', Option.map_some, Option.getD_some, dif_pos hj']
    exact (H j hj').choose_spec
theorem row_open {P : Program} {t e : TypeId} {ks : List Pk} {H : Type} {enc : TypeId × Value → H} {w : World} {fuel : Nat} {cs : List Value} {x : DataW H × List MemPlace}
    (ht : P.underlying t = some (.slice e)) (hf : FlatT P e ks) (hp : 0 < ks.length) (h : DataW.trod enc P w 0 (fun _ => true) true fuel t cs = some x) : ∃ A len cap, cs = [.slice A len cap] ∧ RowOf ks w A len cap := by
  have key : ∃ A len cap, cs = [.slice A len cap] := by
    rcases Go.Deep.open_slice ht h with ⟨hcs, _⟩ | ⟨a, l, c, m, n, D, Pl, hcs, _⟩
    · exact ⟨_, _, _, hcs⟩
    · exact ⟨_, _, _, hcs⟩
  obtain ⟨A, len, cap, rfl⟩ := key
  exact ⟨A, len, cap, rfl, rowOf_open ht hf hp (d := x.1) (p := x.2) ⟨fuel, by simpa [Value.cells] using h⟩⟩
/-- A deed's cells. -/
def deedL (K B : Int) (AX : Option Addr) (lX cX : Nat) (AK : Option Addr) (lK cK : Nat) : List Value := [.int .i64 K, .int .i64 B, .slice AX lX cX, .slice AK lK cK]
/-- A deed that came in. -/
def DeedOk (w : World) (vs : List Value) : Prop :=
  ∃ (K B : Int) (AX : Option Addr) (cX : Nat) (xs : List Int) (AK : Option Addr) (cK : Nat) (ks : List Bool), vs = deedL K B AX xs.length cX AK ks.length cK ∧ Rd .u8 w 0 w.heap.size AX xs ∧ xs.length ≤ 9223372036854775807 ∧ Bl w AK ks ∧ ks.length ≤ maxLen
theorem deed_cells {H : Type} {enc : TypeId × Value → H} {w : World} {fuel : Nat} {cs : List Value} {x : DataW H × List MemPlace} (h : DataW.trod enc Try.prog w 0 (fun _ => true) true fuel 31 cs = some x) : DeedOk w cs := by
  obtain ⟨xs, n, -, -, hl, hxl, hall⟩ := DataW.trod_struct Try.underlying31 h
  have hlen : cs.length = 4 := hl.trans (by kernel_rfl)
  have hc28 : Try.prog.cellsOf 28 = 1 := by kernel_rfl
  have hc29 : Try.prog.cellsOf 29 = 1 := by kernel_rfl
  have hc3 : Try.prog.cellsOf 3 = 1 := by kernel_rfl
  have hxl4 : xs.length = 4 := hxl
  have h0 := hall 0 _ rfl
  have h1 := hall 1 _ rfl
  have h2 := hall 2 _ rfl
  have h3 := hall 3 _ rfl
  rw [List.getElem?_eq_getElem (by omega)] at h0 h1 h2 h3
  obtain ⟨K, e0, -, -⟩ := DataW.trod_int Try.underlying3 h0
  obtain ⟨B, e1, -, -⟩ := DataW.trod_int Try.underlying3 h1
  obtain ⟨A2, l2, c2, e2, r2⟩ := row_open Try.underlying28 flatU8 (by decide) h2
  obtain ⟨A3, l3, c3, e3, r3⟩ := row_open Try.underlying29 flatBool (by decide) h3
  obtain ⟨ys, rfl, hyr⟩ := bytes_of r2
  obtain ⟨ks, rfl, hkr⟩ := bools_of r3
  have m2 := r2.2.1
  have n2 := r2.1
  have m3 := r3.2.1
  have n3 := r3.1
  refine ⟨K, B, A2, c2, ys, A3, c3, ks, ?_, hyr, by unfold maxLen at m2; omega, hkr, by omega⟩
  have key : ∀ l : List Value, l.length = 4 → (l.drop 0).take 1 = [Value.int .i64 K] → (l.drop 1).take 1 = [Value.int .i64 B] → (l.drop 2).take 1 = [Value.slice A2 ys.length c2] → (l.drop 3).take 1 = [Value.slice A3 ks.length c3] → l = deedL K B A2 ys.length c2 A3 ks.length c3 := by
    intro l hl0 q0 q1 q2 q3
    match l, hl0 with
    | [a, b, d, r], hl0 =>
      simp at q0 q1 q2 q3
      subst q0
      subst q1
      subst q2
      subst q3
      rfl
  replace e0 : (cs.drop 0).take (Try.prog.cellsOf 3) = _ := e0
  replace e1 : (cs.drop 1).take (Try.prog.cellsOf 3) = _ := e1
  replace e2 : (cs.drop 2).take (Try.prog.cellsOf 28) = _ := e2
  replace e3 : (cs.drop 3).take (Try.prog.cellsOf 29) = _ := e3
  rw [hc3] at e0 e1
  rw [hc28] at e2
  rw [hc29] at e3
  exact key cs hlen e0 e1 e2 e3
def DeedAgg (w : World) (cs : Array Value) : Prop := DeedOk w cs.toList
theorem deed_open {H : Type} {enc : TypeId × Value → H} {w : World} {cs : Array Value} {d : DataW H} {p : List MemPlace} (h : DataW.Trod enc Try.prog w 0 (fun _ => true) true 31 (.agg cs) d p) : DeedAgg w cs := by
  obtain ⟨fuel, hx⟩ := h
  exact deed_cells (x := (d, p)) (by simpa [Value.cells] using hx)
/-- A slice of deeds that came in. -/
def Deeds (w : World) (A : Option Addr) (len cap : Nat) : Prop := len ≤ cap ∧ cap ≤ maxLen ∧ (len = 0 ∨ ∃ b off, A = some ⟨b, off, none⟩ ∧ b < w.heap.size ∧ ∀ i, i < len → ∃ vs, w.rangeAt b (off + i * 4) vs ∧ DeedOk w vs)
theorem deeds_open {H : Type} {enc : TypeId × Value → H} {w : World} {A : Option Addr} {len cap : Nat} {d : DataW H} {p : List MemPlace} (h : DataW.Trod enc Try.prog w 0 (fun _ => true) true 22 (.slice A len cap) d p) : Deeds w A len cap := by
  obtain ⟨fuel, hx⟩ := h
  have hc4 : Try.prog.cellsOf 31 = 4 := by kernel_rfl
  rcases Go.Deep.open_slice Try.underlying22 hx with ⟨hcs, _⟩ | ⟨a, l, c, m, n, D, Pl, hcs, _, hl, hc, hm, _, hall⟩
  · simp [Value.cells] at hcs
    obtain ⟨rfl, rfl, rfl⟩ := hcs
    exact ⟨Nat.le_refl _, Nat.zero_le _, .inl rfl⟩
  · simp [Value.cells] at hcs
    obtain ⟨rfl, rfl, rfl⟩ := hcs
    refine ⟨hl, hc, ?_⟩
    rcases Nat.eq_zero_or_pos len with h0 | h0
    · exact .inl h0
    · right
      simp only [if_true] at hm
      rw [hc4] at hall
      obtain ⟨cs0, hc0, ht0⟩ := hall 0 (by omega)
      obtain ⟨hl0, hg0⟩ := cells_get hc0
      have hcell := hg0 0 _ (List.getElem?_eq_getElem (by omega))
      have hadd0 : (a.add (0 * 4)).add 0 = a := by simp [Addr.add]
      rw [hadd0] at hcell
      obtain ⟨b, off, spot⟩ := a
      have hspot : spot = none := World.cell?_spot hcell
      subst hspot
      refine ⟨b, off, rfl, World.block_lt_of_cell? w _ hcell, fun i hi => ?_⟩
      obtain ⟨cs, hcc, htt⟩ := hall i (by omega)
      obtain ⟨_, hg⟩ := cells_get hcc
      refine ⟨cs, fun j v hv => ?_, deed_cells htt⟩
      have := hg j v hv
      rwa [Addr.add_mid, Addr.add_mid] at this
theorem DeedOk.keep {w w' : World} {vs : List Value} (h : DeedOk w vs) (hb : Below w.heap.size w w') : DeedOk w' vs := by
  obtain ⟨K, B, AX, cX, xs, AK, cK, ks, rfl, h1, h2, h3, h4⟩ := h
  exact ⟨K, B, AX, cX, xs, AK, cK, ks, rfl, (h1.keep hb).wider (Nat.le_refl _) hb.size, h2, h3.keep (But.of_below (l := []) hb) (by simp), h4⟩
end Go.Proofs.Ytnjnplepecmfaaa.Dk
