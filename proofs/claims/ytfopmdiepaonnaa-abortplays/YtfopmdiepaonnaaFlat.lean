/-
  Words of my own for plain data that came in: which values the cells of a flat type hold (integers, bools, strings, structs and arrays of these), and slices of such. Nothing of the program is named here.
-/
import Derived.WalkKit
import Derived.ProofKit
import Derived.OpenShut
import Derived.Below
import Derived.Deep.Slices
import Derived.Deep.MidRow
namespace Go.Proofs.Ytfopmdiepaonnaa
open Go.RowKit
set_option linter.unusedVariables false

/-- The kinds of cells. -/
inductive Pk where | int (k : IntKind) | bool | string deriving DecidableEq
/-- What a cell of a kind holds. -/
def Pk.ok : Pk → Value → Prop
  | .int k, v => ∃ n, v = .int k n ∧ (Lit.int k n).wf = true
  | .bool, v => ∃ b, v = .bool b
  | .string, v => ∃ s : ByteArray, v = .string s ∧ s.size ≤ maxLen
/-- Cells of these kinds, one by one. -/
def Fits : List Pk → List Value → Prop
  | [], [] => True
  | k :: ks, v :: vs => k.ok v ∧ Fits ks vs
  | _, _ => False
theorem fits_nil {vs : List Value} (h : Fits [] vs) : vs = [] := by
  cases vs with
  | nil => rfl
  | cons v vs => exact h.elim
theorem fits_cons {k : Pk} {ks : List Pk} {vs : List Value} (h : Fits (k :: ks) vs) : ∃ v vs', vs = v :: vs' ∧ k.ok v ∧ Fits ks vs' := by
  cases vs with
  | nil => exact h.elim
  | cons v vs => exact ⟨v, vs, rfl, h.1, h.2⟩
theorem fits_len : ∀ {ks : List Pk} {vs : List Value}, Fits ks vs → vs.length = ks.length
  | [], [], _ => rfl
  | _ :: _, _ :: _, h => by simpa using fits_len h.2
theorem fits_get : ∀ {ks : List Pk} {vs : List Value}, Fits ks vs → ∀ (i : Nat) (k : Pk) (v : Value), ks[i]? = some k → vs[i]? = some v → k.ok v
  | _ :: _, _ :: _, h, 0, k, v, h1, h2 => by
    simp at h1 h2
    subst h1; subst h2
    exact h.1
  | _ :: _, _ :: _, h, i + 1, k, v, h1, h2 => fits_get h.2 i k v (by simpa using h1) (by simpa using h2)
theorem fits_of : ∀ {ks : List Pk} {vs : List Value}, vs.length = ks.length → (∀ (i : Nat) (k : Pk) (v : Value), ks[i]? = some k → vs[i]? = some v → k.ok v) → Fits ks vs
  | [], [], _, _ => trivial
  | k :: ks, v :: vs, hl, h => ⟨h 0 k v rfl rfl, fits_of (by simpa using hl) (fun i k v h1 h2 => h (i + 1) k v (by simpa using h1) (by simpa using h2))⟩
theorem fits_one {k : Pk} {v : Value} (h : k.ok v) : Fits [k] [v] := ⟨h, trivial⟩

/-- Whatever reads as a value of type t has cells of these kinds. -/
def FlatT (P : Program) (t : TypeId) (ks : List Pk) : Prop :=
  P.cellsOf t = ks.length ∧ ∀ (H : Type) (enc : TypeId × Value → H) (w : World) (base : Nat) (spare : Nat → Bool) (held : Bool) (fuel : Nat) (cs : List Value) (x : DataW H × List MemPlace),
    DataW.trod enc P w base spare held fuel t cs = some x → Fits ks cs
theorem flat_int {P : Program} {t : TypeId} {k : IntKind} (hu : P.underlying t = some (.int k)) (hc : P.cellsOf t = 1) : FlatT P t [.int k] :=
  ⟨hc, fun H enc w base spare held fuel cs x h => by
    obtain ⟨n, rfl, _, hw⟩ := DataW.trod_int hu h
    exact fits_one ⟨n, rfl, hw⟩⟩
theorem flat_bool {P : Program} {t : TypeId} (hu : P.underlying t = some .bool) (hc : P.cellsOf t = 1) : FlatT P t [.bool] :=
  ⟨hc, fun H enc w base spare held fuel cs x h => by
    obtain ⟨b, rfl, _⟩ := DataW.trod_bool hu h
    exact fits_one ⟨b, rfl⟩⟩
theorem flat_string {P : Program} {t : TypeId} (hu : P.underlying t = some .string) (hc : P.cellsOf t = 1) : FlatT P t [.string] :=
  ⟨hc, fun H enc w base spare held fuel cs x h => by
    obtain ⟨s, rfl, _, hs⟩ := DataW.trod_string hu h
    exact fits_one ⟨s, rfl, hs⟩⟩
/-- Each of the cells lies in one of the fields. -/
def coverB (fs : List Field) (kd : TypeId → List Pk) (ks : List Pk) : Bool :=
  (List.range ks.length).all fun i => fs.any fun f => decide (f.offset ≤ i) && decide (i < f.offset + (kd f.type).length) && decide ((kd f.type)[i - f.offset]? = ks[i]?)
theorem flat_struct {P : Program} {t : TypeId} {fs : Array Field} {ks : List Pk} (kd : TypeId → List Pk) (hu : P.underlying t = some (.struct fs)) (hc : P.cellsOf t = ks.length)
    (hf : ∀ f ∈ fs.toList, FlatT P f.type (kd f.type)) (hcov : coverB fs.toList kd ks = true) : FlatT P t ks :=
  ⟨hc, fun H enc w base spare held fuel cs x h => by
    obtain ⟨xs, n, _, _, hl, hxl, hall⟩ := DataW.trod_struct hu h
    refine fits_of (hl.trans hc) fun i k v hk hv => ?_
    have hi : i < ks.length := (List.getElem?_eq_some_iff.1 hk).1
    have h1 := List.all_eq_true.1 hcov i (List.mem_range.2 hi)
    obtain ⟨f, hfm, h2⟩ := List.any_eq_true.1 h1
    simp only [Bool.and_eq_true, decide_eq_true_eq] at h2
    obtain ⟨⟨ho, hlt⟩, hke⟩ := h2
    obtain ⟨j, hj, hje⟩ := List.mem_iff_getElem.1 hfm
    have hfj : fs[j]? = some f := by rw [← hje]; simp
    have hjx : j < xs.length := by rw [hxl]; simpa using hj
    have ht := hall j f hfj
    rw [List.getElem?_eq_getElem hjx] at ht
    have hfit := (hf f hfm).2 H enc w base spare held n _ _ ht
    refine fits_get hfit (i - f.offset) k v (hke.trans hk) ?_
    rw [List.getElem?_take, if_pos (by rw [(hf f hfm).1]; omega), List.getElem?_drop, show f.offset + (i - f.offset) = i by omega]
    exact hv⟩
/-- The cells of an array are its elements', one behind the other. -/
def roundB (n : Nat) (ke ks : List Pk) : Bool := (List.range ks.length).all fun i => decide (i / ke.length < n) && decide (ke[i % ke.length]? = ks[i]?)
theorem flat_array {P : Program} {t e : TypeId} {n : Nat} {ke ks : List Pk} (hu : P.underlying t = some (.array n e)) (hc : P.cellsOf t = ks.length) (he : FlatT P e ke) (hp : 0 < ke.length) (hcov : roundB n ke ks = true) : FlatT P t ks :=
  ⟨hc, fun H enc w base spare held fuel cs x h => by
    obtain ⟨xs, m, _, _, hl, hxl, hall⟩ := DataW.trod_array hu h
    refine fits_of (hl.trans hc) fun i k v hk hv => ?_
    have hi : i < ks.length := (List.getElem?_eq_some_iff.1 hk).1
    have h1 := List.all_eq_true.1 hcov i (List.mem_range.2 hi)
    simp only [Bool.and_eq_true, decide_eq_true_eq] at h1
    obtain ⟨hin, hke⟩ := h1
    have ht := hall (i / ke.length) hin
    rw [List.getElem?_eq_getElem (by omega)] at ht
    have hfit := he.2 H enc w base spare held m _ _ ht
    have hm : i % ke.length < ke.length := Nat.mod_lt _ hp
    refine fits_get hfit (i % ke.length) k v (hke.trans hk) ?_
    rw [List.getElem?_take, if_pos (by rw [he.1]; omega), List.getElem?_drop, he.1, show i / ke.length * ke.length + i % ke.length = i by rw [Nat.mul_comm]; exact Nat.div_add_mod i ke.length]
    exact hv⟩

/-- A slice that came in, of elements whose cells are of these kinds. -/
def RowOf (ks : List Pk) (w : World) (A : Option Addr) (len cap : Nat) : Prop :=
  len ≤ cap ∧ cap ≤ maxLen ∧ (len = 0 ∨ ∃ b off, A = some ⟨b, off, none⟩ ∧ b < w.heap.size ∧ ∀ i, i < len → ∃ vs, w.rangeAt b (off + i * ks.length) vs ∧ Fits ks vs)
theorem cells_get {w : World} {base n : Nat} {a : Addr} {cs : List Value} (h : w.cells? base a n = some cs) : cs.length = n ∧ ∀ j v, cs[j]? = some v → w.cell? (a.add j) = some v := by
  unfold World.cells? at h
  split at h
  · refine ⟨by simpa using mapM_some_length h, fun j v hv => ?_⟩
    have hj : j < n := by
      have h1 : cs.length = n := by simpa using mapM_some_length h
      have := (List.getElem?_eq_some_iff.1 hv).1
      omega
    have := mapM_some_get h j j (by simp [hj])
    rw [this, hv]
  · cases h
theorem rowOf_open {P : Program} {t e : TypeId} {ks : List Pk} {H : Type} {enc : TypeId × Value → H} {w : World} {A : Option Addr} {len cap : Nat} {d : DataW H} {p : List MemPlace}
    (ht : P.underlying t = some (.slice e)) (hf : FlatT P e ks) (hp : 0 < ks.length) (h : DataW.Trod enc P w 0 (fun _ => true) true t (.slice A len cap) d p) : RowOf ks w A len cap := by
  obtain ⟨fuel, hx⟩ := h
  rcases Go.Deep.open_slice ht hx with ⟨hcs, _⟩ | ⟨a, l, c, m, n, D, Pl, hcs, _, hl, hc, hm, _, hall⟩
  · simp [Value.cells] at hcs
    obtain ⟨rfl, rfl, rfl⟩ := hcs
    exact ⟨Nat.le_refl _, Nat.zero_le _, .inl rfl⟩
  · simp [Value.cells] at hcs
    obtain ⟨rfl, rfl, rfl⟩ := hcs
    refine ⟨hl, hc, ?_⟩
    rcases Nat.eq_zero_or_pos len with h0 | h0
    · exact .inl h0
    · right
      simp only [if_true] at hm
      obtain ⟨cs0, hc0, ht0⟩ := hall 0 (by omega)
      obtain ⟨hl0, hg0⟩ := cells_get hc0
      have hfl0 := fits_len (hf.2 _ _ _ _ _ _ _ _ _ ht0)
      have hcell := hg0 0 _ (List.getElem?_eq_getElem (by omega))
      have hadd0 : (a.add (0 * P.cellsOf e)).add 0 = a := by simp [Addr.add]
      rw [hadd0] at hcell
      obtain ⟨b, off, spot⟩ := a
      have hspot : spot = none := World.cell?_spot hcell
      subst hspot
      refine ⟨b, off, rfl, World.block_lt_of_cell? w _ hcell, fun i hi => ?_⟩
      obtain ⟨cs, hcc, htt⟩ := hall i (by omega)
      obtain ⟨_, hg⟩ := cells_get hcc
      refine ⟨cs, fun j v hv => ?_, hf.2 _ _ _ _ _ _ _ _ _ htt⟩
      have := hg j v hv
      rwa [Addr.add_mid, Addr.add_mid, hf.1] at this
theorem agg_open {P : Program} {t : TypeId} {ks : List Pk} {H : Type} {enc : TypeId × Value → H} {w : World} {cs : Array Value} {d : DataW H} {p : List MemPlace}
    (hf : FlatT P t ks) (h : DataW.Trod enc P w 0 (fun _ => true) true t (.agg cs) d p) : Fits ks cs.toList := by
  obtain ⟨fuel, hx⟩ := h
  exact hf.2 _ _ _ _ _ _ _ _ _ (by simpa [Value.cells] using hx)
/-- An array by value is an aggregate. -/
theorem okWide_array {P : Program} {w : World} {r : Reach} {base n : Nat} {t e : TypeId} {v : Value} (ht : P.underlying t = some (.array n e)) (h : Value.okWide P w r base t v) : ∃ cs, v = .agg cs ∧ cs.size = P.cellsOf t := by
  simp only [Value.okWide, ht] at h
  obtain ⟨cs, h1, h2, _⟩ := h
  exact ⟨cs, h1, h2⟩
end Go.Proofs.Ytfopmdiepaonnaa
