/-
  Layer 15 (bind): pages of spaces as keys of a map, frames as its elements: how they read. (The program's map is keyed by a struct of two numbers.)
-/
import Derived.Test.YtiklneamdfgahaaBdMath
import Derived.Test.YtiklneamdfgahaaChecked
import Derived.Maps.Own
import Derived.Maps.OwnSet
import Derived.Maps.RangeWalk
import Derived.DeepKeys4
namespace Go.Proofs.Ytiklneamdfgahaa.Bd
open Go.ChangeShapes Go.WideShapes Go.ChangeAt Go.RowKit
open Go.Maps (Keyed)
set_option linter.unusedVariables false
set_option maxRecDepth 20000

abbrev pT : TypeId := 61
abbrev bT : TypeId := 36
abbrev mT : TypeId := 54
theorem laidOut : laidOutB Try.prog = true := by kernel_rfl
theorem rowP : pT < Try.prog.types.size := of_decide_eq_true (by kernel_rfl)
theorem wideP : (match Try.prog.underlying pT with | some (.array _ _) | some (.struct _) => true | _ => false) = true := by kernel_rfl
/-- What the map's laws ask of its keys. -/
theorem keyed : Keyed Try.prog pT := Keyed.of_law (deep_law_laid laidOut (m := 2) (by omega) rowP (by kernel_rfl) wideP)
theorem keyTypeP : Try.prog.keyType pT = true := by kernel_rfl
/-- A page of a space, as a key. -/
def pk (s p : Int) : Value := .agg #[.int .i64 s, .int .i64 p]
/-- A number that an int may be. -/
abbrev I64 (x : Int) : Prop := (Lit.int .i64 x).wf = true
theorem sizeTypes : ∃ m, Try.prog.types.size = m + 1 := ⟨Try.prog.types.size - 1, (Nat.succ_pred_eq_of_pos (Nat.lt_of_le_of_lt (Nat.zero_le _) rowP)).symm⟩
theorem cellsP : Try.prog.cellsOf pT = 2 := by kernel_rfl
theorem cellsInt : Try.prog.cellsOf 3 = 1 := by kernel_rfl
theorem key_mk (s p : Int) (hs : I64 s) (hp : I64 p) : ∃ l, keyOf Try.prog pT (pk s p) = some l := by
  obtain ⟨m, hm⟩ := sizeTypes
  unfold keyOf pk
  simp only [Try.underlying61]
  rw [if_pos (by rw [keyTypeP]; kernel_rfl), hm]
  unfold Program.keyLits
  simp only [Try.underlying61, Value.cells]
  rw [if_pos (by rw [cellsP]; exact ⟨rfl, by kernel_rfl⟩)]
  simp [cellsInt, Program.keyLits, Try.underlying3, hs, hp]
theorem lit_inv {m : Nat} {a : Value} {x : List Lit} (h : Try.prog.keyLits (m + 1) 3 [a] = some x) : ∃ n, a = .int .i64 n ∧ I64 n := by
  cases a <;> simp [Program.keyLits, Try.underlying3] at h
  obtain ⟨⟨rfl, hw⟩, -⟩ := h
  exact ⟨_, rfl, hw⟩
theorem key_inv {v : Value} {l : Lit} (h : keyOf Try.prog pT v = some l) : ∃ s p, v = pk s p ∧ I64 s ∧ I64 p := by
  obtain ⟨m, hm⟩ := sizeTypes
  obtain ⟨xs, L, rfl, hL, -⟩ := keyOf_top wideP h
  rw [hm] at hL
  unfold Program.keyLits at hL
  simp only [Try.underlying61] at hL
  split at hL
  · rename_i hc
    rw [cellsP] at hc
    obtain ⟨hl, -⟩ := hc
    obtain ⟨l⟩ := xs
    match l, hl with
    | [a, b], _ =>
      cases ha : Try.prog.keyLits (m + 1) 3 [a] with
      | none => simp [cellsInt, ha] at hL
      | some x =>
        cases hb : Try.prog.keyLits (m + 1) 3 [b] with
        | none => simp [cellsInt, ha, hb] at hL
        | some y =>
          obtain ⟨s, rfl, hs⟩ := lit_inv ha
          obtain ⟨p, rfl, hp⟩ := lit_inv hb
          exact ⟨s, p, rfl, hs, hp⟩
  · cases hL
/-- How a page of a space reads, as a key. -/
noncomputable def kl (s p : Int) : Lit := (keyOf Try.prog pT (pk s p)).getD (.bool false)
theorem key_of {s p : Int} (hs : I64 s) (hp : I64 p) : keyOf Try.prog pT (pk s p) = some (kl s p) := by
  obtain ⟨l, hl⟩ := key_mk s p hs hp
  rw [kl, hl]
  rfl
theorem kl_inj {s p s' p' : Int} (hs : I64 s) (hp : I64 p) (hs' : I64 s') (hp' : I64 p') (h : kl s p = kl s' p') : s = s' ∧ p = p' := by
  have h1 := key_of hs hp
  rw [h] at h1
  have := keyed.inj h1 (key_of hs' hp')
  simpa [pk] using this
theorem kl_key {s p : Int} (hs : I64 s) (hp : I64 p) : WideAt.IsKeyLit (kl s p) := keyed.key (key_of hs hp)
/-- A binding, as a value. -/
def bk (b : Fw) : Value := .agg #[.int .i64 b.1, .bool b.2]
/-- A binding, as it reads. -/
def bd (b : Fw) : DataW Unit := .agg [.lit (.int .i64 b.1), .lit (.bool b.2)]
def rdB : Value → Option (DataW Unit × List MemPlace)
  | .agg ⟨[.int .i64 f, .bool w]⟩ => some (bd (f, w), [])
  | _ => none
theorem rdB_mk (b : Fw) : rdB (bk b) = some (bd b, []) := rfl
theorem rdB_inv {v : Value} {y : DataW Unit × List MemPlace} (h : rdB v = some y) : ∃ b, v = bk b ∧ y = (bd b, []) := by
  unfold rdB at h
  split at h
  · injection h with h
    exact ⟨_, rfl, h.symm⟩
  · cases h
theorem bd_inj {b b' : Fw} (h : bd b = bd b') : b = b' := by
  obtain ⟨f, w⟩ := b
  obtain ⟨f', w'⟩ := b'
  simpa [bd] using h
end Go.Proofs.Ytiklneamdfgahaa.Bd
