/-
  Layer 11 (names): what the statements hold on to.
-/
import Derived.Test.YtfjkbfcfceckgaaNmSame
import Derived.Test.YtfjkbfcfceckgaaNmMade
import Derived.Test.YtfjkbfcfceckgaaNmAwake
import Derived.Test.YtfjkbfcfceckgaaNmEq
import Derived.Test.YtfjkbfcfceckgaaSnHas
import Derived.Test.YtfjkbfcfceckgaaMaskMath
namespace Go.Proofs.Ytfjkbfcfceckgaa.Nm
open Go.ChangeShapes Go.WideShapes Go.ChangeAt Go.RowKit
open Wh Sn
set_option linter.unusedVariables false
set_option maxRecDepth 20000

theorem rowOf_keep {ks : List Pk} {w w' : World} {A : Option Addr} {len cap : Nat} (h : RowOf ks w A len cap) (k : But [] w w') : RowOf ks w' A len cap := by
  obtain ⟨h1, h2, h3⟩ := h
  refine ⟨h1, h2, ?_⟩
  rcases h3 with h0 | ⟨b, off, e, hb, hall⟩
  · exact .inl h0
  · exact .inr ⟨b, off, e, Nat.lt_of_lt_of_le hb k.size, fun i hi => by
      obtain ⟨vs, hr, hf⟩ := hall i hi
      exact ⟨vs, range_keep hr k (by simp), hf⟩⟩
theorem within1_c (A A' : Option Addr) (n n' c c' lo lo' : Nat) (f g : Nat → Bool) (w : World) (hA : SetAt w lo A n f) (hA' : SetAt w lo' A' n' g) (h0 : ∀ v, f v = true → g v = true) :
    Calls Try.prog 20 #[.agg #[.slice A n c], .agg #[.slice A' n' c']] w fun e w' => e = .returned (.bool true) ∧ But [] w w' := by
  have := within_c A A' n n' c c' lo lo' f g w hA hA'
  rwa [wo_none h0] at this
theorem same1_c (T U : Tf) (w : World) (h : T = U) :
    Calls Try.prog 18 #[.agg (tv T).toArray, .agg (tv U).toArray] w fun e w' => e = .returned (.bool true) ∧ But [] w w' := by
  have := same_c T U w
  rwa [eqT_of (fun j _ => by rw [h])] at this
theorem rthrough2_c (A A' : Option Addr) (n n' c c' lo lo' : Nat) (T U : Tf) (w : World) (h : Dl w lo A n T) (h' : Dl w lo' A' n' U) (hT : Tn T n) (hU : Tn U n') :
    Calls Try.prog 17 #[.slice A n c, .slice A' n' c'] w (Lists w w.heap.size n (thr T U)) := by
  have := rthrough_c A A' n n' c c' lo lo' T U w h h' hT.le
  rwa [hU.thr_eq] at this
theorem lenK_c (T : Tf) (k : Nat) (hT : Ok T) (h : (nums (has T) 512).length = k) (w : World) :
    Calls Try.prog 24 #[.agg (tv T).toArray] w fun e w' => e = .returned (.int .i64 k) ∧ But [] w w' := by
  have := len_c T hT w
  rwa [h] at this
theorem r_keep3 {wb wp wc : World} {p q r : Nat} {cs ds es : List Value} (k : But [] wp wc) (h : wp.rangeAt p 0 cs ∧ wp.rangeAt q 0 ds ∧ wp.rangeAt r 0 es ∧ But [] wb wp) :
    wc.rangeAt p 0 cs ∧ wc.rangeAt q 0 ds ∧ wc.rangeAt r 0 es ∧ But [] wb wc :=
  ⟨range_keep h.1 k (by simp), range_keep h.2.1 k (by simp), range_keep h.2.2.1 k (by simp), h.2.2.2.trans k⟩
theorem r_keep2 {wb wp wc : World} {p q : Nat} {cs ds : List Value} (k : But [] wp wc) (h : wp.rangeAt p 0 cs ∧ wp.rangeAt q 0 ds ∧ But [] wb wp) :
    wc.rangeAt p 0 cs ∧ wc.rangeAt q 0 ds ∧ But [] wb wc :=
  ⟨range_keep h.1 k (by simp), range_keep h.2.1 k (by simp), h.2.2.trans k⟩
theorem c_keep2 {wb wp wc : World} {p q o : Nat} {v u : Value} (k : But [] wp wc) (h : wp.cell? ⟨p, 0, none⟩ = some v ∧ wp.cell? ⟨q, o, none⟩ = some u ∧ But [] wb wp) :
    wc.cell? ⟨p, 0, none⟩ = some v ∧ wc.cell? ⟨q, o, none⟩ = some u ∧ But [] wb wc :=
  ⟨cell_keep h.1 k (by simp), cell_keep h.2.1 k (by simp), h.2.2.trans k⟩
theorem ez_end {z : Bool} {T U : Tf} {j : Nat} (h : Ez z T U j) (h3 : ∀ q, 512 ≤ q → T q = U q) (hp : ∀ q, j ≤ q → T q = U q) : eqT T U = z := by
  have hj : eqT T U = true ↔ z = true := by
    rw [eqT_iff]
    constructor
    · intro h1
      refine Iff.mpr h (fun q hq => ?_)
      rcases Nat.lt_or_ge q 512 with h2 | h2
      · exact h1 q h2
      · exact h3 q h2
    · intro h1 q _
      rcases Nat.lt_or_ge q j with h2 | h2
      · exact Iff.mp h h1 q h2
      · exact hp q h2
  cases hz : z <;> cases he : eqT T U <;> simp_all
theorem i64_bd {a : Int} (h : (Lit.int .i64 a).wf = true) : -9223372036854775808 ≤ a ∧ a ≤ 9223372036854775807 := by
  simp [Lit.wf, IntKind.min, IntKind.max, IntKind.signed, IntKind.bits] at h; omega
/-- What is told of a number that is -1 for none. -/
def Tld (k at_ : Int) (ok : Bool) : Prop := (0 ≤ k ∧ at_ = k ∧ ok = true) ∨ (k < 0 ∧ at_ = 0 ∧ ok = false)
theorem Pr3_cases (U : Tf) (k : Int) : ∃ (at_ : Int) (ok : Bool), Pr3 U k = .tuple #[.agg (tv U).toArray, .int .i64 at_, .bool ok] ∧ Tld k at_ ok := by
  by_cases h : k < 0
  · exact ⟨0, false, Pr3_no h, .inr ⟨h, rfl, rfl⟩⟩
  · exact ⟨k, true, Pr3_yes (by omega), .inl ⟨by omega, rfl, rfl⟩⟩
theorem Pr_cases (k : Int) : ∃ (at_ : Int) (ok : Bool), Pr k = .tuple #[.int .i64 at_, .bool ok] ∧ Tld k at_ ok := by
  by_cases h : k < 0
  · exact ⟨0, false, Pr_no h, .inr ⟨h, rfl, rfl⟩⟩
  · exact ⟨k, true, Pr_yes (by omega), .inl ⟨by omega, rfl, rfl⟩⟩
theorem hid {p : Prop} (h : p) : Hid p := h
end Go.Proofs.Ytfjkbfcfceckgaa.Nm
