/-
  Layer 10 (span): what the statements hold on to.
-/
import Derived.Test.YtjidgpomolmglaaSnAwake
import Derived.Test.YtjidgpomolmglaaSnHas
import Derived.Test.YtjidgpomolmglaaMaskMath
namespace Go.Proofs.Ytjidgpomolmglaa.Sn
open Go.ChangeShapes Go.WideShapes Go.ChangeAt Go.RowKit
open Wh
set_option linter.unusedVariables false
set_option maxRecDepth 20000

theorem wpList_load_mid_g {P : Program} {ops : Array Oper} {rest : List Oper} {op : Oper} {a : Act} {w : World} {Q : Exit → Act → World → Prop} (ty : TypeId) (x : Operand) (ho : op.op = .load ty x)
    (b o : Nat) (hx : a.eval x = .pointer (some ⟨b, o, none⟩)) (cs : List Value) (d : TypeDesc) (hc : w.rangeAt b o cs)
    (hu : P.underlying ty = some d) (hd : d.isRow = true) (hi : (P.info? ty).map (·.size) = some cs.length) (hw : Region.wanted op (yielded ops a.tmps) = true)
    (h : wpList P ops Q rest (a.put op.dst (.agg cs.toArray)) w) : wpList P ops Q (op :: rest) a w :=
  wpList_step fun K hK => by rw [if_pos hw]; exact wp_load_mid ty x ho b o hx cs d hc hu hd hi (hK _ _ h)
theorem len0_c (A : Option Addr) (n c lo : Nat) (f : Nat → Bool) (w : World) (h : SetAt w lo A n f) (h0 : ∀ n, f n = false) :
    Calls Try.prog 19 #[.agg #[.slice A n c]] w fun e w' => e = .returned (.int .i64 0) ∧ But [] w w' := by
  have := len_c A n c lo f w h
  rwa [none_len h0] at this
theorem within1_c (A A' : Option Addr) (n n' c c' lo lo' : Nat) (f g : Nat → Bool) (w : World) (hA : SetAt w lo A n f) (hA' : SetAt w lo' A' n' g) (h0 : ∀ n, wo f g n = false) :
    Calls Try.prog 13 #[.agg #[.slice A n c], .agg #[.slice A' n' c']] w fun e w' => e = .returned (.bool true) ∧ But [] w w' := by
  have := within_c A A' n n' c c' lo lo' f g w hA hA'
  rwa [none_len h0] at this
theorem withinb_c (A A' : Option Addr) (n n' c c' lo lo' : Nat) (f g : Nat → Bool) (W : Bool) (w : World) (hA : SetAt w lo A n f) (hA' : SetAt w lo' A' n' g) (h0 : ((nums (wo f g) 1024).length == 0) = W) :
    Calls Try.prog 13 #[.agg #[.slice A n c], .agg #[.slice A' n' c']] w fun e w' => e = .returned (.bool W) ∧ But [] w w' := by
  have := within_c A A' n n' c c' lo lo' f g w hA hA'
  rwa [h0] at this
theorem rallN_c (f : Nat → Bool) (L : Nat) (w : World) (hL : (nums f 1024).length = L) : Calls Try.prog 14 #[.agg (bv f).toArray] w (Told w (nums f 1024) L) :=
  (rall_c f w).mono (fun e w' h => h.told hL)
theorem has_neg {f : Nat → Bool} {m : Int} (h : m < 0) : hasB f m = false := by unfold hasB; rw [decide_eq_false (by omega)]; rfl
theorem has_far {f : Nat → Bool} {m : Int} (h : 1023 < m) : hasB f m = false := by unfold hasB; rw [decide_eq_false (show ¬ m < 1024 by omega), Bool.and_false]; rfl
theorem has_in {f : Nat → Bool} {m : Nat} (h : m < 1024) : hasB f m = f m := by unfold hasB; rw [decide_eq_true (show (0 : Int) ≤ m by omega), decide_eq_true (show (m : Int) < 1024 by omega)]; rfl
theorem first_num (f : Nat → Bool) (N L : Nat) (hL : (nums f 1024).length = L) : nums (fst f N) 1024 = (nums f 1024).take (min N L) ∧ (nums (fst f N) 1024).length = min N L := by
  have h : nums (fst f N) 1024 = (nums f 1024).take (min N L) := by
    rw [fst_nums]
    rcases Nat.lt_or_ge L N with h1 | h1
    · rw [Nat.min_eq_right (by omega), List.take_of_length_le (by omega), List.take_of_length_le (by omega)]
    · rw [Nat.min_eq_left h1]
  exact ⟨h, by rw [h, List.length_take, hL]; omega⟩
theorem allN_c (A : Option Addr) (n c lo : Nat) (f : Nat → Bool) (L : Nat) (w : World) (h : SetAt w lo A n f) (hL : (nums f 1024).length = L) : Calls Try.prog 18 #[.agg #[.slice A n c]] w (Told w (nums f 1024) L) :=
  (all_c A n c lo f w h).mono (fun e w' h => h.told hL)
theorem lenN_c (A : Option Addr) (n c lo : Nat) (f : Nat → Bool) (L : Nat) (w : World) (h : SetAt w lo A n f) (hL : (nums f 1024).length = L) :
    Calls Try.prog 19 #[.agg #[.slice A n c]] w fun e w' => e = .returned (.int .i64 L) ∧ But [] w w' := by
  have := len_c A n c lo f w h
  rwa [hL] at this
/-- A set in a box, and the document's in the next one. -/
theorem box2 (w : World) (v : Value) (f : Nat → Bool) (t t' : TypeId) :
    ((w.alloc (.cells #[v] t)).alloc (.cells (bv f).toArray t')).cell? ⟨w.heap.size, 0, none⟩ = some v ∧ ((w.alloc (.cells #[v] t)).alloc (.cells (bv f).toArray t')).rangeAt (w.heap.size + 1) 0 (bv f) ∧ But [] w ((w.alloc (.cells #[v] t)).alloc (.cells (bv f).toArray t')) := by
  have s1 : (w.alloc (.cells #[v] t)).heap.size = w.heap.size + 1 := by simp
  have c1 := range_cells (new_range w [v] t) 0 _ rfl
  have c2 := new_range (w.alloc (.cells #[v] t)) (bv f) t'
  rw [s1] at c2
  exact ⟨cell_keep (l := []) c1 ((But.refl [] _).alloc _) (by simp), c2, ((But.refl [] w).alloc _).alloc _⟩
theorem b_keep {wb wp wc : World} {p q r s : Nat} {v1 v2 v3 : Value} {cs : List Value} (k : But [] wp wc) (h : wp.cell? ⟨p, 0, none⟩ = some v1 ∧ wp.cell? ⟨q, 0, none⟩ = some v2 ∧ wp.cell? ⟨r, 0, none⟩ = some v3 ∧ wp.rangeAt s 0 cs ∧ But [] wb wp) :
    wc.cell? ⟨p, 0, none⟩ = some v1 ∧ wc.cell? ⟨q, 0, none⟩ = some v2 ∧ wc.cell? ⟨r, 0, none⟩ = some v3 ∧ wc.rangeAt s 0 cs ∧ But [] wb wc :=
  ⟨cell_keep h.1 k (by simp), cell_keep h.2.1 k (by simp), cell_keep h.2.2.1 k (by simp), range_keep h.2.2.2.1 k (by simp), h.2.2.2.2.trans k⟩
theorem l_keep {wb wp wc : World} {p q r s : Nat} {v1 v2 : Value} {cs ds : List Value} (k : But [] wp wc) (h : wp.cell? ⟨p, 0, none⟩ = some v1 ∧ wp.cell? ⟨q, 0, none⟩ = some v2 ∧ wp.rangeAt r 0 cs ∧ wp.rangeAt s 0 ds ∧ But [] wb wp) :
    wc.cell? ⟨p, 0, none⟩ = some v1 ∧ wc.cell? ⟨q, 0, none⟩ = some v2 ∧ wc.rangeAt r 0 cs ∧ wc.rangeAt s 0 ds ∧ But [] wb wc :=
  ⟨cell_keep h.1 k (by simp), cell_keep h.2.1 k (by simp), range_keep h.2.2.1 k (by simp), range_keep h.2.2.2.1 k (by simp), h.2.2.2.2.trans k⟩
theorem Li.take {w : World} {A : Option Addr} {l : List Nat} (h : Li w A l) (k : Nat) : Li w A (l.take k) := by
  by_cases h0 : l.take k = []
  · exact .inl (by rw [h0]; rfl)
  · have hl : 0 < (l.take k).length := List.length_pos_iff.2 h0
    have hl2 : 0 < l.length := by rw [List.length_take] at hl; omega
    obtain ⟨g, off, e, hg, hc⟩ := h.at_ hl2
    refine .inr ⟨g, off, e, Nat.zero_le _, hg, fun j hj => ?_⟩
    rw [il_len, List.length_take] at hj
    rw [hc j (by omega), il_get _ _ (by rw [List.length_take]; omega)]
    simp only [List.getD_eq_getElem?_getD]
    rw [List.getElem?_take, if_pos (by omega)]
/-- The numbers of the first n. -/
theorem fst_out (f : Nat → Bool) (n m : Nat) : wo (fst f n) f m = false := by
  show (fst f n m && !f m) = false
  unfold fst
  cases f m <;> simp
theorem rowOf_keep {ks : List Pk} {w w' : World} {A : Option Addr} {len cap : Nat} (h : RowOf ks w A len cap) (k : But [] w w') : RowOf ks w' A len cap := by
  obtain ⟨h1, h2, h3⟩ := h
  refine ⟨h1, h2, ?_⟩
  rcases h3 with h0 | ⟨b, off, e, hb, hall⟩
  · exact .inl h0
  · exact .inr ⟨b, off, e, Nat.lt_of_lt_of_le hb k.size, fun i hi => by
      obtain ⟨vs, hr, hf⟩ := hall i hi
      exact ⟨vs, range_keep hr k (by simp), hf⟩⟩
theorem i64_bd {a : Int} (h : (Lit.int .i64 a).wf = true) : -9223372036854775808 ≤ a ∧ a ≤ 9223372036854775807 := by
  simp [Lit.wf, IntKind.min, IntKind.max, IntKind.signed, IntKind.bits] at h; omega
theorem eqBool (b : Bool) (w : World) : (binOp .eql 4 (.bool b) (.bool b)).run Try.prog w = .ok (.bool true) w := by cases b <;> kernel_rfl
theorem neqBool (b : Bool) (w : World) : (binOp .neq 4 (.bool b) (.bool b)).run Try.prog w = .ok (.bool false) w := by cases b <;> kernel_rfl
end Go.Proofs.Ytjidgpomolmglaa.Sn
