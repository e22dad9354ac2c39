/-
  A region that draws its order, in which a box is made that waits for nothing ('x := f(..)' where x is boxed): both of what may come up are walked. Nothing of the program is named here.
-/
import Derived.Test.YtfopmdiepaonnaaHeld
import Derived.Test.YtfopmdiepaonnaaBut
namespace Go.Proofs.Ytfopmdiepaonnaa
set_option linter.unusedVariables false
variable {P : Program} {ops : Array Oper} {Q : Exit → Act → World → Prop} {md : Region.Mode} {S : World → Prop}

/-- The two that may come up. -/
theorem held_two (i j : Nat) {oi oj : Oper} {fuel : Nat} {listed : Array Bool} {a : Act} {w : World} (hi : ops[i]? = some oi) (hj : ops[j]? = some oj) (hr : Region.ready md ops listed = [i, j])
    (hwi : Region.wanted oi (yielded ops a.tmps) = true) (hwj : Region.wanted oj (yielded ops a.tmps) = true)
    (h1 : ∀ K' : Act → World → Prop, Shut (∀ a w, S w → (S w → wpAnyH P md ops Q S fuel (listed.setIfInBounds i true) a w) → K' a w) → Oper.wp P oi a w K' Q)
    (h2 : ∀ K' : Act → World → Prop, Shut (∀ a w, S w → (S w → wpAnyH P md ops Q S fuel (listed.setIfInBounds j true) a w) → K' a w) → Oper.wp P oj a w K' Q) : wpAnyH P md ops Q S (fuel + 1) listed a w :=
  wpAnyH_ready hr (by simp) (AllReadyH.cons hi (fun K hK => by rw [if_pos hwi]; exact h1 K hK) (AllReadyH.cons hj (fun K hK => by rw [if_pos hwj]; exact h2 K hK) AllReadyH.nil))
/-- A box that is made: where it lies, and what of it is known. -/
theorem made_box (w : World) (cs : Array Value) (t : TypeId) (n : Nat) (hn : cs.size = n) : (w.alloc (.cells cs t)).there w.heap.size 0 n ∧ w.heap.size < (w.alloc (.cells cs t)).heap.size ∧ But [] w (w.alloc (.cells cs t)) :=
  ⟨there_new w cs t n hn, by simp, (But.refl [] w).alloc _⟩
end Go.Proofs.Ytfopmdiepaonnaa
