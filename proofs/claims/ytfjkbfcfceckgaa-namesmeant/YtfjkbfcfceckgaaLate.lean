/-
  A region that draws its order, of which ONE operation, z, may turn what the others read, where some that only hand on what was told need not be ahead of it ('t, _, _ = t.Add(n)': the results that go nowhere): what holds till z is done. Nothing of the program is named here.
-/
import Derived.Test.YtfjkbfcfceckgaaLast
namespace Go.Proofs.Ytfjkbfcfceckgaa
set_option linter.unusedVariables false
variable {P : Program} {ops : Array Oper} {Q : Exit → Act → World → Prop} {md : Region.Mode} {S : World → Prop}

/-- Whatever order is picked: S holds behind each operation ahead of z. -/
def Late (P : Program) (md : Region.Mode) (ops : Array Oper) (Q : Exit → Act → World → Prop) (S : World → Prop) (z : Nat) : Nat → Array Bool → Act → World → Prop
  | 0, listed, a, w => Region.ready md ops listed = [] ∧ Q .normal a w
  | fuel + 1, listed, a, w =>
    (Region.ready md ops listed = [] → Q .normal a w) ∧
    ∀ i ∈ Region.ready md ops listed, wpOp P ops Q i (fun a' w' => (i ≠ z → listed.getD z true = false → S w') ∧ Late P md ops Q S z fuel (listed.setIfInBounds i true) a' w') a w
theorem late_any (z : Nat) : ∀ (fuel : Nat) (listed : Array Bool) (a : Act) (w : World), Late P md ops Q S z fuel listed a w → wpAny P md ops Q fuel listed a w
  | 0, _, _, _, h => h
  | fuel + 1, _, _, _, h => ⟨h.1, fun i hi => wpOp_mono (fun a' w' h' => late_any z fuel _ a' w' h'.2) (h.2 i hi)⟩
theorem getD_set_same {listed : Array Bool} {z : Nat} : (listed.setIfInBounds z true).getD z true = true := by
  rcases Nat.lt_or_ge z listed.size with h | h
  · simp [h]
  · simp [h]
theorem late_first {z i : Nat} {oi : Oper} {v : Value} (hi : ops[i]? = some oi) (hsel : Region.noSelect ops = true) (hQ : ∀ c a w, Q (.panic c) (a.put oi.dst v) w → Q (.panic c) a w) (hwz : waitsB md ops z i = true) (hiz : i ≠ z) :
    ∀ (fuel : Nat) (listed : Array Bool) (a : Act) (w : World),
      (∀ j oj, ops[j]? = some oj → j ≠ i → listed.getD j true = false → (∀ e ∈ oj.after, Region.binds md e = true → e.on ≠ i) → oi.apart ops oj = true) →
      listed.getD z true = false → i ∈ Region.ready md ops listed → YieldsIf P ops S oi v a → S w → Late P md ops Q S z fuel (listed.setIfInBounds i true) (a.put oi.dst v) w → Late P md ops Q S z (fuel + 1) listed a w := by
  have hs := fun j o cs b => Region.noSelect_spec (ops := ops) hsel j o cs b
  intro fuel
  induction fuel with
  | zero =>
    intro listed a w _ hzl hr hy hS H
    refine ⟨fun h => (by rw [h] at hr; cases hr), fun j hj => ?_⟩
    rcases Decidable.em (j = i) with rfl | hji
    · exact hy.wpOp hi hS ⟨fun _ _ => hS, H⟩
    · exact absurd (ready_mono hj hji) (by rw [H.1]; simp)
  | succ fuel ih =>
    intro listed a w hfree hzl hr hy hS H
    refine ⟨fun h => (by rw [h] at hr; cases hr), fun j hj => ?_⟩
    rcases Decidable.em (j = i) with rfl | hji
    · exact hy.wpOp hi hS ⟨fun _ _ => hS, H⟩
    · have hjz : j ≠ z := fun e => not_ready hwz (ready_open hr) (e ▸ hj)
      have h1 := H.2 j (ready_mono hj hji)
      obtain ⟨hjun, oj, hoj, hall⟩ := mem_ready.1 hj
      have hnot : ∀ e ∈ oj.after, Region.binds md e = true → e.on ≠ i := fun e he hb heq => by
        have h1 := hall e he hb
        rw [heq, ready_open hr] at h1
        cases h1
      have h2 := wpOp_putIf hoj (hfree j oj hoj hji hjun hnot) (fun cs b => hs i oi cs b hi) (fun cs b => hs j oj cs b hoj) hQ hy h1
      have hzi : (listed.setIfInBounds i true).getD z true = false := by rw [getD_set_ne true hiz]; exact hzl
      refine wpOp_mono (fun a' w' h3 => ⟨fun a b => h3.2.1 a hzi, ih (listed.setIfInBounds j true) a' w' (fun k ok hk hki hun hno => hfree k ok hk hki ?_ hno) (by rw [getD_set_ne true hjz]; exact hzl) (ready_mono hr (Ne.symm hji)) h3.1 (h3.2.1 hjz hzi) ?_⟩) h2
      · rcases Decidable.em (j = k) with rfl | hjk
        · exact hjun
        · rw [getD_set_ne true hjk] at hun; exact hun
      · rw [Array.setIfInBounds_comm _ _ hji]
        exact h3.2.2
/-- One that reads no memory may be taken first, whatever z waits for. -/
theorem late_free {z i : Nat} {oi : Oper} {v : Value} (hi : ops[i]? = some oi) (hsel : Region.noSelect ops = true) (hQ : ∀ c a w, Q (.panic c) (a.put oi.dst v) w → Q (.panic c) a w) (hiz : i ≠ z) :
    ∀ (fuel : Nat) (listed : Array Bool) (a : Act) (w : World),
      (∀ j oj, ops[j]? = some oj → j ≠ i → listed.getD j true = false → (∀ e ∈ oj.after, Region.binds md e = true → e.on ≠ i) → oi.apart ops oj = true) →
      (listed.getD z true = false → S w) → i ∈ Region.ready md ops listed → YieldsIf P ops (fun _ => True) oi v a → Late P md ops Q S z fuel (listed.setIfInBounds i true) (a.put oi.dst v) w → Late P md ops Q S z (fuel + 1) listed a w := by
  have hs := fun j o cs b => Region.noSelect_spec (ops := ops) hsel j o cs b
  intro fuel
  induction fuel with
  | zero =>
    intro listed a w _ hS hr hy H
    refine ⟨fun h => (by rw [h] at hr; cases hr), fun j hj => ?_⟩
    rcases Decidable.em (j = i) with rfl | hji
    · exact hy.wpOp hi trivial ⟨fun _ => hS, H⟩
    · exact absurd (ready_mono hj hji) (by rw [H.1]; simp)
  | succ fuel ih =>
    intro listed a w hfree hS hr hy H
    refine ⟨fun h => (by rw [h] at hr; cases hr), fun j hj => ?_⟩
    rcases Decidable.em (j = i) with rfl | hji
    · exact hy.wpOp hi trivial ⟨fun _ => hS, H⟩
    · have h1 := H.2 j (ready_mono hj hji)
      obtain ⟨hjun, oj, hoj, hall⟩ := mem_ready.1 hj
      have hnot : ∀ e ∈ oj.after, Region.binds md e = true → e.on ≠ i := fun e he hb heq => by
        have h1 := hall e he hb
        rw [heq, ready_open hr] at h1
        cases h1
      have h2 := wpOp_putIf hoj (hfree j oj hoj hji hjun hnot) (fun cs b => hs i oi cs b hi) (fun cs b => hs j oj cs b hoj) hQ hy h1
      have hzi : listed.getD z true = false → (listed.setIfInBounds i true).getD z true = false := fun h => by rw [getD_set_ne true hiz]; exact h
      refine wpOp_mono (fun a' w' h3 => ⟨fun a b => h3.2.1 a (hzi b), ih (listed.setIfInBounds j true) a' w' (fun k ok hk hki hun hno => hfree k ok hk hki ?_ hno) (fun hz => ?_) (ready_mono hr (Ne.symm hji)) h3.1 ?_⟩) h2
      · rcases Decidable.em (j = k) with rfl | hjk
        · exact hjun
        · rw [getD_set_ne true hjk] at hun; exact hun
      · rcases Decidable.em (j = z) with rfl | hjz
        · rw [getD_set_same] at hz; cases hz
        · rw [getD_set_ne true hjz] at hz
          exact h3.2.1 hjz (hzi hz)
      · rw [Array.setIfInBounds_comm _ _ hji]
        exact h3.2.2
/-- One that only reads, and that z waits for, is taken first. -/
theorem late_take (i : Nat) (d : Option Tmp) (v : Value) {z : Nat} {oi : Oper} {fuel : Nat} {listed : Array Bool} {a : Act} {w : World} (hi : ops[i]? = some oi) (hd : oi.dst = d)
    (hs : Region.noSelect ops = true) (hf : Region.free md ops listed i = true) (hr : (Region.ready md ops listed).contains i = true) (hwz : waitsB md ops z i = true) (hzl : listed.getD z true = false) (hiz : i ≠ z)
    (hQ : ∀ c a w, Q (.panic c) (a.put oi.dst v) w → Q (.panic c) a w) (hy : YieldsIf P ops S oi v a) (hS : S w)
    (h : Late P md ops Q S z fuel (listed.setIfInBounds i true) (a.put d v) w) : Late P md ops Q S z (fuel + 1) listed a w := by
  subst hd
  exact late_first hi hs hQ hwz hiz fuel listed a w (Region.free_spec hi hf) hzl (by simpa using hr) hy hS h
theorem late_hand (i : Nat) (d : Option Tmp) (v : Value) {z : Nat} {oi : Oper} {fuel : Nat} {listed : Array Bool} {a : Act} {w : World} (hi : ops[i]? = some oi) (hd : oi.dst = d)
    (hs : Region.noSelect ops = true) (hf : Region.free md ops listed i = true) (hr : (Region.ready md ops listed).contains i = true) (hiz : i ≠ z)
    (hQ : ∀ c a w, Q (.panic c) (a.put oi.dst v) w → Q (.panic c) a w) (hy : YieldsIf P ops (fun _ => True) oi v a) (hS : S w)
    (h : Late P md ops Q S z fuel (listed.setIfInBounds i true) (a.put d v) w) : Late P md ops Q S z (fuel + 1) listed a w := by
  subst hd
  exact late_free hi hs hQ hiz fuel listed a w (Region.free_spec hi hf) (fun _ => hS) (by simpa using hr) hy h
/-- The only one that may come up: what follows is kept shut. -/
theorem late_one (i : Nat) {z : Nat} {oi : Oper} {fuel : Nat} {listed : Array Bool} {a : Act} {w : World} (hi : ops[i]? = some oi) (hr : Region.ready md ops listed = [i]) (hw : Region.wanted oi (yielded ops a.tmps) = true)
    (h : ∀ K' : Act → World → Prop, Shut (∀ a' w', ((i ≠ z → S w') ∧ Late P md ops Q S z fuel (listed.setIfInBounds i true) a' w') → K' a' w') → Oper.wp P oi a w K' Q) : Late P md ops Q S z (fuel + 1) listed a w := by
  refine ⟨fun h0 => (by rw [hr] at h0; cases h0), fun j hj => ?_⟩
  rw [hr] at hj
  obtain rfl : j = i := by simpa using hj
  unfold wpOp
  simp only [hi, hw, if_true]
  exact .inl (h _ (fun _ _ h => ⟨fun a _ => h.1 a, h.2⟩))
theorem late_done {z : Nat} {listed : Array Bool} {a : Act} {w : World} (hr : Region.ready md ops listed = []) (h : Q .normal a w) : ∀ fuel, Late P md ops Q S z fuel listed a w
  | 0 => ⟨hr, h⟩
  | _ + 1 => ⟨fun _ => h, by rw [hr]; simp⟩
theorem late_begin (S : World → Prop) (z : Nat) {id : Nat} {a : Act} {w : World} (hm : P.follows .mixedOrders = true)
    (h : Late P .any ops Q S z ops.size (Array.replicate ops.size false) a w.drew) : (Code.region id ops true).wp P Q a w := wp_region_any hm (late_any z _ _ _ _ h)
end Go.Proofs.Ytfjkbfcfceckgaa
