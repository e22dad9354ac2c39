/-
  A region that draws its order, of which ONE operation (a store) may turn what others ahead of it read, while yet others, that read no memory, may come up behind it as well as ahead ('x, _ = x.F(..)'): all are taken in the order of the text. Nothing of the program is named here.
-/
import Derived.Test.YtfopmdiepaonnaaLast
namespace Go.Proofs.Ytfopmdiepaonnaa
set_option linter.unusedVariables false
variable {P : Program} {ops : Array Oper} {Q : Exit → Act → World → Prop} {md : Region.Mode} {S : World → Prop}

/-- Whatever order is picked: S holds behind each operation ahead of z. -/
def Tib (P : Program) (md : Region.Mode) (ops : Array Oper) (Q : Exit → Act → World → Prop) (S : World → Prop) (z : Nat) : Nat → Array Bool → Act → World → Prop
  | 0, listed, a, w => Region.ready md ops listed = [] ∧ Q .normal a w
  | fuel + 1, listed, a, w =>
    (Region.ready md ops listed = [] → Q .normal a w) ∧
    ∀ i ∈ Region.ready md ops listed, wpOp P ops Q i (fun a' w' => (i ≠ z → listed.getD z false = false → S w') ∧ Tib P md ops Q S z fuel (listed.setIfInBounds i true) a' w') a w
theorem tib_any (z : Nat) : ∀ (fuel : Nat) (listed : Array Bool) (a : Act) (w : World), Tib P md ops Q S z fuel listed a w → wpAny P md ops Q fuel listed a w
  | 0, _, _, _, h => h
  | fuel + 1, _, _, _, h => ⟨h.1, fun i hi => wpOp_mono (fun a' w' h' => tib_any z fuel _ a' w' h'.2) (h.2 i hi)⟩
theorem tib_first {z i : Nat} {oi : Oper} {v : Value} (hi : ops[i]? = some oi) (hsel : Region.noSelect ops = true) (hQ : ∀ c a w, Q (.panic c) (a.put oi.dst v) w → Q (.panic c) a w) (hwz : waitsB md ops z i = true) (hiz : i ≠ z) :
    ∀ (fuel : Nat) (listed : Array Bool) (a : Act) (w : World),
      (∀ j oj, ops[j]? = some oj → j ≠ i → listed.getD j true = false → (∀ e ∈ oj.after, Region.binds md e = true → e.on ≠ i) → oi.apart ops oj = true) →
      i ∈ Region.ready md ops listed → YieldsIf P ops S oi v a → S w → listed.getD z false = false → Tib P md ops Q S z fuel (listed.setIfInBounds i true) (a.put oi.dst v) w → Tib P md ops Q S z (fuel + 1) listed a w := by
  have hs := fun j o cs b => Region.noSelect_spec (ops := ops) hsel j o cs b
  intro fuel
  induction fuel with
  | zero =>
    intro listed a w _ hr hy hS hz H
    refine ⟨fun h => (by rw [h] at hr; cases hr), fun j hj => ?_⟩
    rcases Decidable.em (j = i) with rfl | hji
    · exact hy.wpOp hi hS ⟨fun _ _ => hS, H⟩
    · exact absurd (ready_mono hj hji) (by rw [H.1]; simp)
  | succ fuel ih =>
    intro listed a w hfree hr hy hS hz H
    refine ⟨fun h => (by rw [h] at hr; cases hr), fun j hj => ?_⟩
    rcases Decidable.em (j = i) with rfl | hji
    · exact hy.wpOp hi hS ⟨fun _ _ => hS, H⟩
    · have hjz : j ≠ z := fun e => not_ready hwz (ready_open hr) (e ▸ hj)
      have h1 := H.2 j (ready_mono hj hji)
      obtain ⟨hjun, oj, hoj, hall⟩ := mem_ready.1 hj
      have hnot : ∀ e ∈ oj.after, Region.binds md e = true → e.on ≠ i := fun e he hb heq => by
        have h1 := hall e he hb
        rw [heq, ready_open hr] at h1
        cases h1
      have hz1 : (listed.setIfInBounds i true).getD z false = false := by rw [getD_set_ne false hiz]; exact hz
      have hz2 : (listed.setIfInBounds j true).getD z false = false := by rw [getD_set_ne false hjz]; exact hz
      have h2 := wpOp_putIf hoj (hfree j oj hoj hji hjun hnot) (fun cs b => hs i oi cs b hi) (fun cs b => hs j oj cs b hoj) hQ hy h1
      refine wpOp_mono (fun a' w' h3 => ⟨fun _ _ => h3.2.1 hjz hz1, ih (listed.setIfInBounds j true) a' w' (fun k ok hk hki hun hno => hfree k ok hk hki ?_ hno) (ready_mono hr (Ne.symm hji)) h3.1 (h3.2.1 hjz hz1) hz2 ?_⟩) h2
      · rcases Decidable.em (j = k) with rfl | hjk
        · exact hjun
        · rw [getD_set_ne true hjk] at hun; exact hun
      · rw [Array.setIfInBounds_comm _ _ hji]
        exact h3.2.2
/-- One that reads no memory. -/
theorem tib_pure {z i : Nat} {oi : Oper} {v : Value} (hi : ops[i]? = some oi) (hsel : Region.noSelect ops = true) (hQ : ∀ c a w, Q (.panic c) (a.put oi.dst v) w → Q (.panic c) a w) (hiz : i ≠ z) :
    ∀ (fuel : Nat) (listed : Array Bool) (a : Act) (w : World),
      (∀ j oj, ops[j]? = some oj → j ≠ i → listed.getD j true = false → (∀ e ∈ oj.after, Region.binds md e = true → e.on ≠ i) → oi.apart ops oj = true) →
      i ∈ Region.ready md ops listed → YieldsIf P ops (fun _ => True) oi v a → (listed.getD z false = false → S w) → Tib P md ops Q S z fuel (listed.setIfInBounds i true) (a.put oi.dst v) w → Tib P md ops Q S z (fuel + 1) listed a w := by
  have hs := fun j o cs b => Region.noSelect_spec (ops := ops) hsel j o cs b
  intro fuel
  induction fuel with
  | zero =>
    intro listed a w _ hr hy hS H
    refine ⟨fun h => (by rw [h] at hr; cases hr), fun j hj => ?_⟩
    rcases Decidable.em (j = i) with rfl | hji
    · exact hy.wpOp hi trivial ⟨fun _ => hS, H⟩
    · exact absurd (ready_mono hj hji) (by rw [H.1]; simp)
  | succ fuel ih =>
    intro listed a w hfree hr hy hS H
    refine ⟨fun h => (by rw [h] at hr; cases hr), fun j hj => ?_⟩
    rcases Decidable.em (j = i) with rfl | hji
    · exact hy.wpOp hi trivial ⟨fun _ => hS, H⟩
    · have h1 := H.2 j (ready_mono hj hji)
      obtain ⟨hjun, oj, hoj, hall⟩ := mem_ready.1 hj
      have hnot : ∀ e ∈ oj.after, Region.binds md e = true → e.on ≠ i := fun e he hb heq => by
        have h1 := hall e he hb
        rw [heq, ready_open hr] at h1
        cases h1
      have h2 := wpOp_putIf hoj (hfree j oj hoj hji hjun hnot) (fun cs b => hs i oi cs b hi) (fun cs b => hs j oj cs b hoj) hQ hy h1
      have hz1 : (listed.setIfInBounds i true).getD z false = listed.getD z false := getD_set_ne false hiz
      refine wpOp_mono (fun a' w' h3 => ⟨fun hjz h0 => h3.2.1 hjz (hz1.trans h0), ih (listed.setIfInBounds j true) a' w' (fun k ok hk hki hun hno => hfree k ok hk hki ?_ hno) (ready_mono hr (Ne.symm hji)) h3.1 (fun h0 => ?_) ?_⟩) h2
      · rcases Decidable.em (j = k) with rfl | hjk
        · exact hjun
        · rw [getD_set_ne true hjk] at hun; exact hun
      · rcases Decidable.em (j = z) with rfl | hjz
        · exfalso
          have hlt : j < listed.size := by
            rcases Nat.lt_or_ge j listed.size with h' | h'
            · exact h'
            · rw [Array.getD_eq_getD_getElem?, Array.getElem?_eq_none h'] at hjun; cases hjun
          simp [hlt] at h0
        · exact h3.2.1 hjz (by rw [hz1, ← getD_set_ne false hjz]; exact h0)
      · rw [Array.setIfInBounds_comm _ _ hji]
        exact h3.2.2
/-- One that only reads is taken first. -/
theorem tib_take (i : Nat) (d : Option Tmp) (v : Value) {z : Nat} {oi : Oper} {fuel : Nat} {listed : Array Bool} {a : Act} {w : World} (hi : ops[i]? = some oi) (hd : oi.dst = d)
    (hs : Region.noSelect ops = true) (hf : Region.free md ops listed i = true) (hr : (Region.ready md ops listed).contains i = true) (hwz : waitsB md ops z i = true) (hiz : i ≠ z)
    (hQ : ∀ c a w, Q (.panic c) (a.put oi.dst v) w → Q (.panic c) a w) (hy : YieldsIf P ops S oi v a) (hS : S w) (hz : listed.getD z false = false)
    (h : Tib P md ops Q S z fuel (listed.setIfInBounds i true) (a.put d v) w) : Tib P md ops Q S z (fuel + 1) listed a w := by
  subst hd
  exact tib_first hi hs hQ hwz hiz fuel listed a w (Region.free_spec hi hf) (by simpa using hr) hy hS hz h
theorem tib_take0 (i : Nat) (d : Option Tmp) (v : Value) {z : Nat} {oi : Oper} {fuel : Nat} {listed : Array Bool} {a : Act} {w : World} (hi : ops[i]? = some oi) (hd : oi.dst = d)
    (hs : Region.noSelect ops = true) (hf : Region.free md ops listed i = true) (hr : (Region.ready md ops listed).contains i = true) (hiz : i ≠ z)
    (hQ : ∀ c a w, Q (.panic c) (a.put oi.dst v) w → Q (.panic c) a w) (hy : YieldsIf P ops (fun _ => True) oi v a) (hS : listed.getD z false = false → S w)
    (h : Tib P md ops Q S z fuel (listed.setIfInBounds i true) (a.put d v) w) : Tib P md ops Q S z (fuel + 1) listed a w := by
  subst hd
  exact tib_pure hi hs hQ hiz fuel listed a w (Region.free_spec hi hf) (by simpa using hr) hy hS h
/-- Behind z nothing is asked. -/
theorem tib_past {z : Nat} {listed : Array Bool} {p : Prop} (h : listed.getD z false = true) : listed.getD z false = false → p := fun h' => by rw [h] at h'; cases h'
theorem tib_done {z : Nat} {listed : Array Bool} {a : Act} {w : World} (hr : Region.ready md ops listed = []) (h : Q .normal a w) : ∀ fuel, Tib P md ops Q S z fuel listed a w
  | 0 => ⟨hr, h⟩
  | _ + 1 => ⟨fun _ => h, by rw [hr]; simp⟩
theorem tib_begin (S : World → Prop) (z : Nat) {id : Nat} {a : Act} {w : World} (hm : P.follows .mixedOrders = true)
    (h : Tib P .any ops Q S z ops.size (Array.replicate ops.size false) a w.drew) : (Code.region id ops true).wp P Q a w := wp_region_any hm (tib_any z _ _ _ _ h)
/-- The only one that may come up: what follows is kept shut. -/
theorem tib_one (i : Nat) {z : Nat} {oi : Oper} {fuel : Nat} {listed : Array Bool} {a : Act} {w : World} (hi : ops[i]? = some oi) (hr : Region.ready md ops listed = [i]) (hw : Region.wanted oi (yielded ops a.tmps) = true)
    (h : ∀ K' : Act → World → Prop, Shut (∀ a' w', ((i ≠ z → listed.getD z false = false → S w') ∧ Tib P md ops Q S z fuel (listed.setIfInBounds i true) a' w') → K' a' w') → Oper.wp P oi a w K' Q) : Tib P md ops Q S z (fuel + 1) listed a w := by
  refine ⟨fun h0 => (by rw [hr] at h0; cases h0), fun j hj => ?_⟩
  rw [hr] at hj
  obtain rfl : j = i := by simpa using hj
  unfold wpOp
  simp only [hi, hw, if_true]
  exact .inl (h _ (fun _ _ h => h))
end Go.Proofs.Ytfopmdiepaonnaa
