/-
  Words of my own for whole rows: what is known of a type, a store into what was made just ahead, a row of ints that may be added to and written. Nothing of the program is named here.
-/
import Derived.Test.YtfopmdiepaonnaaQue
import Derived.Test.YtfopmdiepaonnaaMem
namespace Go.Proofs.Ytfopmdiepaonnaa.Wh
open Go.RowKit
set_option linter.unusedVariables false

theorem info_parts {P : Program} {t : TypeId} {z : Value} {s b : Nat} (h : (P.info? t).map (fun i => (i.zero, i.size, i.bytes)) = some (some z, s, b)) : ∃ i, P.info? t = some i ∧ i.zero = some z ∧ i.size = s ∧ i.bytes = b := by
  cases hq : P.info? t with
  | none => simp [hq] at h
  | some i =>
    simp [hq] at h
    exact ⟨i, rfl, h.1, h.2.1, h.2.2⟩
/-- A block that is laid whole into one that was made just ahead of it. -/
theorem setCells_new (w : World) (z : Array Value) (t : TypeId) (cs : List Value) (hz : z.size = cs.length) : (w.alloc (.cells z t)).setCells w.heap.size 0 cs = w.alloc (.cells cs.toArray t) := by
  have key : ∀ (cs : List Value) (o : Nat) (z : Array Value), o + cs.length ≤ z.size → (w.alloc (.cells z t)).setCells w.heap.size o cs = w.alloc (.cells (z.toList.take o ++ cs ++ z.toList.drop (o + cs.length)).toArray t) := by
    intro cs
    induction cs with
    | nil => intro o z _; simp [World.setCells]
    | cons c cs ih =>
      intro o z hz
      show ((w.alloc (.cells z t)).setCell ⟨w.heap.size, o, none⟩ c).setCells w.heap.size (o + 1) cs = _
      rw [World.setCell_alloc_new, ih (o + 1) _ (by simp at hz ⊢; omega)]
      congr 2
      have hlt : o < z.toList.length := by simp at hz ⊢; omega
      have e1 : (z.toList.set o c).take (o + 1) = z.toList.take o ++ [c] := by
        rw [List.take_add_one, List.getElem?_set_self hlt, List.take_set_of_le (Nat.le_refl _)]
        rfl
      have e2 : (z.toList.set o c).drop (o + 1 + cs.length) = z.toList.drop (o + (c :: cs).length) := by
        rw [List.drop_set_of_lt (by omega)]
        simp [Nat.add_assoc, Nat.add_comm 1]
      rw [Array.toList_setIfInBounds, e1, e2]
      simp
  rw [key cs 0 z (by omega)]
  congr 2
  rw [List.drop_of_length_le (by simp; omega)]
  simp
/-- The store of a whole struct or array into a box that was made just ahead of it. -/
theorem wpList_store_new {P : Program} {ops : Array Oper} {rest : List Oper} {o : Oper} {a : Act} {w : World} {Q : Exit → Act → World → Prop} (hgd : o.guard = none) (ty : TypeId) (x y : Operand) (ho : o.op = .store ty x y)
    (z cs : Array Value) (hx : a.eval x = .pointer (some ⟨w.heap.size, 0, none⟩)) (hy : a.eval y = .agg cs) (hi : (P.info? ty).map (·.size) = some cs.size) (hz : z.size = cs.size) (h1 : cs.all (·.oneCell') = true)
    (h : wpList P ops Q rest (a.put o.dst undef) (w.alloc (.cells cs ty))) : wpList P ops Q (o :: rest) a (w.alloc (.cells z ty)) :=
  wpList_plain hgd fun _ hK => by
    unfold Oper.wp execOp
    simp only [ho, hx, hy, Sem.run_bind, run_storeAt_new w ty z cs hi hz h1, Result.andThen_ok]
    exact hK _ _ h
theorem wpList_store_newAt {P : Program} {ops : Array Oper} {rest : List Oper} {o : Oper} {a : Act} {w : World} {Q : Exit → Act → World → Prop} (hgd : o.guard = none) (ty : TypeId) (x y : Operand) (ho : o.op = .store ty x y) (B : Nat) (hB : w.heap.size = B)
    (z cs : Array Value) (hx : a.eval x = .pointer (some ⟨B, 0, none⟩)) (hy : a.eval y = .agg cs) (hi : (P.info? ty).map (·.size) = some cs.size) (hz : z.size = cs.size) (h1 : cs.all (·.oneCell') = true)
    (h : wpList P ops Q rest (a.put o.dst undef) (w.alloc (.cells cs ty))) : wpList P ops Q (o :: rest) a (w.alloc (.cells z ty)) := by
  subst hB
  exact wpList_store_new hgd ty x y ho z cs hx hy hi hz h1 h
/-- Numbers as cells. -/
def ic (l : List Nat) : List Value := l.map fun (n : Nat) => Value.int .i64 (n : Int)
theorem ic_len (l : List Nat) : (ic l).length = l.length := by simp [ic]
theorem ic_app (l k : List Nat) : ic (l ++ k) = ic l ++ ic k := by simp [ic]
theorem ic_get (l : List Nat) (j : Nat) (h : j < l.length) : (ic l)[j]? = some (.int .i64 (l.getD j 0 : Nat)) := by simp [ic, List.getD, h]
theorem ic_one (l : List Nat) : ∀ u ∈ ic l, u.oneCell' = true := by
  intro u hu
  simp only [ic, List.mem_map] at hu
  obtain ⟨n, _, rfl⟩ := hu
  rfl
/-- Numbers as ints. -/
def il (l : List Nat) : List Int := l.map fun (n : Nat) => (n : Int)
theorem il_len (l : List Nat) : (il l).length = l.length := by simp [il]
theorem il_get (l : List Nat) (j : Nat) (h : j < l.length) : (il l).getD j 0 = (l.getD j 0 : Nat) := by simp [il, List.getD, h]
/-- A row of the call's own, as it is read. -/
theorem que_rd {w : World} {base size n : Nat} {v : Value} {l : List Nat} (h : Que w base size v n (ic l)) : ∃ A c, v = .slice A n c ∧ l.length = n * size ∧ Rd .i64 w base w.heap.size A (il l) := by
  have hl : l.length = n * size := by have := h.1; rwa [ic_len] at this
  rcases h.2 with ⟨rfl, rfl⟩ | ⟨g, off, cap, rfl, hb, hg, hnc, hcm, hth, hr⟩
  · exact ⟨_, _, rfl, hl, .inl (by
      have : l = [] := List.eq_nil_of_length_eq_zero (by simpa using hl)
      rw [this]; rfl)⟩
  · refine ⟨_, _, rfl, hl, .inr ⟨g, off, rfl, hb, hg, fun j hj => ?_⟩⟩
    rw [il_len] at hj
    rw [il_get l j hj]
    exact hr j _ (ic_get l j hj)
/-- One cell of a row is written. -/
theorem que_set {w : World} {base size n g off cap : Nat} {xs : List Value} (h : Que w base size (.slice (some ⟨g, off, none⟩) n cap) n xs) (k : Nat) (x : Value) (hk : k < xs.length) :
    Que (w.setCell ⟨g, off + k, none⟩ x) base size (.slice (some ⟨g, off, none⟩) n cap) n (xs.set k x) := by
  refine ⟨by rw [List.length_set]; exact h.1, ?_⟩
  rcases h.2 with ⟨h0, _⟩ | ⟨g', off', cap', e, hb, hg, hnc, hcm, hth, hr⟩
  · cases h0
  · injection e with e1 e2 e3
    injection e1 with e1
    injection e1 with e4 e5
    subst e4; subst e5; subst e3
    have hc := hr k _ (List.getElem?_eq_getElem hk)
    refine .inr ⟨g, off, cap, rfl, hb, by simpa [World.setCell] using hg, hnc, hcm, fun j hj => ?_, fun j v hv => ?_⟩
    · obtain ⟨h1, h2⟩ := hth j hj
      refine ⟨?_, by rw [World.frozen?_setCell]; exact h2⟩
      by_cases e : j = k
      · subst e; rw [World.cell?_setCell_same _ _ _ hc]; rfl
      · rw [World.cell?_setCell_other _ _ _ _ (by intro e'; injection e' with e1 e2; omega)]; exact h1
    · by_cases e : j = k
      · subst e
        rw [World.cell?_setCell_same _ _ _ hc, ← hv, List.getElem?_set_self hk]
      · rw [World.cell?_setCell_other _ _ _ _ (by intro e'; injection e' with e1 e2; omega)]
        rw [List.getElem?_set_ne (by omega)] at hv
        exact hr j v hv
theorem que_there {w : World} {base size n g off cap : Nat} {xs : List Value} (h : Que w base size (.slice (some ⟨g, off, none⟩) n cap) n xs) {k : Nat} (hk : k < xs.length) : w.frozen? ⟨g, off + k, none⟩ = false := by
  rcases h.2 with ⟨h0, _⟩ | ⟨g', off', cap', e, hb, hg, hnc, hcm, hth, hr⟩
  · cases h0
  · injection e with e1 e2 e3
    injection e1 with e1
    injection e1 with e4 e5
    subst e4; subst e5; subst e3
    have := h.1
    exact (hth k (Nat.lt_of_lt_of_le hk (by rw [this]; exact Nat.mul_le_mul_right _ hnc))).2
/-- One element more behind a row, which lies in a box of its own. -/
theorem que_push {P : Program} {w : World} {base n size bytes : Nat} {v : Value} {xs : List Value} (t e : TypeId) (z : Value) (ht : P.underlying t = some (.slice e)) (hi : (P.info? e).map (fun i => (i.zero, i.size, i.bytes)) = some (some z, size, bytes))
    (hzs : z.cells.size = size) (hsz : 0 < size) (hby : bytes ≤ 1000) (h : Que w base size v n xs) (ys : List Value) (hy : ys.length = size) (h1 : ∀ u ∈ ys, u.oneCell' = true) (hb : base ≤ w.heap.size) (hn : n ≤ 100000) :
    ∃ g' off' c' w', (Builtin.append_ #[t, t] t #[v, .slice (some ⟨w.heap.size, 0, none⟩) 1 1]).run P (w.alloc (.cells ys.toArray e)) = .ok (.slice (some ⟨g', off', none⟩) (n + 1) c') w' ∧
      Que w' base size (.slice (some ⟨g', off', none⟩) (n + 1) c') (n + 1) (xs ++ ys) ∧ But v.ownBlock.toList w w' ∧ (v.ownBlock = some g' ∨ w.heap.size < g') := by
  obtain ⟨i0, hi0, hz0, hz1, hz2⟩ := info_parts hi
  have hm : (n + 1) * bytes ≤ 100001 * 1000 := Nat.mul_le_mul (by omega) hby
  obtain ⟨v', w', hr, hq, hk, ho⟩ := run_append_que (P := P) (w.alloc (.cells ys.toArray e)) base t t e i0 z size bytes ht hi0 hz0 hz1 hz2 hzs hsz v n _ (h.keep0 ((But.refl [] w).alloc _)) (.slice (some ⟨w.heap.size, 0, none⟩) 1 1) 1 ys
    (Src.ofSlice _ ht ⟨w.heap.size, 0, none⟩ 1 1 ys (by omega) (fun j u hu => by rw [Addr.add_mid]; exact new_range w ys e j u hu) h1) (by unfold maxLen; omega) (by omega) (by simp; omega)
  obtain ⟨g', off', c', rfl, _⟩ := hq.row (by omega)
  refine ⟨g', off', c', w', hr, hq, ((But.refl _ w).alloc _).trans hk, ?_⟩
  rcases ho with ho | ho
  · left; rw [← ho]; rfl
  · right
    have : some g' = some (w.alloc (.cells ys.toArray e)).heap.size := ho
    injection this with this
    simp at this
    omega
theorem but_own {l : List Nat} {u w1 w2 : World} (h : But [] u w1) (k : But l w1 w2) (hl : ∀ i, i ∈ l → u.heap.size ≤ i) : But [] u w2 :=
  ((h.any l).trans k).strike (fun i hi hlt => by have := hl i hi; omega)
end Go.Proofs.Ytfopmdiepaonnaa.Wh
