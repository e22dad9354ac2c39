/-
  Words of my own for a row that is taken from in front and added to behind ('x = x[1:]', 'x = append(x, ..)'): where it lies, what it holds. Nothing of the program is named here.
-/
import Derived.Test.YtfopmdiepaonnaaBut
import Derived.Deep.AppendSrc
namespace Go.Proofs.Ytfopmdiepaonnaa
open Go.RowKit
set_option linter.unusedVariables false

/-- The value is a slice of n elements with the cells xs, of the call's own (its block lies from base on), from whatever place of its block on; all of its room is there and may be written. -/
def Que (w : World) (base size : Nat) (v : Value) (n : Nat) (xs : List Value) : Prop :=
  xs.length = n * size ∧
  ((v = .slice none 0 0 ∧ n = 0) ∨
   ∃ g off cap, v = .slice (some ⟨g, off, none⟩) n cap ∧ base ≤ g ∧ g < w.heap.size ∧ n ≤ cap ∧ cap ≤ maxLen ∧ w.there g off (cap * size) ∧ w.rangeAt g off xs)

theorem Que.nil (w : World) (base size : Nat) : Que w base size (.slice none 0 0) 0 [] := ⟨by simp, .inl ⟨rfl, rfl⟩⟩
theorem there_keep {l : List Nat} {w w' : World} {b o n : Nat} (h : w.there b o n) (hk : But l w w') (hb : b < w.heap.size) (hn : b ∉ l) : w'.there b o n := fun j hj => by
  obtain ⟨h1, h2⟩ := h j hj
  exact ⟨by rw [hk.cell (p := ⟨b, o + j, none⟩) hb hn]; exact h1, by rw [hk.frozen (p := ⟨b, o + j, none⟩) hb hn]; exact h2⟩
theorem Que.lt {w : World} {base size n : Nat} {v : Value} {xs : List Value} (h : Que w base size v n xs) : ∀ k, k ∈ v.ownBlock.toList → base ≤ k ∧ k < w.heap.size := by
  intro k hk
  rcases h.2 with ⟨rfl, _⟩ | ⟨g, off, cap, rfl, hb, hg, _⟩
  · simp [Value.ownBlock] at hk
  · simp [Value.ownBlock] at hk
    subst hk
    exact ⟨hb, hg⟩
theorem Que.keep {l : List Nat} {w w' : World} {base size n : Nat} {v : Value} {xs : List Value} (h : Que w base size v n xs) (hk : But l w w') (hn : ∀ k, k ∈ v.ownBlock.toList → k ∉ l) : Que w' base size v n xs := by
  refine ⟨h.1, ?_⟩
  rcases h.2 with h0 | ⟨g, off, cap, rfl, hb, hg, hnc, hcm, ht, hr⟩
  · exact .inl h0
  · have hl : g ∉ l := hn g (by simp [Value.ownBlock])
    exact .inr ⟨g, off, cap, rfl, hb, Nat.lt_of_lt_of_le hg hk.size, hnc, hcm, there_keep ht hk hg hl, range_keep hr hk hl⟩
theorem Que.keep0 {w w' : World} {base size n : Nat} {v : Value} {xs : List Value} (h : Que w base size v n xs) (hk : But [] w w') : Que w' base size v n xs := h.keep hk (by simp)
/-- What it looks like, in any case. -/
theorem Que.form {w : World} {base size n : Nat} {v : Value} {xs : List Value} (h : Que w base size v n xs) : ∃ A cap, v = .slice A n cap ∧ n ≤ cap := by
  rcases h.2 with ⟨rfl, rfl⟩ | ⟨g, off, cap, rfl, hb, hg, hnc, _⟩
  · exact ⟨_, _, rfl, Nat.le_refl _⟩
  · exact ⟨_, _, rfl, hnc⟩
/-- Where it lies, if it is not empty. -/
theorem Que.row {w : World} {base size n : Nat} {v : Value} {xs : List Value} (h : Que w base size v n xs) (hn : 0 < n) : ∃ g off cap, v = .slice (some ⟨g, off, none⟩) n cap ∧ base ≤ g ∧ g < w.heap.size ∧ n ≤ cap ∧ w.rangeAt g off xs := by
  rcases h.2 with ⟨rfl, h0⟩ | ⟨g, off, cap, rfl, hb, hg, hnc, hcm, ht, hr⟩
  · omega
  · exact ⟨g, off, cap, rfl, hb, hg, hnc, hr⟩
/-- The row without its first element, as a slice expression tells it. -/
theorem Que.tail {w : World} {base n : Nat} {v x : Value} {xs : List Value} {P : Program} {t : TypeId} (h : Que w base 1 v (n + 1) (x :: xs)) (ht : P.underlying t = some (.slice (P.elem t))) (hs : (P.info? (P.elem t)).map (·.size) = some 1) :
    ∃ v', (Instr.sliceAt t v (some (.int .i64 1)) none none).run P w = .ok v' w ∧ Que w base 1 v' n xs ∧ v'.ownBlock = v.ownBlock := by
  obtain ⟨hl, h0⟩ := h
  rcases h0 with ⟨_, h0⟩ | ⟨g, off, cap, rfl, hb, hg, hnc, hcm, hth, hr⟩
  · omega
  · have hz : (sizeOf (P.elem t)).run P w = .ok 1 w := by
      cases hq : P.info? (P.elem t) with
      | none => simp [hq] at hs
      | some i =>
        have hi : i.size = 1 := by simpa [hq] using hs
        simp [sizeOf, typeInfo, hq, hi]
    have hxl : xs.length = n := by simp at hl; omega
    have hrun : (Instr.sliceAt t (.slice (some ⟨g, off, none⟩) (n + 1) cap) (some (.int .i64 1)) none none).run P w = .ok (sliced (some ⟨g, off, none⟩) 1 (n + 1) cap 1) w := by
      rw [run_sliceAt_slice w t _ _ _ _ ht, run_slice_l w t _ _ _ ht .i64 1 (by omega) (by omega), hz]
      rfl
    by_cases hc : cap = 1
    · subst hc
      obtain rfl : n = 0 := by omega
      refine ⟨_, hrun, ⟨by simpa using hxl, .inr ⟨g, off, 0, by simp [sliced], hb, hg, Nat.le_refl _, Nat.zero_le _, fun j hj => by omega, fun j u hu => ?_⟩⟩, by simp [sliced, Value.ownBlock]⟩
      have : xs = [] := List.eq_nil_of_length_eq_zero hxl
      subst this
      simp at hu
    · refine ⟨_, hrun, ⟨by omega, .inr ⟨g, off + 1, cap - 1, by simp [sliced, hc, Addr.add_lit], hb, hg, by omega, by omega, fun j hj => ?_, fun j u hu => ?_⟩⟩, by simp [sliced, hc, Addr.add_lit, Value.ownBlock]⟩
      · have := hth (1 + j) (by omega)
        rwa [← Nat.add_assoc] at this
      · have := hr (j + 1) u (by simpa using hu)
        rwa [show off + (j + 1) = off + 1 + j by omega] at this
/-- The law of append onto such a row. -/
theorem run_append_que {P : Program} (w : World) (base : Nat) (t ty e : TypeId) (i : TypeInfo) (z : Value) (size bytes : Nat) (ht : P.underlying t = some (.slice e)) (hi : P.info? e = some i) (hz : i.zero = some z)
    (hsize : i.size = size) (hby : i.bytes = bytes) (hzs : z.cells.size = size) (hsz : 0 < size) (v : Value) (n : Nat) (xs : List Value) (hown : Que w base size v n xs)
    (x : Value) (m : Nat) (news : List Value) (hs : Src P size t x m news w) (h63 : n + m ≤ maxLen) (hbytes : (n + m) * bytes ≤ 140737488355328) (hbase : base ≤ w.heap.size) :
    ∃ v' w', (Builtin.append_ #[t, t] ty #[v, x]).run P w = .ok v' w' ∧ Que w' base size v' (n + m) (xs ++ news) ∧ But v.ownBlock.toList w w' ∧ (v'.ownBlock = v.ownBlock ∨ v'.ownBlock = some w.heap.size) := by
  subst hsize
  subst hby
  have hlen : (xs ++ news).length = (n + m) * i.size := by rw [List.length_append, hown.1, hs.newsLen, Nat.add_mul]
  have h63' : ((n + m : Nat) : Int) ≤ 9223372036854775807 := by simp only [maxLen] at h63; omega
  have grown : ∀ (old : Nat), ∀ (l : List Nat),
      Que (w.drew.alloc (.cells ((xs ++ news).toArray ++ Builtin.zeroCells z.cells (grownCap w (n + m) old e - (n + m))) e)) base i.size (.slice (some ⟨w.heap.size, 0, none⟩) (n + m) (grownCap w (n + m) old e)) (n + m) (xs ++ news) ∧
      But l w (w.drew.alloc (.cells ((xs ++ news).toArray ++ Builtin.zeroCells z.cells (grownCap w (n + m) old e - (n + m))) e)) := by
    intro old l
    have hge := grownCap_ge w (n + m) old e
    have hcm : grownCap w (n + m) old e ≤ maxLen := grownCap_le_maxLen w (n + m) old e h63
    refine ⟨⟨hlen, .inr ⟨w.heap.size, 0, _, rfl, hbase, by simp, hge, hcm, ?_, ?_⟩⟩, ((But.refl l w).drew).alloc _⟩
    · exact there_new w.drew _ e _ (by
        simp only [Array.size_append, List.size_toArray, size_zeroCells, hzs, hlen, ← Nat.add_mul]
        congr 1
        omega)
    · intro j u hu
      rw [Nat.zero_add]
      show World.cell? (w.drew.alloc _) ⟨w.drew.heap.size, j, none⟩ = _
      rw [cell_of_row _ _ j _ e (0, 0) (heap_alloc_last w.drew _)]
      have hj : j < (xs ++ news).length := (List.getElem?_eq_some_iff.1 hu).1
      rw [Array.getElem?_append_left (by rw [List.size_toArray]; exact hj)]
      rw [List.getElem?_toArray]
      exact hu
  rcases hown.2 with ⟨rfl, rfl⟩ | ⟨g, off, cap, rfl, hbg, hg, hnc, hcm, hth, hr⟩
  · have hx : xs = [] := List.eq_nil_of_length_eq_zero (by simpa using hown.1)
    subst hx
    by_cases hm : m = 0
    · subst hm
      have hn : news = [] := List.eq_nil_of_length_eq_zero (by simpa using hs.newsLen)
      subst hn
      refine ⟨.slice none 0 0, w, ?_, Que.nil w base i.size, But.refl _ _, .inl rfl⟩
      rcases hs.kind with ⟨e', hk⟩ | hk
      · simp [Builtin.append_, run_underlying ht, sizeOf, typeInfo, hi, hs.len, hs.cells]
      · rw [hk] at ht; cases ht
    · have hgo := run_append_grow_src (P := P) w t t ty e i z ht hi hz none 0 0 [] (run_firstCells_none w.drew i.size 0 0 0) x m news hs (by omega) h63' (growslice_fits (by omega) hbytes)
      obtain ⟨h1, h2⟩ := grown 0 (Value.ownBlock (.slice none 0 0)).toList
      exact ⟨_, _, hgo, h1, h2, .inr rfl⟩
  · by_cases hroom : n + m ≤ cap
    · have hfit : n * i.size + news.length ≤ cap * i.size := by rw [hs.newsLen, ← Nat.add_mul]; exact Nat.mul_le_mul_right _ hroom
      have hgo := run_append_room_src (P := P) w t t ty e i ht hi g off n cap x m news hs hroom
        (fun j hj => by have := (hth (n * i.size + j) (by omega)).1; rwa [← Nat.add_assoc] at this) (fun j hj => by have := (hth (n * i.size + j) (by omega)).2; rwa [← Nat.add_assoc] at this)
      have hB : But [g] w (w.setCells g (off + n * i.size) news) := (But.refl [g] w).setCells (by simp) _ _
      refine ⟨_, _, hgo, ⟨hlen, .inr ⟨g, off, cap, rfl, hbg, Nat.lt_of_lt_of_le hg hB.size, hroom, hcm, fun j hj => ?_, fun j u hu => ?_⟩⟩, by simpa [Value.ownBlock] using hB, .inl rfl⟩
      · obtain ⟨h1, h2⟩ := hth j hj
        refine ⟨?_, by rw [World.frozen?_setCells]; exact h2⟩
        by_cases hin : n * i.size ≤ j ∧ j < n * i.size + news.length
        · obtain ⟨q, rfl⟩ : ∃ q, j = n * i.size + q := ⟨j - n * i.size, by omega⟩
          rw [← Nat.add_assoc, World.cell?_setCells_in g news (off + n * i.size) w (fun p hp => by have := (hth (n * i.size + p) (by omega)).1; rwa [← Nat.add_assoc] at this) q (by omega)]
          simp
        · rw [World.cell?_setCells_out g news (off + n * i.size) w ⟨g, off + j, none⟩ (fun _ _ => by show off + j < _ ∨ _ ≤ off + j; omega)]
          exact h1
      · have hxl := hown.1
        by_cases hin : j < n * i.size
        · rw [World.cell?_setCells_out g news (off + n * i.size) w ⟨g, off + j, none⟩ (fun _ _ => by show off + j < _ ∨ _ ≤ off + j; omega)]
          rw [List.getElem?_append_left (by omega)] at hu
          exact hr j u hu
        · obtain ⟨q, rfl⟩ : ∃ q, j = n * i.size + q := ⟨j - n * i.size, by omega⟩
          rw [List.getElem?_append_right (by omega), hxl, Nat.add_sub_cancel_left] at hu
          have hq : q < news.length := (List.getElem?_eq_some_iff.1 hu).1
          rw [← Nat.add_assoc, World.cell?_setCells_in g news (off + n * i.size) w (fun p hp => by have := (hth (n * i.size + p) (by omega)).1; rwa [← Nat.add_assoc] at this) q hq]
          rw [← hu, List.getElem?_eq_getElem hq]
    · have hold : (Builtin.firstCells i.size n (.slice (some ⟨g, off, none⟩) n cap)).run P w.drew = .ok xs.toArray w.drew :=
        run_firstCells_some w.drew i.size n ⟨g, off, none⟩ n cap xs hown.1 (fun j u hu => by rw [Addr.add_lit]; exact hr j u hu)
      have hgo := run_append_grow_src (P := P) w t t ty e i z ht hi hz (some ⟨g, off, none⟩) n cap xs hold x m news hs (by omega) h63' (growslice_fits (by omega) hbytes)
      obtain ⟨h1, h2⟩ := grown cap (Value.ownBlock (.slice (some ⟨g, off, none⟩) n cap)).toList
      exact ⟨_, _, hgo, h1, h2, .inr rfl⟩
/-- The operation append, where its run is known. -/
theorem wpList_append_known {P : Program} (w : World) {ops : Array Oper} {rest : List Oper} {o : Oper} {a : Act} {Q : Exit → Act → World → Prop} (hgd : o.guard = none) (d s : Operand) (t : TypeId)
    (ho : o.op = .call { callee := .builtin .append, args := #[d, s], argTypes := #[t, t] }) (v u : Value) (hd : a.eval d = v) (hs : a.eval s = u) {v' : Value} {w' : World}
    (hr : (Builtin.append_ #[t, t] o.type #[v, u]).run P w = .ok v' w') (h : wpList P ops Q rest (a.put o.dst v') w') : wpList P ops Q (o :: rest) a w :=
  wpList_plain hgd fun K hK => by
    unfold Oper.wp execOp
    simp only [ho, resolve, invoke, builtin, Sem.run_bind, Sem.run_pure, Result.andThen_ok, List.map_toArray, List.map_cons, List.map_nil, hd, hs, hr]
    exact hK _ _ h
/-- A slice expression, where its run is known. -/
theorem wpList_slice_known {P : Program} (w : World) {ops : Array Oper} {rest : List Oper} {o : Oper} {a : Act} {Q : Exit → Act → World → Prop} (hgd : o.guard = none) (t : TypeId) (x : Operand) (lo hi mx : Option Operand)
    (ho : o.op = .slice t x lo hi mx) {v' : Value}
    (hr : (Instr.sliceAt t (a.eval x) (lo.map a.eval) (hi.map a.eval) (mx.map a.eval)).run P w = .ok v' w) (h : wpList P ops Q rest (a.put o.dst v') w) : wpList P ops Q (o :: rest) a w :=
  wpList_plain hgd fun K hK => by
    unfold Oper.wp execOp
    simp only [ho, Sem.run_bind, Sem.run_pure, Result.andThen_ok, hr]
    exact hK _ _ h
/-- The first m elements of a row, as a slice expression tells them: what an append takes from it. -/
theorem src_first {P : Program} {w : World} {base n m : Nat} {v : Value} {xs : List Value} {t : TypeId} (h : Que w base 1 v n xs) (hm : m ≤ n) (h1 : ∀ u ∈ xs, u.oneCell' = true) (ht : P.underlying t = some (.slice (P.elem t))) (hs : (P.info? (P.elem t)).map (·.size) = some 1) :
    ∃ v', (Instr.sliceAt t v none (some (.int .i64 m)) none).run P w = .ok v' w ∧ Src P 1 t v' m (xs.take m) w := by
  have hz : (sizeOf (P.elem t)).run P w = .ok 1 w := by
    cases hq : P.info? (P.elem t) with
    | none => simp [hq] at hs
    | some i =>
      have hi : i.size = 1 := by simpa [hq] using hs
      simp [sizeOf, typeInfo, hq, hi]
  obtain ⟨hl, h0⟩ := h
  have hlt : (xs.take m).length = m * 1 := by rw [List.length_take]; omega
  rcases h0 with ⟨rfl, rfl⟩ | ⟨g, off, cap, rfl, hb, hg, hnc, hcm, hth, hr⟩
  · obtain rfl : m = 0 := by omega
    have hrun : (Instr.sliceAt t (.slice none 0 0) none (some (.int .i64 (0 : Nat))) none).run P w = .ok (.slice none 0 0) w := by
      rw [run_sliceAt_slice w t _ _ _ _ ht, run_slice_h w t _ _ _ ht .i64 _ (by omega) (by omega), hz]
      rfl
    refine ⟨_, hrun, ?_⟩
    rw [List.take_zero]
    exact Src.ofNil w ht 0
  · have hrun : (Instr.sliceAt t (.slice (some ⟨g, off, none⟩) n cap) none (some (.int .i64 m)) none).run P w = .ok (.slice (some ⟨g, off, none⟩) m cap) w := by
      rw [run_sliceAt_slice w t _ _ _ _ ht, run_slice_h w t _ _ _ ht .i64 _ (by omega) (by omega), hz]
      simp [sliced, Addr.add_lit]
    exact ⟨_, hrun, Src.ofSlice w ht ⟨g, off, none⟩ m cap (xs.take m) hlt (fun j u hu => by
      rw [Addr.add_lit]
      refine hr j u ?_
      rw [List.getElem?_take] at hu
      split at hu
      · exact hu
      · cases hu) (fun u hu => h1 u (List.mem_of_mem_take hu))⟩
end Go.Proofs.Ytfopmdiepaonnaa
