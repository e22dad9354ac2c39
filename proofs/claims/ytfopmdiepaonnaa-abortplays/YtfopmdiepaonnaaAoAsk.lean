/-
  Layer 17 (abort): contracts of Ask and of the document's Ask, over the translated program. (Written by tools/gen_aoa.py out of AoAsk.head.)
-/
import Derived.Test.YtfopmdiepaonnaaAoRef
import Derived.Test.YtfopmdiepaonnaaFloat
namespace Go.Proofs.Ytfopmdiepaonnaa.Ao
open Go.ChangeShapes Go.WideShapes Go.ChangeAt Go.RowKit
open Wh
set_option linter.unusedVariables false
set_option maxRecDepth 20000

/-- A list and a want by value, that are boxed, and room for another list. -/
theorem ask_boxes (w : World) (l : List Wn) (e k m t : Int) : ∃ b wa, b = w.heap.size ∧ wa = ((w.alloc (.cells (lc l).toArray lT)).alloc (.cells #[.int .i64 e, .int .i64 k, .int .i64 m, .int .i64 t] wT)).alloc (.cells (lc []).toArray lT) ∧
    LtAt wa b l ∧ wa.rangeAt (b + 1) 0 (Wn.vs ⟨e, k, m, t⟩) ∧ wa.there (b + 1 + 1) 0 257 ∧ wa.heap.size = b + 3 ∧ But [] w wa := by
  have s1 : (w.alloc (.cells (lc l).toArray lT)).heap.size = w.heap.size + 1 := by simp
  have s2 : ((w.alloc (.cells (lc l).toArray lT)).alloc (.cells #[.int .i64 e, .int .i64 k, .int .i64 m, .int .i64 t] wT)).heap.size = w.heap.size + 1 + 1 := by simp
  have h1 := lt_new w l
  have h2 : ((w.alloc (.cells (lc l).toArray lT)).alloc (.cells #[.int .i64 e, .int .i64 k, .int .i64 m, .int .i64 t] wT)).rangeAt (w.alloc (.cells (lc l).toArray lT)).heap.size 0 (Wn.vs ⟨e, k, m, t⟩) := new_range _ (Wn.vs ⟨e, k, m, t⟩) wT
  have h3 := lt_new ((w.alloc (.cells (lc l).toArray lT)).alloc (.cells #[.int .i64 e, .int .i64 k, .int .i64 m, .int .i64 t] wT)) []
  rw [s1] at h2
  rw [s2] at h3
  exact ⟨_, _, rfl, rfl, (h1.keep0 ((But.refl [] _).alloc _)).keep0 ((But.refl [] _).alloc _), range_keep h2 ((But.refl [] _).alloc _) (by simp), h3.there, by simp, (((But.refl [] w).alloc _).alloc _).alloc _⟩
/-- One want, that lies in a box of its own, behind an own row. -/
theorem push_at {w : World} {base n cap g : Nat} {A : Option Addr} {l : List Wn} (a : Wn) (h : Que w base 4 (.slice A n cap) n (wl l)) (hc : w.rangeAt g 0 a.vs) (hn : n ≤ 100000) (hb : base ≤ w.heap.size) :
    ∃ A' c' w', (Builtin.append_ #[42, 42] 42 #[.slice A n cap, .slice (some ⟨g, 0, none⟩) 1 1]).run Try.prog w = .ok (.slice A' (n + 1) c') w' ∧ Que w' base 4 (.slice A' (n + 1) c') (n + 1) (wl (l ++ [a])) ∧ But (Value.slice A n cap).ownBlock.toList w w' := by
  obtain ⟨i0, hi, hz0, hz1, hz2⟩ := info_parts infoWant
  have hs : Src Try.prog 4 42 (.slice (some ⟨g, 0, none⟩) 1 1) 1 a.vs w :=
    Src.ofSlice w Try.underlying42 ⟨g, 0, none⟩ 1 1 a.vs rfl (fun j u hu => by rw [Addr.add_mid]; exact hc j u hu) (vs_one a)
  obtain ⟨v', w', hr, hq, hk', ho⟩ := run_append_que (P := Try.prog) w base 42 42 wT i0 _ 4 32 Try.underlying42 hi hz0 hz1 hz2 rfl (by decide) _ n _ h (.slice (some ⟨g, 0, none⟩) 1 1) 1 a.vs hs (by unfold maxLen; omega) (by omega) hb
  obtain ⟨A', c', rfl, _⟩ := hq.form
  exact ⟨A', c', w', hr, by rw [wl_app]; exact hq, hk'⟩
/-- The operation append, where its run is known. -/
theorem wp_append_known {P : Program} (w : World) {o : Oper} {a : Act} {K : Act → World → Prop} {Q : Exit → Act → World → Prop} (d s : Operand) (t : TypeId)
    (ho : o.op = .call { callee := .builtin .append, args := #[d, s], argTypes := #[t, t] }) (v u : Value) (hd : a.eval d = v) (hs : a.eval s = u) {v' : Value} {w' : World}
    (hr : (Builtin.append_ #[t, t] o.type #[v, u]).run P w = .ok v' w') (dst : Option Tmp) (hdst : o.dst = dst) (h : K (a.put dst v') w') : Oper.wp P o a w K Q := by
  subst hdst
  unfold Oper.wp execOp
  simp only [ho, resolve, invoke, builtin, Sem.run_bind, Sem.run_pure, Result.andThen_ok, List.map_toArray, List.map_cons, List.map_nil, hd, hs, hr]
  exact h
/-- A store of a whole struct, which tells nothing. -/
theorem wp_store_mid0 {P : Program} {op : Oper} {a : Act} {w : World} {K : Act → World → Prop} {Q : Exit → Act → World → Prop} (ty : TypeId) (x y : Operand) (ho : op.op = .store ty x y)
    (b o : Nat) (cells : Array Value) (hx : a.eval x = .pointer (some ⟨b, o, none⟩)) (hy : a.eval y = .agg cells)
    (ht : w.there b o cells.size) (hi : (P.info? ty).map (·.size) = some cells.size) (h1 : cells.all (·.oneCell') = true) (hd : op.dst = none)
    (h : K a (w.setCells b o cells.toList)) : op.wp P a w K Q := wp_store_mid ty x y ho b o cells hx hy ht hi h1 (by rw [hd]; exact h)
/-- Till now but block b has turned, and that is there. -/
structure St (b : Nat) (u w : World) : Prop where
  kp : But [b] u w
  th : w.there b 0 257
section
variable {b : Nat} {u w w' : World}
theorem St.size (h : St b u w) : u.heap.size ≤ w.heap.size := h.kp.size
theorem St.trans (h : St b u w) (k : But [] w w') : St b u w' := ⟨h.kp.trans (k.any _), there_keep h.th k (lt_of_there h.th (by omega)) (by simp)⟩
theorem St.alloc (h : St b u w) (o : Obj) : St b u (w.alloc o) := h.trans ((But.refl [] w).alloc o)
theorem St.push (h : St b u w) {ks : List Nat} (k : But ks w w') (hk : ∀ i ∈ ks, u.heap.size ≤ i) (hb : b < u.heap.size) : St b u w' :=
  ⟨((h.kp.wider (l' := b :: ks) (by simp +contextual)).trans (k.wider (by simp +contextual))).strike fun i hi hlt => by
    rcases List.mem_cons.1 hi with rfl | h
    · simp
    · have := hk i h; omega, there_keep h.th k (Nat.lt_of_lt_of_le hb h.kp.size) (fun hm => by have := hk b hm; omega)⟩
theorem St.setCells (h : St b u w) (vs : List Value) : St b u (w.setCells b 0 vs) := ⟨h.kp.setCells (by simp) vs 0, World.there_setCells h.th b 0 vs⟩
end
set_option maxHeartbeats 4000000 in
theorem ask_c (l : List Wn) (hl : l.length ≤ 64) (e k m t : Int) (w : World) :
    Calls Try.prog 6 #[vv l, .agg #[.int .i64 e, .int .i64 k, .int .i64 m, .int .i64 t]] w fun r w' => r = .returned (.tuple #[vv (askL l ⟨e, k, m, t⟩), .int .i64 (askC l ⟨e, k, m, t⟩)]) ∧ But [] w w' := by
  have hz := zList
  obtain ⟨b, wa, hb, hwa, t1, t2, t3, t4, t5⟩ := ask_boxes w l e k m t
  have HR0 := hid t1.all
  have HN0 := hid t1.n
  have HW0 := hid t2
  have HT0 := hid t3
  have HS0 := hid t4
  have HB0 := hid t5
  have HBW := hid hb
  have HMAY : Hid (Calls Try.prog 19 #[.agg #[.int .i64 e, .int .i64 k, .int .i64 m, .int .i64 t]] wa fun r w' => r = .returned (.bool (mb ⟨e, k, m, t⟩)) ∧ But [] wa w') := may_c ⟨e, k, m, t⟩ wa
  have HA : Hid (∀ w, Calls Try.prog 15 #[.agg (lc l).toArray] w fun e w' => ∃ v, e = .returned v ∧ Que w' w.heap.size 4 v l.length (wl l) ∧ But [] w w') := fun w => all_c l hl w
  obtain ⟨c0, c1, c2, c3⟩ := four t2
  simp only [Nat.zero_add] at c1 c2 c3
  clear t1 t2 t3 t4 t5
  unfold vv
  go_enter Try.func6, Try.ntmps6
  go_upto_region 1 with fail
  rw [← hwa, ← hb]
  clear hwa hb
  go_wp2_with fail
  refine HMAY.out.mono ?_
  rintro r w1 ⟨rfl, k1⟩
  have HR1 : Hid (w1.rangeAt b 0 (lc l)) := range_keep HR0.out k1 (by simp)
  have HN1 := hid (cell_keep HN0.out k1 (by simp))
  have HW1 := hid (range_keep HW0.out k1 (by simp))
  have HT1 : Hid (w1.there (b + 1 + 1) 0 (lc l).toArray.size) := by
    show World.there _ _ _ _
    rw [lc_size]
    exact there_keep HT0.out k1 (by have := HS0.out; omega) (by simp)
  have HBZ : Hid (b + 1 + 1 < w1.heap.size) := by show _ < _; have := HS0.out; have := k1.size; omega
  have K1 := hid (HB0.out.trans k1)
  clear c0 c1 c2 c3 k1 HMAY HR0 HN0 HW0 HT0 HS0 HB0
  cases hv : mb ⟨e, k, m, t⟩ with
  | false =>
    have HE := hid (ask_may (l := l) hv)
    clear hv
    go_wp2_with (first
      | (refine wpList_load_mid rfl lT _ rfl b 0 rfl (lc l) _ HR1.out Try.underlying27 rfl (iList _) ?_)
      | (refine wpList_store_mid rfl lT _ _ rfl (b + 1 + 1) 0 (lc l).toArray rfl rfl ?ht (iList' _) (lc_all _) ?_; case ht => exact HT1.out))
    refine bodyPost_ret (results_range rfl _ _ (b + 1 + 1) 0 (lc l) _ rfl (World.rangeAt_setCells_same _ _ _ _ (by have := HT1.out; rwa [lc_size, ← lc_len l] at this)) Try.underlying27 rfl (iList _)) rfl ?_
    exact ⟨by rw [HE.out.1, HE.out.2]; rfl, but_own K1.out ((But.refl [b + 1 + 1] _).setCells (by simp) _ _) (fun i hi => by simp at hi; have := HBW.out; omega)⟩
  | true =>
    have HV := hid hv
    clear hv
    have CC : Hid (w1.cell? ⟨b + 1, 0, none⟩ = some (.int .i64 e) ∧ w1.cell? ⟨b + 1, 1, none⟩ = some (.int .i64 k) ∧ w1.cell? ⟨b + 1, 2, none⟩ = some (.int .i64 m) ∧ w1.cell? ⟨b + 1, 3, none⟩ = some (.int .i64 t)) := by
      obtain ⟨c0, c1, c2, c3⟩ := four HW1.out
      simp only [Nat.zero_add] at c1 c2 c3
      exact ⟨c0, c1, c2, c3⟩
    go_upto_region 3 with fail
    refine wp_region_noPanic ?_
    refine wp_region_held_drew (S := fun w' => But [] w1 w') (by kernel_rfl) (But.refl _ _).drew (fun hS0 => ?_)
    generalize w1.drew = wd at *
    refine held_take 0 (some 12) (.agg (lc l).toArray) rfl rfl (by kernel_rfl) (by kernel_rfl) (by kernel_rfl) (fun _ _ _ h => h) (yieldsIf_load_mid (by rfl) _ _ rfl b 0 rfl (lc l) _ (fun w' h => range_keep HR1.out h (by simp)) Try.underlying27 rfl (iList _)) hS0 ?_
    simp only [Act.put, List.setIfInBounds_toArray, List.set_cons_zero, List.set_cons_succ]
    refine held_take 2 (some 14) (.pointer (some ⟨b + 1, 0, none⟩)) rfl rfl (by kernel_rfl) (by kernel_rfl) (by kernel_rfl) (fun _ _ _ h => h) (Or.inl ⟨by rfl, fun w' hw' => by go_simp⟩) hS0 ?_
    simp only [Act.put, List.setIfInBounds_toArray, List.set_cons_zero, List.set_cons_succ]
    refine held_take 3 (some 15) (.int .i64 e) rfl rfl (by kernel_rfl) (by kernel_rfl) (by kernel_rfl) (fun _ _ _ h => h) (Or.inl ⟨by rfl, fun w' hw' => by have hq0 := cell_keep CC.out.1 hw' (by simp); go_simp⟩) hS0 ?_
    simp only [Act.put, List.setIfInBounds_toArray, List.set_cons_zero, List.set_cons_succ]
    refine held_take 4 (some 16) (.pointer (some ⟨b + 1, 1, none⟩)) rfl rfl (by kernel_rfl) (by kernel_rfl) (by kernel_rfl) (fun _ _ _ h => h) (Or.inl ⟨by rfl, fun w' hw' => by go_simp⟩) hS0 ?_
    simp only [Act.put, List.setIfInBounds_toArray, List.set_cons_zero, List.set_cons_succ]
    refine held_take 5 (some 17) (.int .i64 k) rfl rfl (by kernel_rfl) (by kernel_rfl) (by kernel_rfl) (fun _ _ _ h => h) (Or.inl ⟨by rfl, fun w' hw' => by have hq0 := cell_keep CC.out.2.1 hw' (by simp); go_simp⟩) hS0 ?_
    simp only [Act.put, List.setIfInBounds_toArray, List.set_cons_zero, List.set_cons_succ]
    refine held_take 6 (some 18) (.pointer (some ⟨b + 1, 2, none⟩)) rfl rfl (by kernel_rfl) (by kernel_rfl) (by kernel_rfl) (fun _ _ _ h => h) (Or.inl ⟨by rfl, fun w' hw' => by go_simp⟩) hS0 ?_
    simp only [Act.put, List.setIfInBounds_toArray, List.set_cons_zero, List.set_cons_succ]
    refine held_take 7 (some 19) (.int .i64 m) rfl rfl (by kernel_rfl) (by kernel_rfl) (by kernel_rfl) (fun _ _ _ h => h) (Or.inl ⟨by rfl, fun w' hw' => by have hq0 := cell_keep CC.out.2.2.1 hw' (by simp); go_simp⟩) hS0 ?_
    simp only [Act.put, List.setIfInBounds_toArray, List.set_cons_zero, List.set_cons_succ]
    refine held_one 1 rfl (by kernel_rfl) (by rfl) (fun K hK => ?_)
    go_simp
    refine (HA.out _).mono ?_
    rintro r wA ⟨v, rfl, hqA, kA⟩
    obtain ⟨A, c, rfl, -, hli⟩ := que_li hqA
    go_wp2_with fail
    have hS1' : But [] w1 wA := hS0.trans kA
    skip
    refine hK.out _ _ hS1' (fun hS1 => ?_)
    clear hK K
    try simp only [Act.put, List.setIfInBounds_toArray, List.set_cons_zero, List.set_cons_succ]
    refine held_one 8 rfl (by kernel_rfl) (by rfl) (fun K hK => ?_)
    go_simp
    refine (ofName_c e k m _).mono ?_
    rintro r wF ⟨cb, rfl, hp, kF⟩
    go_wp2_with fail
    have hS2' : But [] w1 wF := hS1.trans kF
    have hli := hli.keep kF
    refine hK.out _ _ hS2' (fun hS2 => ?_)
    clear hK K
    try simp only [Act.put, List.setIfInBounds_toArray, List.set_cons_zero, List.set_cons_succ]
    refine held_one 9 rfl (by kernel_rfl) (by rfl) (fun K hK => ?_)
    go_simp
    refine (contains_c A _ c _ cb (key e k m) l _ hli rfl (by omega) hp).mono ?_
    rintro r wC ⟨rfl, kC⟩
    go_wp2_with fail
    have hS3' : But [] w1 wC := hS2.trans kC
    skip
    refine hK.out _ _ hS3' (fun hS3 => ?_)
    clear hK K
    try simp only [Act.put, List.setIfInBounds_toArray, List.set_cons_zero, List.set_cons_succ]
    refine held_take 10 (some 11) (.bool (l.any (key e k m))) rfl rfl (by kernel_rfl) (by kernel_rfl) (by kernel_rfl) (fun _ _ _ h => h) (Or.inl ⟨by rfl, fun w' hw' => by go_simp⟩) hS3 ?_
    simp only [Act.put, List.setIfInBounds_toArray, List.set_cons_zero, List.set_cons_succ]
    refine wpAnyH_done (by kernel_rfl) ?_ _
    refine NoPanic.normal ?_
    have K2' : But [] w1 (wC) := hS3
    have HR2 := hid (range_keep HR1.out K2' (by simp))
    have HN2 := hid (cell_keep HN1.out K2' (by simp))
    have CC2 := hid (And.intro (cell_keep CC.out.1 K2' (by simp)) (And.intro (cell_keep CC.out.2.1 K2' (by simp)) (And.intro (cell_keep CC.out.2.2.1 K2' (by simp)) (cell_keep CC.out.2.2.2 K2' (by simp)))))
    have HT2 := hid (there_keep HT1.out K2' HBZ.out (by simp))
    have HBZ2 : Hid (b + 1 + 1 < (wC).heap.size) := Nat.lt_of_lt_of_le HBZ.out K2'.size
    have K2 := hid (K1.out.trans K2')
    clear K2'
    generalize wC = w2 at *
    clear HR1 HN1 HT1 CC HBZ K1
    cases ha : l.any (key e k m) with
    | true =>
      have HE := hid (ask_is (l := l) HV.out ha)
      clear ha
      go_wp2_with (first
        | (refine wpList_load_mid rfl lT _ rfl b 0 rfl (lc l) _ HR2.out Try.underlying27 rfl (iList _) ?_)
        | (refine wpList_store_mid rfl lT _ _ rfl (b + 1 + 1) 0 (lc l).toArray rfl rfl ?ht (iList' _) (lc_all _) ?_; case ht => exact HT2.out))
      refine bodyPost_ret (results_range rfl _ _ (b + 1 + 1) 0 (lc l) _ rfl (World.rangeAt_setCells_same _ _ _ _ (by have := HT2.out; rwa [lc_size, ← lc_len l] at this)) Try.underlying27 rfl (iList _)) rfl ?_
      exact ⟨by rw [HE.out.1, HE.out.2]; rfl, but_own K2.out ((But.refl [b + 1 + 1] _).setCells (by simp) _ _) (fun i hi => by simp at hi; have := HBW.out; omega)⟩
    | false =>
      have HF := hid ha
      clear ha
      have hcn := HN2.out
      by_cases h64 : l.length = 64
      · have HE := hid (ask_full (l := l) HV.out HF.out h64)
        rw [h64] at hcn
        clear h64
        go_wp2_with (first
          | (refine wpList_load_mid rfl lT _ rfl b 0 rfl (lc l) _ HR2.out Try.underlying27 rfl (iList _) ?_)
          | (refine wpList_store_mid rfl lT _ _ rfl (b + 1 + 1) 0 (lc l).toArray rfl rfl ?ht (iList' _) (lc_all _) ?_; case ht => exact HT2.out))
        refine bodyPost_ret (results_range rfl _ _ (b + 1 + 1) 0 (lc l) _ rfl (World.rangeAt_setCells_same _ _ _ _ (by have := HT2.out; rwa [lc_size, ← lc_len l] at this)) Try.underlying27 rfl (iList _)) rfl ?_
        exact ⟨by rw [HE.out.1, HE.out.2]; rfl, but_own K2.out ((But.refl [b + 1 + 1] _).setCells (by simp) _ _) (fun i hi => by simp at hi; have := HBW.out; omega)⟩
      · have HE := hid (ask_ok (l := l) HV.out HF.out h64)
        have hlt : l.length < 64 := by omega
        have hn64 : ¬ ((l.length : Int) = 64) := by omega
        have hd64 : decide ((l.length : Int) = 64) = false := decide_eq_false hn64
        have hS00 : St (b + 1 + 1) w2 w2.drew := ⟨(But.refl _ _).drew, by have := HT2.out; rw [lc_size] at this; exact there_keep this (But.refl [] _).drew (lt_of_there this (by omega)) (by simp)⟩
        have HLL : Hid ((l ++ [(⟨e, k, m, t⟩ : Wn)]).length ≤ 64) := by show _ ≤ _; simp; omega
        go_upto_region 7 with fail
        clear hcn h64 hn64 hd64
        refine wp_region_noPanic ?_
        refine wp_region_held_drew (S := fun w' => St (b + 1 + 1) w2 w') (by kernel_rfl) hS00 (fun hS0 => ?_)
        generalize w2.drew = wd at *
        refine held_take 0 (some 28) (.agg (lc l).toArray) rfl rfl (by kernel_rfl) (by kernel_rfl) (by kernel_rfl) (fun _ _ _ h => h) (yieldsIf_load_mid (by rfl) _ _ rfl b 0 rfl (lc l) _ (fun w' h => range_keep HR2.out h.kp (by simp; omega)) Try.underlying27 rfl (iList _)) hS0 ?_
        simp only [Act.put, List.setIfInBounds_toArray, List.set_cons_zero, List.set_cons_succ]
        refine held_take 2 (some 30) (.agg #[.int .i64 e, .int .i64 k, .int .i64 m, .int .i64 t]) rfl rfl (by kernel_rfl) (by kernel_rfl) (by kernel_rfl) (fun _ _ _ h => h) (Or.inl ⟨by rfl, fun w' hw' => by have hq0 := cell_keep CC2.out.1 hw'.kp (by simp); have hq1 := cell_keep CC2.out.2.1 hw'.kp (by simp); have hq2 := cell_keep CC2.out.2.2.1 hw'.kp (by simp); have hq3 := cell_keep CC2.out.2.2.2 hw'.kp (by simp); go_simp⟩) hS0 ?_
        simp only [Act.put, List.setIfInBounds_toArray, List.set_cons_zero, List.set_cons_succ]
        refine held_two 1 3 rfl rfl (by kernel_rfl) (by rfl) (by rfl) (fun K hK => ?_) (fun K hK => ?_)
        · skip
          go_simp
          have hszA := hS0.size
          refine (HA.out _).mono ?_
          rintro r wA ⟨v, rfl, hqA, kA⟩
          obtain ⟨A, c, rfl, -⟩ := hqA.form
          have hqA := que_lower hqA hszA
          go_wp2_with fail
          have hS1' : St (b + 1 + 1) w2 wA := hS0.trans kA
          skip
          refine hK.out _ _ hS1' (fun hS1 => ?_)
          clear hK K
          try simp only [Act.put, List.setIfInBounds_toArray, List.set_cons_zero, List.set_cons_succ]
          refine held_one 3 rfl (by kernel_rfl) (by rfl) (fun K hK => ?_)
          go_simp
          obtain ⟨hA4, hlt5, hka8⟩ := made_box (wA) #[.int .i64 e, .int .i64 k, .int .i64 m, .int .i64 t] wT 4 rfl
          have hge6 : w2.heap.size ≤ (wA).heap.size := hS1.size
          have hS2' : St (b + 1 + 1) w2 (wA.alloc (.cells #[.int .i64 e, .int .i64 k, .int .i64 m, .int .i64 t] wT)) := hS1.alloc _
          have hcb : ((wA).alloc (.cells #[.int .i64 e, .int .i64 k, .int .i64 m, .int .i64 t] wT)).rangeAt (wA).heap.size 0 (Wn.vs ⟨e, k, m, t⟩) := new_range (wA) (Wn.vs ⟨e, k, m, t⟩) wT
          have hqA := hqA.keep0 hka8
          generalize wA.alloc (.cells #[.int .i64 e, .int .i64 k, .int .i64 m, .int .i64 t] wT) = wa7 at *
          generalize hBx : (wA).heap.size = Bx3 at *
          have HBxBx3 : Hid ((wA).heap.size = Bx3) := hBx
          clear hBx
          refine hK.out _ _ hS2' (fun hS2 => ?_)
          clear hK K
          try simp only [Act.put, List.setIfInBounds_toArray, List.set_cons_zero, List.set_cons_succ]
          refine held_one 4 rfl (by kernel_rfl) (by rfl) (fun K hK => ?_)
          obtain ⟨A6, c6, w6, hr6, hq6, k6⟩ := push_at ⟨e, k, m, t⟩ hqA hcb (by omega) hS2.size
          refine wp_append_known _ _ _ 42 rfl _ _ rfl rfl hr6 (some 32) rfl ?_
          obtain ⟨A7, c7, e7, -, hli⟩ := que_li hq6
          injection e7 with e71 e72 e73
          subst e71
          have hS9' : St (b + 1 + 1) w2 w6 := hS2.push k6 (fun i hi => (hqA.lt i hi).1) HBZ2.out
          skip
          refine hK.out _ _ hS9' (fun hS9 => ?_)
          clear hK K
          try simp only [Act.put, List.setIfInBounds_toArray, List.set_cons_zero, List.set_cons_succ]
          refine held_one 5 rfl (by kernel_rfl) (by rfl) (fun K hK => ?_)
          go_simp
          have hof := fun c6 => listOf_c A6 (l.length + 1) c6 (l ++ [⟨e, k, m, t⟩]) _ hli (by simp) (by have := HLL.out; simpa using this)
          unfold vv at hof
          refine (hof _).mono ?_
          rintro r w7 ⟨rfl, k7⟩
          go_wp2_with fail
          have hS10' : St (b + 1 + 1) w2 w7 := hS9.trans k7
          skip
          refine hK.out _ _ hS10' (fun hS10 => ?_)
          clear hK K
          try simp only [Act.put, List.setIfInBounds_toArray, List.set_cons_zero, List.set_cons_succ]
          refine held_one 6 rfl (by kernel_rfl) (by rfl) (fun K hK => ?_)
          refine wp_store_mid0 _ _ _ rfl (b + 1 + 1) 0 (lc (l ++ [⟨e, k, m, t⟩])).toArray rfl rfl (by rw [lc_size]; exact hS10.th) (iList' _) (lc_all _) rfl ?_
          have hS11' : St (b + 1 + 1) w2 (w7.setCells (b + 1 + 1) 0 (lc (l ++ [⟨e, k, m, t⟩]))) := hS10.setCells _
          refine hK.out _ _ hS11' (fun hS11 => ?_)
          clear hK K
          skip
          refine held_take 7 (some 5) (.int .i64 0) rfl rfl (by kernel_rfl) (by kernel_rfl) (by kernel_rfl) (fun _ _ _ h => h) (Or.inl ⟨by rfl, fun w' hw' => by go_simp⟩) hS11 ?_
          simp only [Act.put, List.setIfInBounds_toArray, List.set_cons_zero, List.set_cons_succ]
          refine wpAnyH_done (by kernel_rfl) ?_ _
          refine NoPanic.normal ?_
          go_wp2_with fail
          refine bodyPost_ret (results_range rfl _ _ (b + 1 + 1) 0 (lc (l ++ [⟨e, k, m, t⟩])) _ rfl (World.rangeAt_setCells_same _ _ _ _ (by rw [lc_len]; exact hS10.th)) Try.underlying27 rfl (iList _)) rfl ?_
          exact ⟨by rw [HE.out.1, HE.out.2]; rfl, but_own K2.out hS11.kp (fun i hi => by simp at hi; have := HBW.out; omega)⟩
        · skip
          go_simp
          obtain ⟨hA14, hlt15, hka18⟩ := made_box (wd) #[.int .i64 e, .int .i64 k, .int .i64 m, .int .i64 t] wT 4 rfl
          have hge16 : w2.heap.size ≤ (wd).heap.size := hS0.size
          have hS12' : St (b + 1 + 1) w2 (wd.alloc (.cells #[.int .i64 e, .int .i64 k, .int .i64 m, .int .i64 t] wT)) := hS0.alloc _
          have hcb : ((wd).alloc (.cells #[.int .i64 e, .int .i64 k, .int .i64 m, .int .i64 t] wT)).rangeAt (wd).heap.size 0 (Wn.vs ⟨e, k, m, t⟩) := new_range (wd) (Wn.vs ⟨e, k, m, t⟩) wT
          generalize wd.alloc (.cells #[.int .i64 e, .int .i64 k, .int .i64 m, .int .i64 t] wT) = wa17 at *
          generalize hBx : (wd).heap.size = Bx13 at *
          have HBxBx13 : Hid ((wd).heap.size = Bx13) := hBx
          clear hBx
          refine hK.out _ _ hS12' (fun hS12 => ?_)
          clear hK K
          try simp only [Act.put, List.setIfInBounds_toArray, List.set_cons_zero, List.set_cons_succ]
          refine held_one 1 rfl (by kernel_rfl) (by rfl) (fun K hK => ?_)
          go_simp
          have hszA := hS12.size
          refine (HA.out _).mono ?_
          rintro r wA ⟨v, rfl, hqA, kA⟩
          obtain ⟨A, c, rfl, -⟩ := hqA.form
          have hqA := que_lower hqA hszA
          go_wp2_with fail
          have hS19' : St (b + 1 + 1) w2 wA := hS12.trans kA
          have hA20 := there_keep hA14 kA hlt15 (by simp)
          have hlt21 := Nat.lt_of_lt_of_le hlt15 kA.size
          have hcb := range_keep hcb kA (by simp)
          refine hK.out _ _ hS19' (fun hS19 => ?_)
          clear hK K
          try simp only [Act.put, List.setIfInBounds_toArray, List.set_cons_zero, List.set_cons_succ]
          refine held_one 4 rfl (by kernel_rfl) (by rfl) (fun K hK => ?_)
          obtain ⟨A6, c6, w6, hr6, hq6, k6⟩ := push_at ⟨e, k, m, t⟩ hqA hcb (by omega) hS19.size
          refine wp_append_known _ _ _ 42 rfl _ _ rfl rfl hr6 (some 32) rfl ?_
          obtain ⟨A7, c7, e7, -, hli⟩ := que_li hq6
          injection e7 with e71 e72 e73
          subst e71
          have hS22' : St (b + 1 + 1) w2 w6 := hS19.push k6 (fun i hi => (hqA.lt i hi).1) HBZ2.out
          skip
          refine hK.out _ _ hS22' (fun hS22 => ?_)
          clear hK K
          try simp only [Act.put, List.setIfInBounds_toArray, List.set_cons_zero, List.set_cons_succ]
          refine held_one 5 rfl (by kernel_rfl) (by rfl) (fun K hK => ?_)
          go_simp
          have hof := fun c6 => listOf_c A6 (l.length + 1) c6 (l ++ [⟨e, k, m, t⟩]) _ hli (by simp) (by have := HLL.out; simpa using this)
          unfold vv at hof
          refine (hof _).mono ?_
          rintro r w7 ⟨rfl, k7⟩
          go_wp2_with fail
          have hS23' : St (b + 1 + 1) w2 w7 := hS22.trans k7
          skip
          refine hK.out _ _ hS23' (fun hS23 => ?_)
          clear hK K
          try simp only [Act.put, List.setIfInBounds_toArray, List.set_cons_zero, List.set_cons_succ]
          refine held_one 6 rfl (by kernel_rfl) (by rfl) (fun K hK => ?_)
          refine wp_store_mid0 _ _ _ rfl (b + 1 + 1) 0 (lc (l ++ [⟨e, k, m, t⟩])).toArray rfl rfl (by rw [lc_size]; exact hS23.th) (iList' _) (lc_all _) rfl ?_
          have hS24' : St (b + 1 + 1) w2 (w7.setCells (b + 1 + 1) 0 (lc (l ++ [⟨e, k, m, t⟩]))) := hS23.setCells _
          refine hK.out _ _ hS24' (fun hS24 => ?_)
          clear hK K
          skip
          refine held_take 7 (some 5) (.int .i64 0) rfl rfl (by kernel_rfl) (by kernel_rfl) (by kernel_rfl) (fun _ _ _ h => h) (Or.inl ⟨by rfl, fun w' hw' => by go_simp⟩) hS24 ?_
          simp only [Act.put, List.setIfInBounds_toArray, List.set_cons_zero, List.set_cons_succ]
          refine wpAnyH_done (by kernel_rfl) ?_ _
          refine NoPanic.normal ?_
          go_wp2_with fail
          refine bodyPost_ret (results_range rfl _ _ (b + 1 + 1) 0 (lc (l ++ [⟨e, k, m, t⟩])) _ rfl (World.rangeAt_setCells_same _ _ _ _ (by rw [lc_len]; exact hS23.th)) Try.underlying27 rfl (iList _)) rfl ?_
          exact ⟨by rw [HE.out.1, HE.out.2]; rfl, but_own K2.out hS24.kp (fun i hi => by simp at hi; have := HBW.out; omega)⟩
/-- What the document's Ask answers: the same row, or one of the call's own, not in block b. -/
def Ra (b : Nat) (l : List Wn) (a : Wn) (w : World) (e : Ending) (w' : World) : Prop :=
  ∃ (A' : Option Addr) (c' : Nat), e = .returned (.tuple #[.slice A' (askL l a).length c', .int .i64 (askC l a)]) ∧ Xa w' b A' (askL l a) ∧ But [] w w'
/-- A row that is copied behind an empty one. -/
theorem que_copy {w : World} {n c : Nat} {A : Option Addr} {l : List Wn} (h : Li w A l) (hl : l.length = n) (hn : n ≤ 100000) :
    ∃ A' c' w', (Builtin.append_ #[rS, rS] rS #[.slice none 0 0, .slice A n c]).run Try.prog w = .ok (.slice A' n c') w' ∧ Que w' w.heap.size 4 (.slice A' n c') n (wl l) ∧ But [] w w' := by
  obtain ⟨i0, hi, hz0, hz1, hz2⟩ := info_parts infoRw
  have hs : Src Try.prog 4 rS (.slice A n c) n (wl l) w := by
    cases A with
    | none =>
      have h0 : l = [] := by
        rcases h with h | ⟨g, off, e, _⟩
        · exact h
        · cases e
      subst h0
      obtain rfl : n = 0 := hl.symm
      exact Src.ofNil w Try.underlying28 c
    | some a =>
      refine Src.ofSlice w Try.underlying28 a n c (wl l) (by rw [wl_len, hl]) (fun j u hu => ?_) (wl_one l)
      rcases h with h | ⟨g, off, e, h1, hc⟩
      · subst h; simp [wl] at hu
      · injection e with e
        subst e
        rw [Addr.add_mid]
        exact hc j u hu
  obtain ⟨v', w', hr, hq, hk, ho⟩ := run_append_que (P := Try.prog) w w.heap.size rS rS rW i0 _ 4 32 Try.underlying28 hi hz0 hz1 hz2 rfl (by decide) (.slice none 0 0) 0 [] (Que.nil _ _ _) (.slice A n c) n (wl l) hs (by unfold maxLen; omega) (by omega) (Nat.le_refl _)
  have hq' : Que w' w.heap.size 4 v' n (wl l) := by simpa using hq
  obtain ⟨A', c', rfl, _⟩ := hq'.form
  exact ⟨A', c', w', hr, hq', hk.wider (by simp [Value.ownBlock])⟩
set_option maxHeartbeats 2000000 in
theorem rask_c (b : Nat) (A : Option Addr) (n c : Nat) (l : List Wn) (e k m t : Int) (w : World) (hl : l.length ≤ 64) (h : Xa w b A l) (hb : b < w.heap.size) (hn : l.length = n) :
    Calls Try.prog 8 #[.slice A n c, .agg #[.int .i64 e, .int .i64 k, .int .i64 m, .int .i64 t]] w (Ra b l ⟨e, k, m, t⟩ w) := by
  obtain ⟨B, hB⟩ : ∃ B, B = w.heap.size := ⟨_, rfl⟩
  obtain ⟨wa, hwa⟩ : ∃ wa, wa = w.alloc (.cells #[.int .i64 e, .int .i64 k, .int .i64 m, .int .i64 t] rW) := ⟨_, rfl⟩
  have ka : But [] w wa := by rw [hwa]; exact (But.refl [] w).alloc _
  have hra : wa.rangeAt B 0 (Wn.vs ⟨e, k, m, t⟩) := by rw [hwa, hB]; exact new_range w (Wn.vs ⟨e, k, m, t⟩) rW
  obtain ⟨c0, c1, c2, c3⟩ := four hra
  simp only [Nat.zero_add] at c1 c2 c3
  have HX := hid (h.keep ka (by simp))
  have KA := hid ka
  have HN := hid hn
  have HBW := hid (And.intro hb hB)
  have hn64 : n ≤ 64 := by omega
  clear ka hra h hb hn hl
  go_enter Try.func8, Try.ntmps8
  go_upto_region 1 with fail
  rw [← hwa, ← hB]
  clear hwa hB
  go_wp2_with fail
  refine (right_c e k m t wa).mono ?_
  rintro r w1 ⟨rfl, k1⟩
  have d0 := cell_keep c0 k1 (by simp)
  have d1 := cell_keep c1 k1 (by simp)
  have d2 := cell_keep c2 k1 (by simp)
  have d3 := cell_keep c3 k1 (by simp)
  have HX1 := hid (HX.out.keep k1 (by simp))
  have K1 := hid (KA.out.trans k1)
  clear c0 c1 c2 c3 k1 HX KA
  cases hv : mb ⟨e, k, m, t⟩ with
  | false =>
    have HE := hid (ask_may (l := l) hv)
    clear hv
    go_wp2
    go_ret2
    exact ⟨A, c, by rw [HE.out.1, HE.out.2, HN.out]; rfl, by rw [HE.out.2]; exact HX1.out, K1.out⟩
  | true =>
    have HV := hid hv
    clear hv
    go_wp2_with fail
    refine (has_c A n c l e k m w1 HX1.out.li HN.out (by omega)).mono ?_
    rintro r w2 ⟨rfl, k2⟩
    have f0 := cell_keep d0 k2 (by simp)
    have f1 := cell_keep d1 k2 (by simp)
    have f2 := cell_keep d2 k2 (by simp)
    have f3 := cell_keep d3 k2 (by simp)
    have HX2 := hid (HX1.out.keep k2 (by simp))
    have K2 := hid (K1.out.trans k2)
    clear d0 d1 d2 d3 k2 HX1 K1
    cases ha : l.any (key e k m) with
    | true =>
      have HE := hid (ask_is (l := l) HV.out ha)
      clear ha
      go_wp2
      go_ret2
      exact ⟨A, c, by rw [HE.out.1, HE.out.2, HN.out]; rfl, by rw [HE.out.2]; exact HX2.out, K2.out⟩
    | false =>
      have HF := hid ha
      clear ha
      by_cases h64 : n = 64
      · have HE := hid (ask_full (l := l) HV.out HF.out (by rw [HN.out]; exact h64))
        subst h64
        go_wp2
        go_ret2
        exact ⟨A, c, by rw [HE.out.1, HE.out.2, HN.out]; rfl, by rw [HE.out.2]; exact HX2.out, K2.out⟩
      · have HE := hid (ask_ok (l := l) HV.out HF.out (by rw [HN.out]; exact h64))
        have hn64 : ¬ (64 ≤ (n : Int)) := by omega
        obtain ⟨A1, c1, w3, hr3, hq3, hk3⟩ := que_copy (c := c) HX2.out.li HN.out (by omega)
        have g0 := cell_keep f0 hk3 (by simp)
        have g1 := cell_keep f1 hk3 (by simp)
        have g2 := cell_keep f2 hk3 (by simp)
        have g3 := cell_keep f3 hk3 (by simp)
        obtain ⟨g5, off5, c5, w5, hr5, hq5, hk5, -⟩ := que_push (P := Try.prog) rS rW _ Try.underlying28 infoRw rfl (by decide) (by decide) hq3 (Wn.vs ⟨e, k, m, t⟩) rfl (vs_one _) hk3.size (by omega)
        have HR3 := hid hr3
        have HR5 := hid hr5
        have HK5 : Hid (But [] w w5) := but_own (K2.out.trans hk3) hk5 (fun i hi => Nat.le_trans K2.out.size (hq3.lt i hi).1)
        have HQ5 : Hid (Que w5 w2.heap.size 4 (.slice (some ⟨g5, off5, none⟩) (n + 1) c5) (n + 1) (wl (l ++ [⟨e, k, m, t⟩]))) := by show Que _ _ _ _ _ _; rw [wl_app]; exact hq5
        have HBB : Hid (b < w2.heap.size) := by show _ < _; have := HBW.out; have := K2.out.size; omega
        clear hr3 hr5 hq5 hk5 hk3 hq3 h64
        go_wp2_with (first
          | (refine wpList_append_known _ rfl _ _ rS rfl _ _ rfl rfl HR3.out ?_)
          | (refine wpList_append_known _ rfl _ _ rS rfl _ _ rfl rfl HR5.out ?_))
        go_ret2
        obtain ⟨A6, c6, e6, -, -, hx6⟩ := que_xa HQ5.out HBB.out
        injection e6 with e61 e62 e63
        exact ⟨some ⟨g5, off5, none⟩, c5, by rw [HE.out.1, HE.out.2]; simp [HN.out], by rw [HE.out.2, e61]; exact hx6, HK5.out⟩
end Go.Proofs.Ytfopmdiepaonnaa.Ao
