/-
  Layer 16 (slots): contract of Next, over the translated program. (Written by tools/gen_vtn.py out of VtNext.head.)
-/
import Derived.Test.YteenclhmdnnniaaVtOf
import Derived.Test.YteenclhmdnnniaaFloat
namespace Go.Proofs.Yteenclhmdnnniaa.Vt
open Go.ChangeShapes Go.WideShapes Go.ChangeAt Go.RowKit
open Wh
set_option linter.unusedVariables false
set_option maxRecDepth 20000

/-- A row of the call's own without its first number, as a slice expression tells it. -/
theorem tail_of {w : World} {base g off n cap : Nat} {x : Value} {xs : List Value} (h : Que w base 1 (.slice (some ⟨g, off, none⟩) (n + 1) cap) (n + 1) (x :: xs)) (hn : n ≤ 100000) :
    ∃ off' cap', (∀ w', (Instr.sliceAt 22 (.slice (some ⟨g, off, none⟩) (n + 1) cap) (some (.int .i64 1)) none none).run Try.prog w' = .ok (.slice (some ⟨g, off', none⟩) n cap') w') ∧
      Que w base 1 (.slice (some ⟨g, off', none⟩) n cap') n xs ∧ (n + 1 ≤ cap' → off < off' + n) := by
  obtain ⟨i0, hi, hz0, hz1, hz2⟩ := info_parts infoInt
  have he : Try.prog.elem 22 = 3 := by kernel_rfl
  have ht : Try.prog.underlying 22 = some (.slice (Try.prog.elem 22)) := by rw [he]; exact Try.underlying22
  obtain ⟨hl, h0⟩ := h
  rcases h0 with ⟨h0, _⟩ | ⟨g', off0, cap0, e, hb, hg, hnc, hcm, hth, hr⟩
  · cases h0
  · injection e with e1 e2 e3
    injection e1 with e1
    injection e1 with e4 e5
    subst e4; subst e5; subst e3
    have hxl : xs.length = n := by simp at hl; omega
    have hrun : ∀ w', (Instr.sliceAt 22 (.slice (some ⟨g, off, none⟩) (n + 1) cap) (some (.int .i64 1)) none none).run Try.prog w' = .ok (sliced (some ⟨g, off, none⟩) 1 (n + 1) cap 1) w' := fun w' => by
      rw [run_sliceAt_slice w' _ _ _ _ _ ht, run_slice_l w' _ _ _ _ ht .i64 1 (by omega) (by omega)]
      simp [sizeOf, typeInfo, he, hi, hz1]
    by_cases hc : cap = 1
    · subst hc
      obtain rfl : n = 0 := by omega
      refine ⟨off, 0, fun w' => ?_, ⟨by simpa using hxl, .inr ⟨g, off, 0, rfl, hb, hg, Nat.le_refl _, Nat.zero_le _, fun j hj => by omega, fun j u hu => ?_⟩⟩, fun h => by omega⟩
      · rw [hrun]
        simp [sliced]
      · have : xs = [] := List.eq_nil_of_length_eq_zero hxl
        subst this
        simp at hu
    · refine ⟨off + 1, cap - 1, fun w' => ?_, ⟨by omega, .inr ⟨g, off + 1, cap - 1, rfl, hb, hg, by omega, by omega, fun j hj => ?_, fun j u hu => ?_⟩⟩, fun h => by omega⟩
      · rw [hrun]
        simp [sliced, hc, Addr.add_lit]
      · have := hth (1 + j) (by omega)
        rwa [← Nat.add_assoc] at this
      · have := hr (j + 1) u (by simpa using hu)
        rwa [show off + (j + 1) = off + 1 + j by omega] at this
/-- One number, that lies in a box of its own, behind an own row: the row's cells that it had stand, and those ahead of them. -/
theorem push_one {w : World} {base g off n cap B : Nat} {x : Int} {l : List Int} (h : Que w base 1 (.slice (some ⟨g, off, none⟩) n cap) n (zi l)) (hc : w.cell? ⟨B, 0, none⟩ = some (.int .i64 x)) (hn : n ≤ 100000) (hb : base ≤ w.heap.size) :
    ∃ A' c' w', (Builtin.append_ #[22, 22] 22 #[.slice (some ⟨g, off, none⟩) n cap, .slice (some ⟨B, 0, none⟩) 1 1]).run Try.prog w = .ok (.slice A' (n + 1) c') w' ∧ Que w' base 1 (.slice A' (n + 1) c') (n + 1) (zi (l ++ [x])) ∧ But [g] w w' ∧
      ∀ o, (n + 1 ≤ cap → o < off + n) → w'.cell? ⟨g, o, none⟩ = w.cell? ⟨g, o, none⟩ := by
  obtain ⟨i0, hi, hz0, hz1, hz2⟩ := info_parts infoInt
  have hs : Src Try.prog 1 22 (.slice (some ⟨B, 0, none⟩) 1 1) 1 (zi [x]) w := by
    refine Src.ofSlice w Try.underlying22 ⟨B, 0, none⟩ 1 1 (zi [x]) rfl (fun j u hu => ?_) (zi_one _)
    match j, hu with
    | 0, hu =>
      obtain rfl := Option.some.inj hu
      rw [Addr.add_mid]
      exact hc
    | j + 1, hu => simp [zi] at hu
  obtain ⟨v', w', hr, hq, hk', ho⟩ := run_append_que (P := Try.prog) w base 22 22 3 i0 _ 1 8 Try.underlying22 hi hz0 hz1 hz2 rfl (by decide) _ n _ h (.slice (some ⟨B, 0, none⟩) 1 1) 1 (zi [x]) hs (by unfold maxLen; omega) (by omega) hb
  obtain ⟨A', c', rfl, _⟩ := hq.form
  refine ⟨A', c', w', hr, by rw [zi_app]; exact hq, hk', fun o hlow => ?_⟩
  rcases h.2 with ⟨h0, _⟩ | ⟨g', off0, cap0, e, hbg, hg, hnc, hcm, hth, hrr⟩
  · cases h0
  · injection e with e1 e2 e3
    injection e1 with e1
    injection e1 with e4 e5
    subst e4; subst e5; subst e3
    by_cases hroom : n + 1 ≤ cap
    · have hfit : n * i0.size + (zi [x]).length ≤ cap * i0.size := by rw [hz1, zi_len]; simp; omega
      have hgo := run_append_room_src (P := Try.prog) (w := w) 22 22 22 3 i0 Try.underlying22 hi g off n cap (.slice (some ⟨B, 0, none⟩) 1 1) 1 (zi [x]) (by rw [hz1]; exact hs) hroom
        (fun j hj => by rw [zi_len] at hj; have := (hth (n + j) (by simp at hj; omega)).1; rw [hz1, Nat.mul_one, Nat.add_assoc]; exact this)
        (fun j hj => by rw [zi_len] at hj; have := (hth (n + j) (by simp at hj; omega)).2; rw [hz1, Nat.mul_one, Nat.add_assoc]; exact this)
      rw [hr] at hgo
      injection hgo with e6 e7
      have := hlow hroom
      rw [e7, hz1, Nat.mul_one]
      exact World.cell?_setCells_out g (zi [x]) (off + n) w ⟨g, o, none⟩ (fun _ _ => by show o < _ ∨ _ ≤ o; omega)
    · have hold : (Builtin.firstCells i0.size n (.slice (some ⟨g, off, none⟩) n cap)).run Try.prog w.drew = .ok (zi l).toArray w.drew := by
        rw [hz1]
        exact run_firstCells_some w.drew 1 n ⟨g, off, none⟩ n cap (zi l) h.1 (fun j u hu => by rw [Addr.add_lit]; exact hrr j u hu)
      have hgo := run_append_grow_src (P := Try.prog) (w := w) 22 22 22 3 i0 _ Try.underlying22 hi hz0 (some ⟨g, off, none⟩) n cap (zi l) hold (.slice (some ⟨B, 0, none⟩) 1 1) 1 (zi [x]) (by rw [hz1]; exact hs) (by omega) (by omega) (growslice_fits (by omega) (by rw [hz2]; omega))
      rw [hr] at hgo
      injection hgo with e6 e7
      rw [e7]
      exact (((But.refl [] w).drew).alloc _).cell (p := ⟨g, o, none⟩) hg (by simp)
/-- The operation append, where its run is known. -/
theorem wp_append_known {P : Program} (w : World) {o : Oper} {a : Act} {K : Act → World → Prop} {Q : Exit → Act → World → Prop} (d s : Operand) (t : TypeId)
    (ho : o.op = .call { callee := .builtin .append, args := #[d, s], argTypes := #[t, t] }) (v u : Value) (hd : a.eval d = v) (hs : a.eval s = u) {v' : Value} {w' : World}
    (hr : (Builtin.append_ #[t, t] o.type #[v, u]).run P w = .ok v' w') (dst : Option Tmp) (hdst : o.dst = dst) (h : K (a.put dst v') w') : Oper.wp P o a w K Q := by
  subst hdst
  unfold Oper.wp execOp
  simp only [ho, resolve, invoke, builtin, Sem.run_bind, Sem.run_pure, Result.andThen_ok, List.map_toArray, List.map_cons, List.map_nil, hd, hs, hr]
  exact h
/-- A store of a whole struct, which tells nothing. -/
theorem wp_store_mid0 {P : Program} {op : Oper} {a : Act} {w : World} {K : Act → World → Prop} {Q : Exit → Act → World → Prop} (ty : TypeId) (x y : Operand) (ho : op.op = .store ty x y)
    (b o : Nat) (cells : Array Value) (hx : a.eval x = .pointer (some ⟨b, o, none⟩)) (hy : a.eval y = .agg cells)
    (ht : w.there b o cells.size) (hi : (P.info? ty).map (·.size) = some cells.size) (h1 : cells.all (·.oneCell') = true) (hd : op.dst = none)
    (h : K a (w.setCells b o cells.toList)) : op.wp P a w K Q := wp_store_mid ty x y ho b o cells hx hy ht hi h1 (by rw [hd]; exact h)
/-- Till now but one row's block stands, and of that a cell. -/
structure Sf (g off : Nat) (x : Int) (u w : World) : Prop where
  kp : But [g] u w
  cl : w.cell? ⟨g, off, none⟩ = some (.int .i64 x)
  lt : g < u.heap.size
section
variable {g off : Nat} {x : Int} {u w w' : World}
theorem Sf.size (h : Sf g off x u w) : u.heap.size ≤ w.heap.size := h.kp.size
theorem Sf.trans (h : Sf g off x u w) (k : But [] w w') : Sf g off x u w' := ⟨h.kp.trans (k.any _), cell_keep h.cl k (by simp), h.lt⟩
theorem Sf.alloc (h : Sf g off x u w) (o : Obj) : Sf g off x u (w.alloc o) := h.trans ((But.refl [] w).alloc o)
theorem Sf.push (h : Sf g off x u w) (k : But [g] w w') (hc : w'.cell? ⟨g, off, none⟩ = w.cell? ⟨g, off, none⟩) : Sf g off x u w' := ⟨h.kp.trans k, hc.trans h.cl, h.lt⟩
theorem Sf.setCells (h : Sf g off x u w) {b : Nat} (hb : b ∈ ([] : List Nat) ∨ u.heap.size ≤ b) (vs : List Value) (o : Nat) : Sf g off x u (w.setCells b o vs) :=
  have hne : g ≠ b := by
    rcases hb with hb | hb
    · cases hb
    · have := h.lt; omega
  ⟨h.kp.setCells (hb.elim (fun h => by cases h) .inr) vs o, (World.cell?_setCells_out b vs o w ⟨g, off, none⟩ (fun e _ => absurd e hne)).trans h.cl, h.lt⟩
end
/-- A result that is a struct in memory, and two beside it. -/
theorem results_range3 {P : Program} {fn : Func} {p u v : Tmp} {ty : TypeId} (h : fn.results = #[.cell p ty, .tmp u, .tmp v]) (tmps : Array Value) (w : World) (b o : Nat) (cs : List Value) (d : TypeDesc)
    (hp : tmps.getD p undef = .pointer (some ⟨b, o, none⟩)) (hc : w.rangeAt b o cs) (hu : P.underlying ty = some d) (hd : d.isRow = true) (hi : (P.info? ty).map (·.size) = some cs.length) :
    (results fn tmps).run P w = .ok (.tuple #[.agg cs.toArray, tmps.getD u undef, tmps.getD v undef]) w := by
  have hp' : tmps[p]?.getD undef = .pointer (some ⟨b, o, none⟩) := by simpa using hp
  simp [results, h, hp', asAddr, run_loadVar_mid w b o ty cs d hc hu hd hi]
/-- What Next tells. -/
def nx : List Int → Value
  | [] => .tuple #[vv [], .int .i64 0, .bool false]
  | x :: r => .tuple #[vv (r ++ [x]), .int .i64 x, .bool true]
theorem box_two (w : World) (l : List Int) : VtAt ((w.alloc (.cells (vc l).toArray vT)).alloc (.cells (vc []).toArray vT)) w.heap.size l ∧ VtAt ((w.alloc (.cells (vc l).toArray vT)).alloc (.cells (vc []).toArray vT)) (w.heap.size + 1) [] ∧
    ((w.alloc (.cells (vc l).toArray vT)).alloc (.cells (vc []).toArray vT)).heap.size = w.heap.size + 2 := by
  have s1 : (w.alloc (.cells (vc l).toArray vT)).heap.size = w.heap.size + 1 := by simp
  have h2 := vt_new (w.alloc (.cells (vc l).toArray vT)) []
  rw [s1] at h2
  exact ⟨(vt_new w l).keep0 ((But.refl [] _).alloc _), h2, by simp⟩
set_option maxHeartbeats 2000000 in
theorem next_c (l : List Int) (hl : okB l = true) (w : World) : Calls Try.prog 10 #[vv l] w fun r w' => r = .returned (nx l) ∧ But [] w w' := by
  have hz := zVec
  obtain ⟨b, hb⟩ : ∃ b, b = w.heap.size := ⟨_, rfl⟩
  obtain ⟨w0, hw0⟩ : ∃ w0, w0 = (w.alloc (.cells (vc l).toArray vT)).alloc (.cells (vc []).toArray vT) := ⟨_, rfl⟩
  have HB0 : Hid (But [] w w0) := by show But _ _ _; rw [hw0]; exact ((But.refl [] w).alloc _).alloc _
  obtain ⟨t1, t2, t3⟩ := box_two w l
  rw [← hw0, ← hb] at t1 t2 t3
  have HR0 := hid t1.all
  have HT0 : Hid (w0.there (b + 1) 0 (vc []).toArray.size) := by show World.there _ _ _ _; rw [vc_size]; exact t2.there
  have HS0 := hid t3
  have HBW := hid hb
  have HO := hid hl
  have h32 := okB_len hl
  have HA := hid (all_c l h32 w0)
  clear t1 t2 t3 hl
  unfold vv at HA ⊢
  cases l with
  | nil =>
    go_enter Try.func10, Try.ntmps10
    go_upto_region 1 with fail
    rw [← hw0, ← hb]
    clear hw0 hb hz
    go_wp2_with (first
      | (refine wpList_load_mid rfl vT _ rfl b 0 rfl (vc []) _ HR0.out Try.underlying25 rfl (iVec _) ?_))
    refine HA.out.mono ?_
    rintro r w1 ⟨v, rfl, hq, k1⟩
    obtain ⟨A, c, rfl, -, hli⟩ := que_li hq
    have K1 := hid k1
    have HR1 : Hid (w1.rangeAt b 0 (vc [])) := range_keep HR0.out k1 (by simp)
    have HT1 : Hid (w1.there (b + 1) 0 (vc []).toArray.size) := there_keep HT0.out k1 (by have := HS0.out; omega) (by simp)
    clear hq k1 hli HA
    go_wp2_with (first
      | (refine wpList_load_mid rfl vT _ rfl b 0 rfl (vc []) _ HR1.out Try.underlying25 rfl (iVec _) ?_)
      | (refine wpList_store_mid rfl vT _ _ rfl (b + 1) 0 (vc []).toArray rfl rfl ?ht (iVec' _) (vc_all _) ?_; case ht => exact HT1.out))
    refine bodyPost_ret (results_range3 rfl _ _ (b + 1) 0 (vc []) _ rfl (World.rangeAt_setCells_same _ _ _ _ (by have := HT1.out; rwa [vc_size, ← vc_len []] at this)) Try.underlying25 rfl (iVec _)) rfl ?_
    exact ⟨rfl, but_own (HB0.out.trans K1.out) ((But.refl [b + 1] _).setCells (by simp) _ _) (fun i hi => by simp at hi; have := HBW.out; omega)⟩
  | cons x l =>
    obtain ⟨n, hn⟩ : ∃ n, l.length = n := ⟨_, rfl⟩
    have hn1 : (x :: l).length = n + 1 := by simp [hn]
    rw [hn1] at HA h32
    have HN := hid hn
    have HOK : Hid (okB (l ++ [x]) = true) := rt_ok HO.out
    clear hn hn1
    go_enter Try.func10, Try.ntmps10
    go_upto_region 1 with fail
    rw [← hw0, ← hb]
    clear hw0 hb
    go_wp2_with (first
      | (refine wpList_load_mid rfl vT _ rfl b 0 rfl (vc (x :: l)) _ HR0.out Try.underlying25 rfl (iVec _) ?_))
    refine HA.out.mono ?_
    rintro r w1 ⟨v, rfl, hq, k1⟩
    obtain ⟨g, off, cap, rfl, hbg, hg, hnc, hr⟩ := hq.row (by omega)
    obtain ⟨off', cap', hsl, hq2, hlow⟩ := tail_of hq (by omega)
    have HSL := hid hsl
    have HQ := hid hq2
    have HLOW := hid hlow
    have HX : Hid (w1.cell? ⟨g, off, none⟩ = some (.int .i64 x)) := by have := range_cells hr 0 _ rfl; rwa [Nat.add_zero] at this
    have K1 := hid k1
    have HT1 : Hid (w1.there (b + 1) 0 (vc []).toArray.size) := there_keep HT0.out k1 (by have := HS0.out; omega) (by simp)
    have hgb : b + 1 < g := by have := HS0.out; omega
    have hbw : b + 1 < w1.heap.size := by omega
    have HG := hid hg
    clear hq hq2 hsl hlow hr k1 HA hnc HR0
    go_upto_region 4 with fail
    have hS00 : Sf g off x w1 w1.drew := ⟨(But.refl _ _).drew, HX.out, HG.out⟩
    have HQK := hid (HQ.out.keep0 (But.refl [] _).drew)
    refine wp_region_noPanic ?_
    refine wp_region_held_drew (S := fun w' => Sf g off x w1 w') (by kernel_rfl) hS00 (fun hS0 => ?_)
    generalize w1.drew = wd at *
    refine held_take 0 (some 15) (.slice (some ⟨g, off, none⟩) (n + 1) cap) rfl rfl (by kernel_rfl) (by kernel_rfl) (by kernel_rfl) (fun _ _ _ h => h) (Or.inl ⟨by rfl, fun w' hw' => by go_simp⟩) hS0 ?_
    simp only [Act.put, List.setIfInBounds_toArray, List.set_cons_zero, List.set_cons_succ]
    refine held_take 1 (some 16) (.slice (some ⟨g, off', none⟩) n cap') rfl rfl (by kernel_rfl) (by kernel_rfl) (by kernel_rfl) (fun _ _ _ h => h) (Or.inl ⟨by rfl, fun w' hw' => by have hsl := HSL.out; go_simp⟩) hS0 ?_
    simp only [Act.put, List.setIfInBounds_toArray, List.set_cons_zero, List.set_cons_succ]
    refine held_take 2 (some 17) (.slice (some ⟨g, off, none⟩) (n + 1) cap) rfl rfl (by kernel_rfl) (by kernel_rfl) (by kernel_rfl) (fun _ _ _ h => h) (Or.inl ⟨by rfl, fun w' hw' => by go_simp⟩) hS0 ?_
    simp only [Act.put, List.setIfInBounds_toArray, List.set_cons_zero, List.set_cons_succ]
    refine held_take 3 (some 18) (.pointer (some ⟨g, off, none⟩)) rfl rfl (by kernel_rfl) (by kernel_rfl) (by kernel_rfl) (fun _ _ _ h => h) (Or.inl ⟨by rfl, fun w' hw' => by go_simp⟩) hS0 ?_
    simp only [Act.put, List.setIfInBounds_toArray, List.set_cons_zero, List.set_cons_succ]
    refine held_take 4 (some 19) (.int .i64 x) rfl rfl (by kernel_rfl) (by kernel_rfl) (by kernel_rfl) (fun _ _ _ h => h) (Or.inl ⟨by rfl, fun w' hw' => by have hq0 := hw'.cl; go_simp⟩) hS0 ?_
    simp only [Act.put, List.setIfInBounds_toArray, List.set_cons_zero, List.set_cons_succ]
    refine held_two 5 11 rfl rfl (by kernel_rfl) (by rfl) (by rfl) (fun K hK => ?_) (fun K hK => ?_)
    · skip
      go_simp
      have hqK := HQK.out
      obtain ⟨Bs, hBs⟩ : ∃ B, B = (wd).heap.size := ⟨_, rfl⟩
      have hcb : ((wd).alloc (.cells #[.int .i64 x] 3)).cell? ⟨(wd).heap.size, 0, none⟩ = some (.int .i64 x) := range_cells (new_range (wd) [.int .i64 x] 3) 0 _ rfl
      have k5 : But [] (wd) ((wd).alloc (.cells #[.int .i64 x] 3)) := (But.refl [] _).alloc _
      rw [← hBs] at hcb
      rw [← hBs]
      clear hBs
      generalize (wd).alloc (.cells #[.int .i64 x] 3) = w5 at *
      have hqK := hqK.keep0 k5
      have hS1' : Sf g off x w1 w5 := hS0.trans k5
      skip
      refine hK.out _ _ hS1' (fun hS1 => ?_)
      clear hK K
      try simp only [Act.put, List.setIfInBounds_toArray, List.set_cons_zero, List.set_cons_succ]
      refine held_two 6 11 rfl rfl (by kernel_rfl) (by rfl) (by rfl) (fun K hK => ?_) (fun K hK => ?_)
      · skip
        obtain ⟨A6, c6, w6, hr6, hq6, k6, hlow6⟩ := push_one hqK hcb (by omega) (Nat.le_trans K1.out.size hS1.size)
        refine wp_append_known _ _ _ 22 rfl _ _ rfl rfl hr6 (some 21) rfl ?_
        obtain ⟨A7, c7, e7, -, hli⟩ := que_li hq6
        injection e7 with e71 e72 e73
        subst e71
        subst e73
        have hS2' : Sf g off x w1 w6 := hS1.push k6 (hlow6 _ HLOW.out)
        skip
        refine hK.out _ _ hS2' (fun hS2 => ?_)
        clear hK K
        try simp only [Act.put, List.setIfInBounds_toArray, List.set_cons_zero, List.set_cons_succ]
        refine held_two 7 11 rfl rfl (by kernel_rfl) (by rfl) (by rfl) (fun K hK => ?_) (fun K hK => ?_)
        · skip
          go_simp
          have hof := of_c A6 (n + 1) c6 (l ++ [x]) _ hli (by simp [HN.out])
          unfold vv at hof
          rw [mk_ok HOK.out, HOK.out] at hof
          refine hof.mono ?_
          rintro e w7 ⟨rfl, k7⟩
          go_wp2_with fail
          have hS3' : Sf g off x w1 w7 := hS2.trans k7
          skip
          refine hK.out _ _ hS3' (fun hS3 => ?_)
          clear hK K
          try simp only [Act.put, List.setIfInBounds_toArray, List.set_cons_zero, List.set_cons_succ]
          refine held_take 8 (some 14) (.tuple #[.agg (vc (l ++ [x])).toArray, .bool true]) rfl rfl (by kernel_rfl) (by kernel_rfl) (by kernel_rfl) (fun _ _ _ h => h) (Or.inl ⟨by rfl, fun w' hw' => by go_simp⟩) hS3 ?_
          simp only [Act.put, List.setIfInBounds_toArray, List.set_cons_zero, List.set_cons_succ]
          refine held_take 9 (some 23) (.agg (vc (l ++ [x])).toArray) rfl rfl (by kernel_rfl) (by kernel_rfl) (by kernel_rfl) (fun _ _ _ h => h) (Or.inl ⟨by rfl, fun w' hw' => by go_simp⟩) hS3 ?_
          simp only [Act.put, List.setIfInBounds_toArray, List.set_cons_zero, List.set_cons_succ]
          refine held_take 10 (some 24) (.bool true) rfl rfl (by kernel_rfl) (by kernel_rfl) (by kernel_rfl) (fun _ _ _ h => h) (Or.inl ⟨by rfl, fun w' hw' => by go_simp⟩) hS3 ?_
          simp only [Act.put, List.setIfInBounds_toArray, List.set_cons_zero, List.set_cons_succ]
          refine held_one 11 rfl (by kernel_rfl) (by rfl) (fun K hK => ?_)
          go_simp
          obtain ⟨hA6, hlt7, hka10⟩ := made_box (w7) (vc []).toArray vT 33 (vc_size [])
          have hge8 : w1.heap.size ≤ (w7).heap.size := hS3.size
          have hS4' : Sf g off x w1 (w7.alloc (.cells (vc []).toArray vT)) := hS3.alloc _
          skip
          generalize w7.alloc (.cells (vc []).toArray vT) = wa9 at *
          generalize hBx : (w7).heap.size = Bx5 at *
          have HBxBx5 : Hid ((w7).heap.size = Bx5) := hBx
          clear hBx
          refine hK.out _ _ hS4' (fun hS4 => ?_)
          clear hK K
          try simp only [Act.put, List.setIfInBounds_toArray, List.set_cons_zero, List.set_cons_succ]
          refine held_one 12 rfl (by kernel_rfl) (by rfl) (fun K hK => ?_)
          refine wp_store_mid0 _ _ _ rfl Bx5 0 (vc (l ++ [x])).toArray rfl rfl (by have hh := hA6; rwa [← vc_size (l ++ [x])] at hh) (iVec' _) (vc_all _) rfl ?_
          have hS11' : Sf g off x w1 (wa9.setCells Bx5 0 (vc (l ++ [x]))) := hS4.setCells (.inr hge8) _ _
          have hRhS11 : (wa9.setCells Bx5 0 (vc (l ++ [x]))).rangeAt Bx5 0 (vc (l ++ [x])) := World.rangeAt_setCells_same _ _ _ _ (by have hh := hA6; rwa [← vc_len (l ++ [x])] at hh)
          have hkhS11 : But [Bx5] wa9 (wa9.setCells Bx5 0 (vc (l ++ [x]))) := (But.refl _ _).setCells (by simp) _ _
          generalize wa9.setCells Bx5 0 (vc (l ++ [x])) = wz12 at *
          refine hK.out _ _ hS11' (fun hS11 => ?_)
          clear hK K
          skip
          refine held_take 13 (some 7) (.bool true) rfl rfl (by kernel_rfl) (by kernel_rfl) (by kernel_rfl) (fun _ _ _ h => h) (Or.inl ⟨by rfl, fun w' hw' => by go_simp⟩) hS11 ?_
          simp only [Act.put, List.setIfInBounds_toArray, List.set_cons_zero, List.set_cons_succ]
          refine wpAnyH_done (by kernel_rfl) ?_ _
          refine NoPanic.normal ?_
          have HS5 := hid hS11
          have HRB : Hid ((wz12).rangeAt Bx5 0 (vc (l ++ [x]))) := hRhS11
          have HBX : Hid (b + 1 < Bx5) := by show _ < _; have := hge8; omega
          have HTd : Hid ((wz12.drew).there (b + 1) 0 (vc (l ++ [x])).toArray.size) := by
            have h1 : (wz12).there (b + 1) 0 (vc []).toArray.size := there_keep HT1.out HS5.out.kp hbw (by simp; omega)
            have h2 := there_keep h1 (But.refl [] _).drew (Nat.lt_of_lt_of_le hbw HS5.out.size) (by simp)
            show World.there _ _ _ _
            rwa [vc_size, ← vc_size (l ++ [x])] at h2
          go_upto_region 5 with fail
          refine wp_region_noPanic ?_
          refine wp_region_held_drew (S := fun w' => But [b + 1] (wz12) w') (by kernel_rfl) (But.refl _ _).drew (fun hS0 => ?_)
          generalize (wz12).drew = wd at *
          refine held_take 0 (some 25) (.agg (vc (l ++ [x])).toArray) rfl rfl (by kernel_rfl) (by kernel_rfl) (by kernel_rfl) (fun _ _ _ h => h) (yieldsIf_load_mid (by rfl) _ _ rfl Bx5 0 rfl (vc (l ++ [x])) _ (fun w' h => range_keep HRB.out h (by have := HBX.out; simp; omega)) Try.underlying25 rfl (iVec _)) hS0 ?_
          simp only [Act.put, List.setIfInBounds_toArray, List.set_cons_zero, List.set_cons_succ]
          refine held_take 1 (some 26) (.slice (some ⟨g, off, none⟩) (n + 1) cap) rfl rfl (by kernel_rfl) (by kernel_rfl) (by kernel_rfl) (fun _ _ _ h => h) (Or.inl ⟨by rfl, fun w' hw' => by go_simp⟩) hS0 ?_
          simp only [Act.put, List.setIfInBounds_toArray, List.set_cons_zero, List.set_cons_succ]
          refine held_take 2 (some 27) (.pointer (some ⟨g, off, none⟩)) rfl rfl (by kernel_rfl) (by kernel_rfl) (by kernel_rfl) (fun _ _ _ h => h) (Or.inl ⟨by rfl, fun w' hw' => by go_simp⟩) hS0 ?_
          simp only [Act.put, List.setIfInBounds_toArray, List.set_cons_zero, List.set_cons_succ]
          refine held_take 3 (some 28) (.int .i64 x) rfl rfl (by kernel_rfl) (by kernel_rfl) (by kernel_rfl) (fun _ _ _ h => h) (Or.inl ⟨by rfl, fun w' hw' => by have hq0 := cell_keep HS5.out.cl hw' (by simp; omega); go_simp⟩) hS0 ?_
          simp only [Act.put, List.setIfInBounds_toArray, List.set_cons_zero, List.set_cons_succ]
          refine held_one 4 rfl (by kernel_rfl) (by rfl) (fun K hK => ?_)
          refine wp_store_mid0 _ _ _ rfl (b + 1) 0 (vc (l ++ [x])).toArray rfl rfl HTd.out (iVec' _) (vc_all _) rfl ?_
          have hS1' : But [b + 1] (wz12) (wd.setCells (b + 1) 0 (vc (l ++ [x]))) := hS0.setCells (.inl (by simp)) _ _
          refine hK.out _ _ hS1' (fun hS1 => ?_)
          clear hK K
          skip
          refine held_take 5 (some 3) (.int .i64 x) rfl rfl (by kernel_rfl) (by kernel_rfl) (by kernel_rfl) (fun _ _ _ h => h) (Or.inl ⟨by rfl, fun w' hw' => by go_simp⟩) hS1 ?_
          simp only [Act.put, List.setIfInBounds_toArray, List.set_cons_zero, List.set_cons_succ]
          refine held_take 6 (some 4) (.bool true) rfl rfl (by kernel_rfl) (by kernel_rfl) (by kernel_rfl) (fun _ _ _ h => h) (Or.inl ⟨by rfl, fun w' hw' => by go_simp⟩) hS1 ?_
          simp only [Act.put, List.setIfInBounds_toArray, List.set_cons_zero, List.set_cons_succ]
          refine wpAnyH_done (by kernel_rfl) ?_ _
          refine NoPanic.normal ?_
          go_wp2_with fail
          refine bodyPost_ret (results_range3 rfl _ _ (b + 1) 0 (vc (l ++ [x])) _ rfl (World.rangeAt_setCells_same _ _ _ _ (by have := HTd.out; rw [vc_len]; rwa [vc_size] at this)) Try.underlying25 rfl (iVec _)) rfl ?_
          exact ⟨rfl, but_own (but_own (HB0.out.trans K1.out) HS5.out.kp (fun i hi => by simp at hi; have := HBW.out; omega)) hS1 (fun i hi => by simp at hi; have := HBW.out; omega)⟩
        · skip
          go_simp
          obtain ⟨hA15, hlt16, hka19⟩ := made_box (w6) (vc []).toArray vT 33 (vc_size [])
          have hge17 : w1.heap.size ≤ (w6).heap.size := hS2.size
          have hS13' : Sf g off x w1 (w6.alloc (.cells (vc []).toArray vT)) := hS2.alloc _
          have hli := hli.keep hka19
          generalize w6.alloc (.cells (vc []).toArray vT) = wa18 at *
          generalize hBx : (w6).heap.size = Bx14 at *
          have HBxBx14 : Hid ((w6).heap.size = Bx14) := hBx
          clear hBx
          refine hK.out _ _ hS13' (fun hS13 => ?_)
          clear hK K
          try simp only [Act.put, List.setIfInBounds_toArray, List.set_cons_zero, List.set_cons_succ]
          refine held_one 7 rfl (by kernel_rfl) (by rfl) (fun K hK => ?_)
          go_simp
          have hof := of_c A6 (n + 1) c6 (l ++ [x]) _ hli (by simp [HN.out])
          unfold vv at hof
          rw [mk_ok HOK.out, HOK.out] at hof
          refine hof.mono ?_
          rintro e w7 ⟨rfl, k7⟩
          go_wp2_with fail
          have hS20' : Sf g off x w1 w7 := hS13.trans k7
          have hA21 := there_keep hA15 k7 hlt16 (by simp)
          have hlt22 := Nat.lt_of_lt_of_le hlt16 k7.size
          skip
          refine hK.out _ _ hS20' (fun hS20 => ?_)
          clear hK K
          try simp only [Act.put, List.setIfInBounds_toArray, List.set_cons_zero, List.set_cons_succ]
          refine held_take 8 (some 14) (.tuple #[.agg (vc (l ++ [x])).toArray, .bool true]) rfl rfl (by kernel_rfl) (by kernel_rfl) (by kernel_rfl) (fun _ _ _ h => h) (Or.inl ⟨by rfl, fun w' hw' => by go_simp⟩) hS20 ?_
          simp only [Act.put, List.setIfInBounds_toArray, List.set_cons_zero, List.set_cons_succ]
          refine held_take 9 (some 23) (.agg (vc (l ++ [x])).toArray) rfl rfl (by kernel_rfl) (by kernel_rfl) (by kernel_rfl) (fun _ _ _ h => h) (Or.inl ⟨by rfl, fun w' hw' => by go_simp⟩) hS20 ?_
          simp only [Act.put, List.setIfInBounds_toArray, List.set_cons_zero, List.set_cons_succ]
          refine held_take 10 (some 24) (.bool true) rfl rfl (by kernel_rfl) (by kernel_rfl) (by kernel_rfl) (fun _ _ _ h => h) (Or.inl ⟨by rfl, fun w' hw' => by go_simp⟩) hS20 ?_
          simp only [Act.put, List.setIfInBounds_toArray, List.set_cons_zero, List.set_cons_succ]
          refine held_one 12 rfl (by kernel_rfl) (by rfl) (fun K hK => ?_)
          refine wp_store_mid0 _ _ _ rfl Bx14 0 (vc (l ++ [x])).toArray rfl rfl (by have hh := hA21; rwa [← vc_size (l ++ [x])] at hh) (iVec' _) (vc_all _) rfl ?_
          have hS23' : Sf g off x w1 (w7.setCells Bx14 0 (vc (l ++ [x]))) := hS20.setCells (.inr hge17) _ _
          have hRhS23 : (w7.setCells Bx14 0 (vc (l ++ [x]))).rangeAt Bx14 0 (vc (l ++ [x])) := World.rangeAt_setCells_same _ _ _ _ (by have hh := hA21; rwa [← vc_len (l ++ [x])] at hh)
          have hkhS23 : But [Bx14] w7 (w7.setCells Bx14 0 (vc (l ++ [x]))) := (But.refl _ _).setCells (by simp) _ _
          generalize w7.setCells Bx14 0 (vc (l ++ [x])) = wz24 at *
          refine hK.out _ _ hS23' (fun hS23 => ?_)
          clear hK K
          skip
          refine held_take 13 (some 7) (.bool true) rfl rfl (by kernel_rfl) (by kernel_rfl) (by kernel_rfl) (fun _ _ _ h => h) (Or.inl ⟨by rfl, fun w' hw' => by go_simp⟩) hS23 ?_
          simp only [Act.put, List.setIfInBounds_toArray, List.set_cons_zero, List.set_cons_succ]
          refine wpAnyH_done (by kernel_rfl) ?_ _
          refine NoPanic.normal ?_
          have HS5 := hid hS23
          have HRB : Hid ((wz24).rangeAt Bx14 0 (vc (l ++ [x]))) := hRhS23
          have HBX : Hid (b + 1 < Bx14) := by show _ < _; have := hge17; omega
          have HTd : Hid ((wz24.drew).there (b + 1) 0 (vc (l ++ [x])).toArray.size) := by
            have h1 : (wz24).there (b + 1) 0 (vc []).toArray.size := there_keep HT1.out HS5.out.kp hbw (by simp; omega)
            have h2 := there_keep h1 (But.refl [] _).drew (Nat.lt_of_lt_of_le hbw HS5.out.size) (by simp)
            show World.there _ _ _ _
            rwa [vc_size, ← vc_size (l ++ [x])] at h2
          go_upto_region 5 with fail
          refine wp_region_noPanic ?_
          refine wp_region_held_drew (S := fun w' => But [b + 1] (wz24) w') (by kernel_rfl) (But.refl _ _).drew (fun hS0 => ?_)
          generalize (wz24).drew = wd at *
          refine held_take 0 (some 25) (.agg (vc (l ++ [x])).toArray) rfl rfl (by kernel_rfl) (by kernel_rfl) (by kernel_rfl) (fun _ _ _ h => h) (yieldsIf_load_mid (by rfl) _ _ rfl Bx14 0 rfl (vc (l ++ [x])) _ (fun w' h => range_keep HRB.out h (by have := HBX.out; simp; omega)) Try.underlying25 rfl (iVec _)) hS0 ?_
          simp only [Act.put, List.setIfInBounds_toArray, List.set_cons_zero, List.set_cons_succ]
          refine held_take 1 (some 26) (.slice (some ⟨g, off, none⟩) (n + 1) cap) rfl rfl (by kernel_rfl) (by kernel_rfl) (by kernel_rfl) (fun _ _ _ h => h) (Or.inl ⟨by rfl, fun w' hw' => by go_simp⟩) hS0 ?_
          simp only [Act.put, List.setIfInBounds_toArray, List.set_cons_zero, List.set_cons_succ]
          refine held_take 2 (some 27) (.pointer (some ⟨g, off, none⟩)) rfl rfl (by kernel_rfl) (by kernel_rfl) (by kernel_rfl) (fun _ _ _ h => h) (Or.inl ⟨by rfl, fun w' hw' => by go_simp⟩) hS0 ?_
          simp only [Act.put, List.setIfInBounds_toArray, List.set_cons_zero, List.set_cons_succ]
          refine held_take 3 (some 28) (.int .i64 x) rfl rfl (by kernel_rfl) (by kernel_rfl) (by kernel_rfl) (fun _ _ _ h => h) (Or.inl ⟨by rfl, fun w' hw' => by have hq0 := cell_keep HS5.out.cl hw' (by simp; omega); go_simp⟩) hS0 ?_
          simp only [Act.put, List.setIfInBounds_toArray, List.set_cons_zero, List.set_cons_succ]
          refine held_one 4 rfl (by kernel_rfl) (by rfl) (fun K hK => ?_)
          refine wp_store_mid0 _ _ _ rfl (b + 1) 0 (vc (l ++ [x])).toArray rfl rfl HTd.out (iVec' _) (vc_all _) rfl ?_
          have hS1' : But [b + 1] (wz24) (wd.setCells (b + 1) 0 (vc (l ++ [x]))) := hS0.setCells (.inl (by simp)) _ _
          refine hK.out _ _ hS1' (fun hS1 => ?_)
          clear hK K
          skip
          refine held_take 5 (some 3) (.int .i64 x) rfl rfl (by kernel_rfl) (by kernel_rfl) (by kernel_rfl) (fun _ _ _ h => h) (Or.inl ⟨by rfl, fun w' hw' => by go_simp⟩) hS1 ?_
          simp only [Act.put, List.setIfInBounds_toArray, List.set_cons_zero, List.set_cons_succ]
          refine held_take 6 (some 4) (.bool true) rfl rfl (by kernel_rfl) (by kernel_rfl) (by kernel_rfl) (fun _ _ _ h => h) (Or.inl ⟨by rfl, fun w' hw' => by go_simp⟩) hS1 ?_
          simp only [Act.put, List.setIfInBounds_toArray, List.set_cons_zero, List.set_cons_succ]
          refine wpAnyH_done (by kernel_rfl) ?_ _
          refine NoPanic.normal ?_
          go_wp2_with fail
          refine bodyPost_ret (results_range3 rfl _ _ (b + 1) 0 (vc (l ++ [x])) _ rfl (World.rangeAt_setCells_same _ _ _ _ (by have := HTd.out; rw [vc_len]; rwa [vc_size] at this)) Try.underlying25 rfl (iVec _)) rfl ?_
          exact ⟨rfl, but_own (but_own (HB0.out.trans K1.out) HS5.out.kp (fun i hi => by simp at hi; have := HBW.out; omega)) hS1 (fun i hi => by simp at hi; have := HBW.out; omega)⟩
      · skip
        go_simp
        obtain ⟨hA27, hlt28, hka31⟩ := made_box (w5) (vc []).toArray vT 33 (vc_size [])
        have hge29 : w1.heap.size ≤ (w5).heap.size := hS1.size
        have hS25' : Sf g off x w1 (w5.alloc (.cells (vc []).toArray vT)) := hS1.alloc _
        have hqK := hqK.keep0 hka31
        have hcb := cell_keep hcb hka31 (by simp)
        generalize w5.alloc (.cells (vc []).toArray vT) = wa30 at *
        generalize hBx : (w5).heap.size = Bx26 at *
        have HBxBx26 : Hid ((w5).heap.size = Bx26) := hBx
        clear hBx
        refine hK.out _ _ hS25' (fun hS25 => ?_)
        clear hK K
        try simp only [Act.put, List.setIfInBounds_toArray, List.set_cons_zero, List.set_cons_succ]
        refine held_one 6 rfl (by kernel_rfl) (by rfl) (fun K hK => ?_)
        obtain ⟨A6, c6, w6, hr6, hq6, k6, hlow6⟩ := push_one hqK hcb (by omega) (Nat.le_trans K1.out.size hS25.size)
        refine wp_append_known _ _ _ 22 rfl _ _ rfl rfl hr6 (some 21) rfl ?_
        obtain ⟨A7, c7, e7, -, hli⟩ := que_li hq6
        injection e7 with e71 e72 e73
        subst e71
        subst e73
        have hS32' : Sf g off x w1 w6 := hS25.push k6 (hlow6 _ HLOW.out)
        have hA33 := there_keep hA27 k6 hlt28 (by simp; have := hS25.lt; omega)
        have hlt34 := Nat.lt_of_lt_of_le hlt28 k6.size
        skip
        refine hK.out _ _ hS32' (fun hS32 => ?_)
        clear hK K
        try simp only [Act.put, List.setIfInBounds_toArray, List.set_cons_zero, List.set_cons_succ]
        refine held_one 7 rfl (by kernel_rfl) (by rfl) (fun K hK => ?_)
        go_simp
        have hof := of_c A6 (n + 1) c6 (l ++ [x]) _ hli (by simp [HN.out])
        unfold vv at hof
        rw [mk_ok HOK.out, HOK.out] at hof
        refine hof.mono ?_
        rintro e w7 ⟨rfl, k7⟩
        go_wp2_with fail
        have hS35' : Sf g off x w1 w7 := hS32.trans k7
        have hA36 := there_keep hA33 k7 hlt34 (by simp)
        have hlt37 := Nat.lt_of_lt_of_le hlt34 k7.size
        skip
        refine hK.out _ _ hS35' (fun hS35 => ?_)
        clear hK K
        try simp only [Act.put, List.setIfInBounds_toArray, List.set_cons_zero, List.set_cons_succ]
        refine held_take 8 (some 14) (.tuple #[.agg (vc (l ++ [x])).toArray, .bool true]) rfl rfl (by kernel_rfl) (by kernel_rfl) (by kernel_rfl) (fun _ _ _ h => h) (Or.inl ⟨by rfl, fun w' hw' => by go_simp⟩) hS35 ?_
        simp only [Act.put, List.setIfInBounds_toArray, List.set_cons_zero, List.set_cons_succ]
        refine held_take 9 (some 23) (.agg (vc (l ++ [x])).toArray) rfl rfl (by kernel_rfl) (by kernel_rfl) (by kernel_rfl) (fun _ _ _ h => h) (Or.inl ⟨by rfl, fun w' hw' => by go_simp⟩) hS35 ?_
        simp only [Act.put, List.setIfInBounds_toArray, List.set_cons_zero, List.set_cons_succ]
        refine held_take 10 (some 24) (.bool true) rfl rfl (by kernel_rfl) (by kernel_rfl) (by kernel_rfl) (fun _ _ _ h => h) (Or.inl ⟨by rfl, fun w' hw' => by go_simp⟩) hS35 ?_
        simp only [Act.put, List.setIfInBounds_toArray, List.set_cons_zero, List.set_cons_succ]
        refine held_one 12 rfl (by kernel_rfl) (by rfl) (fun K hK => ?_)
        refine wp_store_mid0 _ _ _ rfl Bx26 0 (vc (l ++ [x])).toArray rfl rfl (by have hh := hA36; rwa [← vc_size (l ++ [x])] at hh) (iVec' _) (vc_all _) rfl ?_
        have hS38' : Sf g off x w1 (w7.setCells Bx26 0 (vc (l ++ [x]))) := hS35.setCells (.inr hge29) _ _
        have hRhS38 : (w7.setCells Bx26 0 (vc (l ++ [x]))).rangeAt Bx26 0 (vc (l ++ [x])) := World.rangeAt_setCells_same _ _ _ _ (by have hh := hA36; rwa [← vc_len (l ++ [x])] at hh)
        have hkhS38 : But [Bx26] w7 (w7.setCells Bx26 0 (vc (l ++ [x]))) := (But.refl _ _).setCells (by simp) _ _
        generalize w7.setCells Bx26 0 (vc (l ++ [x])) = wz39 at *
        refine hK.out _ _ hS38' (fun hS38 => ?_)
        clear hK K
        skip
        refine held_take 13 (some 7) (.bool true) rfl rfl (by kernel_rfl) (by kernel_rfl) (by kernel_rfl) (fun _ _ _ h => h) (Or.inl ⟨by rfl, fun w' hw' => by go_simp⟩) hS38 ?_
        simp only [Act.put, List.setIfInBounds_toArray, List.set_cons_zero, List.set_cons_succ]
        refine wpAnyH_done (by kernel_rfl) ?_ _
        refine NoPanic.normal ?_
        have HS5 := hid hS38
        have HRB : Hid ((wz39).rangeAt Bx26 0 (vc (l ++ [x]))) := hRhS38
        have HBX : Hid (b + 1 < Bx26) := by show _ < _; have := hge29; omega
        have HTd : Hid ((wz39.drew).there (b + 1) 0 (vc (l ++ [x])).toArray.size) := by
          have h1 : (wz39).there (b + 1) 0 (vc []).toArray.size := there_keep HT1.out HS5.out.kp hbw (by simp; omega)
          have h2 := there_keep h1 (But.refl [] _).drew (Nat.lt_of_lt_of_le hbw HS5.out.size) (by simp)
          show World.there _ _ _ _
          rwa [vc_size, ← vc_size (l ++ [x])] at h2
        go_upto_region 5 with fail
        refine wp_region_noPanic ?_
        refine wp_region_held_drew (S := fun w' => But [b + 1] (wz39) w') (by kernel_rfl) (But.refl _ _).drew (fun hS0 => ?_)
        generalize (wz39).drew = wd at *
        refine held_take 0 (some 25) (.agg (vc (l ++ [x])).toArray) rfl rfl (by kernel_rfl) (by kernel_rfl) (by kernel_rfl) (fun _ _ _ h => h) (yieldsIf_load_mid (by rfl) _ _ rfl Bx26 0 rfl (vc (l ++ [x])) _ (fun w' h => range_keep HRB.out h (by have := HBX.out; simp; omega)) Try.underlying25 rfl (iVec _)) hS0 ?_
        simp only [Act.put, List.setIfInBounds_toArray, List.set_cons_zero, List.set_cons_succ]
        refine held_take 1 (some 26) (.slice (some ⟨g, off, none⟩) (n + 1) cap) rfl rfl (by kernel_rfl) (by kernel_rfl) (by kernel_rfl) (fun _ _ _ h => h) (Or.inl ⟨by rfl, fun w' hw' => by go_simp⟩) hS0 ?_
        simp only [Act.put, List.setIfInBounds_toArray, List.set_cons_zero, List.set_cons_succ]
        refine held_take 2 (some 27) (.pointer (some ⟨g, off, none⟩)) rfl rfl (by kernel_rfl) (by kernel_rfl) (by kernel_rfl) (fun _ _ _ h => h) (Or.inl ⟨by rfl, fun w' hw' => by go_simp⟩) hS0 ?_
        simp only [Act.put, List.setIfInBounds_toArray, List.set_cons_zero, List.set_cons_succ]
        refine held_take 3 (some 28) (.int .i64 x) rfl rfl (by kernel_rfl) (by kernel_rfl) (by kernel_rfl) (fun _ _ _ h => h) (Or.inl ⟨by rfl, fun w' hw' => by have hq0 := cell_keep HS5.out.cl hw' (by simp; omega); go_simp⟩) hS0 ?_
        simp only [Act.put, List.setIfInBounds_toArray, List.set_cons_zero, List.set_cons_succ]
        refine held_one 4 rfl (by kernel_rfl) (by rfl) (fun K hK => ?_)
        refine wp_store_mid0 _ _ _ rfl (b + 1) 0 (vc (l ++ [x])).toArray rfl rfl HTd.out (iVec' _) (vc_all _) rfl ?_
        have hS1' : But [b + 1] (wz39) (wd.setCells (b + 1) 0 (vc (l ++ [x]))) := hS0.setCells (.inl (by simp)) _ _
        refine hK.out _ _ hS1' (fun hS1 => ?_)
        clear hK K
        skip
        refine held_take 5 (some 3) (.int .i64 x) rfl rfl (by kernel_rfl) (by kernel_rfl) (by kernel_rfl) (fun _ _ _ h => h) (Or.inl ⟨by rfl, fun w' hw' => by go_simp⟩) hS1 ?_
        simp only [Act.put, List.setIfInBounds_toArray, List.set_cons_zero, List.set_cons_succ]
        refine held_take 6 (some 4) (.bool true) rfl rfl (by kernel_rfl) (by kernel_rfl) (by kernel_rfl) (fun _ _ _ h => h) (Or.inl ⟨by rfl, fun w' hw' => by go_simp⟩) hS1 ?_
        simp only [Act.put, List.setIfInBounds_toArray, List.set_cons_zero, List.set_cons_succ]
        refine wpAnyH_done (by kernel_rfl) ?_ _
        refine NoPanic.normal ?_
        go_wp2_with fail
        refine bodyPost_ret (results_range3 rfl _ _ (b + 1) 0 (vc (l ++ [x])) _ rfl (World.rangeAt_setCells_same _ _ _ _ (by have := HTd.out; rw [vc_len]; rwa [vc_size] at this)) Try.underlying25 rfl (iVec _)) rfl ?_
        exact ⟨rfl, but_own (but_own (HB0.out.trans K1.out) HS5.out.kp (fun i hi => by simp at hi; have := HBW.out; omega)) hS1 (fun i hi => by simp at hi; have := HBW.out; omega)⟩
    · skip
      go_simp
      obtain ⟨hA42, hlt43, hka46⟩ := made_box (wd) (vc []).toArray vT 33 (vc_size [])
      have hge44 : w1.heap.size ≤ (wd).heap.size := hS0.size
      have hS40' : Sf g off x w1 (wd.alloc (.cells (vc []).toArray vT)) := hS0.alloc _
      have HQK := hid (HQK.out.keep0 hka46)
      generalize wd.alloc (.cells (vc []).toArray vT) = wa45 at *
      generalize hBx : (wd).heap.size = Bx41 at *
      have HBxBx41 : Hid ((wd).heap.size = Bx41) := hBx
      clear hBx
      refine hK.out _ _ hS40' (fun hS40 => ?_)
      clear hK K
      try simp only [Act.put, List.setIfInBounds_toArray, List.set_cons_zero, List.set_cons_succ]
      refine held_one 5 rfl (by kernel_rfl) (by rfl) (fun K hK => ?_)
      go_simp
      have hqK := HQK.out
      obtain ⟨Bs, hBs⟩ : ∃ B, B = (wa45).heap.size := ⟨_, rfl⟩
      have hcb : ((wa45).alloc (.cells #[.int .i64 x] 3)).cell? ⟨(wa45).heap.size, 0, none⟩ = some (.int .i64 x) := range_cells (new_range (wa45) [.int .i64 x] 3) 0 _ rfl
      have k5 : But [] (wa45) ((wa45).alloc (.cells #[.int .i64 x] 3)) := (But.refl [] _).alloc _
      rw [← hBs] at hcb
      rw [← hBs]
      clear hBs
      generalize (wa45).alloc (.cells #[.int .i64 x] 3) = w5 at *
      have hqK := hqK.keep0 k5
      have hS47' : Sf g off x w1 w5 := hS40.trans k5
      have hA48 := there_keep hA42 k5 hlt43 (by simp)
      have hlt49 := Nat.lt_of_lt_of_le hlt43 k5.size
      skip
      refine hK.out _ _ hS47' (fun hS47 => ?_)
      clear hK K
      try simp only [Act.put, List.setIfInBounds_toArray, List.set_cons_zero, List.set_cons_succ]
      refine held_one 6 rfl (by kernel_rfl) (by rfl) (fun K hK => ?_)
      obtain ⟨A6, c6, w6, hr6, hq6, k6, hlow6⟩ := push_one hqK hcb (by omega) (Nat.le_trans K1.out.size hS47.size)
      refine wp_append_known _ _ _ 22 rfl _ _ rfl rfl hr6 (some 21) rfl ?_
      obtain ⟨A7, c7, e7, -, hli⟩ := que_li hq6
      injection e7 with e71 e72 e73
      subst e71
      subst e73
      have hS50' : Sf g off x w1 w6 := hS47.push k6 (hlow6 _ HLOW.out)
      have hA51 := there_keep hA48 k6 hlt49 (by simp; have := hS47.lt; omega)
      have hlt52 := Nat.lt_of_lt_of_le hlt49 k6.size
      skip
      refine hK.out _ _ hS50' (fun hS50 => ?_)
      clear hK K
      try simp only [Act.put, List.setIfInBounds_toArray, List.set_cons_zero, List.set_cons_succ]
      refine held_one 7 rfl (by kernel_rfl) (by rfl) (fun K hK => ?_)
      go_simp
      have hof := of_c A6 (n + 1) c6 (l ++ [x]) _ hli (by simp [HN.out])
      unfold vv at hof
      rw [mk_ok HOK.out, HOK.out] at hof
      refine hof.mono ?_
      rintro e w7 ⟨rfl, k7⟩
      go_wp2_with fail
      have hS53' : Sf g off x w1 w7 := hS50.trans k7
      have hA54 := there_keep hA51 k7 hlt52 (by simp)
      have hlt55 := Nat.lt_of_lt_of_le hlt52 k7.size
      skip
      refine hK.out _ _ hS53' (fun hS53 => ?_)
      clear hK K
      try simp only [Act.put, List.setIfInBounds_toArray, List.set_cons_zero, List.set_cons_succ]
      refine held_take 8 (some 14) (.tuple #[.agg (vc (l ++ [x])).toArray, .bool true]) rfl rfl (by kernel_rfl) (by kernel_rfl) (by kernel_rfl) (fun _ _ _ h => h) (Or.inl ⟨by rfl, fun w' hw' => by go_simp⟩) hS53 ?_
      simp only [Act.put, List.setIfInBounds_toArray, List.set_cons_zero, List.set_cons_succ]
      refine held_take 9 (some 23) (.agg (vc (l ++ [x])).toArray) rfl rfl (by kernel_rfl) (by kernel_rfl) (by kernel_rfl) (fun _ _ _ h => h) (Or.inl ⟨by rfl, fun w' hw' => by go_simp⟩) hS53 ?_
      simp only [Act.put, List.setIfInBounds_toArray, List.set_cons_zero, List.set_cons_succ]
      refine held_take 10 (some 24) (.bool true) rfl rfl (by kernel_rfl) (by kernel_rfl) (by kernel_rfl) (fun _ _ _ h => h) (Or.inl ⟨by rfl, fun w' hw' => by go_simp⟩) hS53 ?_
      simp only [Act.put, List.setIfInBounds_toArray, List.set_cons_zero, List.set_cons_succ]
      refine held_one 12 rfl (by kernel_rfl) (by rfl) (fun K hK => ?_)
      refine wp_store_mid0 _ _ _ rfl Bx41 0 (vc (l ++ [x])).toArray rfl rfl (by have hh := hA54; rwa [← vc_size (l ++ [x])] at hh) (iVec' _) (vc_all _) rfl ?_
      have hS56' : Sf g off x w1 (w7.setCells Bx41 0 (vc (l ++ [x]))) := hS53.setCells (.inr hge44) _ _
      have hRhS56 : (w7.setCells Bx41 0 (vc (l ++ [x]))).rangeAt Bx41 0 (vc (l ++ [x])) := World.rangeAt_setCells_same _ _ _ _ (by have hh := hA54; rwa [← vc_len (l ++ [x])] at hh)
      have hkhS56 : But [Bx41] w7 (w7.setCells Bx41 0 (vc (l ++ [x]))) := (But.refl _ _).setCells (by simp) _ _
      generalize w7.setCells Bx41 0 (vc (l ++ [x])) = wz57 at *
      refine hK.out _ _ hS56' (fun hS56 => ?_)
      clear hK K
      skip
      refine held_take 13 (some 7) (.bool true) rfl rfl (by kernel_rfl) (by kernel_rfl) (by kernel_rfl) (fun _ _ _ h => h) (Or.inl ⟨by rfl, fun w' hw' => by go_simp⟩) hS56 ?_
      simp only [Act.put, List.setIfInBounds_toArray, List.set_cons_zero, List.set_cons_succ]
      refine wpAnyH_done (by kernel_rfl) ?_ _
      refine NoPanic.normal ?_
      have HS5 := hid hS56
      have HRB : Hid ((wz57).rangeAt Bx41 0 (vc (l ++ [x]))) := hRhS56
      have HBX : Hid (b + 1 < Bx41) := by show _ < _; have := hge44; omega
      have HTd : Hid ((wz57.drew).there (b + 1) 0 (vc (l ++ [x])).toArray.size) := by
        have h1 : (wz57).there (b + 1) 0 (vc []).toArray.size := there_keep HT1.out HS5.out.kp hbw (by simp; omega)
        have h2 := there_keep h1 (But.refl [] _).drew (Nat.lt_of_lt_of_le hbw HS5.out.size) (by simp)
        show World.there _ _ _ _
        rwa [vc_size, ← vc_size (l ++ [x])] at h2
      go_upto_region 5 with fail
      refine wp_region_noPanic ?_
      refine wp_region_held_drew (S := fun w' => But [b + 1] (wz57) w') (by kernel_rfl) (But.refl _ _).drew (fun hS0 => ?_)
      generalize (wz57).drew = wd at *
      refine held_take 0 (some 25) (.agg (vc (l ++ [x])).toArray) rfl rfl (by kernel_rfl) (by kernel_rfl) (by kernel_rfl) (fun _ _ _ h => h) (yieldsIf_load_mid (by rfl) _ _ rfl Bx41 0 rfl (vc (l ++ [x])) _ (fun w' h => range_keep HRB.out h (by have := HBX.out; simp; omega)) Try.underlying25 rfl (iVec _)) hS0 ?_
      simp only [Act.put, List.setIfInBounds_toArray, List.set_cons_zero, List.set_cons_succ]
      refine held_take 1 (some 26) (.slice (some ⟨g, off, none⟩) (n + 1) cap) rfl rfl (by kernel_rfl) (by kernel_rfl) (by kernel_rfl) (fun _ _ _ h => h) (Or.inl ⟨by rfl, fun w' hw' => by go_simp⟩) hS0 ?_
      simp only [Act.put, List.setIfInBounds_toArray, List.set_cons_zero, List.set_cons_succ]
      refine held_take 2 (some 27) (.pointer (some ⟨g, off, none⟩)) rfl rfl (by kernel_rfl) (by kernel_rfl) (by kernel_rfl) (fun _ _ _ h => h) (Or.inl ⟨by rfl, fun w' hw' => by go_simp⟩) hS0 ?_
      simp only [Act.put, List.setIfInBounds_toArray, List.set_cons_zero, List.set_cons_succ]
      refine held_take 3 (some 28) (.int .i64 x) rfl rfl (by kernel_rfl) (by kernel_rfl) (by kernel_rfl) (fun _ _ _ h => h) (Or.inl ⟨by rfl, fun w' hw' => by have hq0 := cell_keep HS5.out.cl hw' (by simp; omega); go_simp⟩) hS0 ?_
      simp only [Act.put, List.setIfInBounds_toArray, List.set_cons_zero, List.set_cons_succ]
      refine held_one 4 rfl (by kernel_rfl) (by rfl) (fun K hK => ?_)
      refine wp_store_mid0 _ _ _ rfl (b + 1) 0 (vc (l ++ [x])).toArray rfl rfl HTd.out (iVec' _) (vc_all _) rfl ?_
      have hS1' : But [b + 1] (wz57) (wd.setCells (b + 1) 0 (vc (l ++ [x]))) := hS0.setCells (.inl (by simp)) _ _
      refine hK.out _ _ hS1' (fun hS1 => ?_)
      clear hK K
      skip
      refine held_take 5 (some 3) (.int .i64 x) rfl rfl (by kernel_rfl) (by kernel_rfl) (by kernel_rfl) (fun _ _ _ h => h) (Or.inl ⟨by rfl, fun w' hw' => by go_simp⟩) hS1 ?_
      simp only [Act.put, List.setIfInBounds_toArray, List.set_cons_zero, List.set_cons_succ]
      refine held_take 6 (some 4) (.bool true) rfl rfl (by kernel_rfl) (by kernel_rfl) (by kernel_rfl) (fun _ _ _ h => h) (Or.inl ⟨by rfl, fun w' hw' => by go_simp⟩) hS1 ?_
      simp only [Act.put, List.setIfInBounds_toArray, List.set_cons_zero, List.set_cons_succ]
      refine wpAnyH_done (by kernel_rfl) ?_ _
      refine NoPanic.normal ?_
      go_wp2_with fail
      refine bodyPost_ret (results_range3 rfl _ _ (b + 1) 0 (vc (l ++ [x])) _ rfl (World.rangeAt_setCells_same _ _ _ _ (by have := HTd.out; rw [vc_len]; rwa [vc_size] at this)) Try.underlying25 rfl (iVec _)) rfl ?_
      exact ⟨rfl, but_own (but_own (HB0.out.trans K1.out) HS5.out.kp (fun i hi => by simp at hi; have := HBW.out; omega)) hS1 (fun i hi => by simp at hi; have := HBW.out; omega)⟩
end Go.Proofs.Yteenclhmdnnniaa.Vt
