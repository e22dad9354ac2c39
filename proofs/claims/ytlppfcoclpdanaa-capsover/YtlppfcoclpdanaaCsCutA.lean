/-
  Layer 12 (caps): the contract of Cut, over the translated program.
-/
import Derived.Test.YtlppfcoclpdanaaCsCut
namespace Go.Proofs.Ytlppfcoclpdanaa.Cs
open Go.ChangeShapes Go.WideShapes Go.ChangeAt Go.RowKit
open Wh Sn
set_option linter.unusedVariables false
set_option maxRecDepth 20000

/-- One number, that lies in a box of its own, behind an own row. -/
theorem que_one {w : World} {base n g : Nat} {a : Nat} {v : Value} {xs : List Nat} (h : Que w base 1 v n (ic xs)) (hc : w.cell? ⟨g, 0, none⟩ = some (.int .i64 (a : Nat))) (hn : n ≤ 100000) (hb : base ≤ w.heap.size) :
    ∃ A' c' w', (Builtin.append_ #[82, 82] 82 #[v, .slice (some ⟨g, 0, none⟩) 1 1]).run Try.prog w = .ok (.slice A' (n + 1) c') w' ∧ Que w' base 1 (.slice A' (n + 1) c') (n + 1) (ic (xs ++ [a])) ∧ But v.ownBlock.toList w w' := by
  obtain ⟨i0, hi, hz0, hz1, hz2⟩ := info_parts Cs.Try.infoInt
  have hs : Src Try.prog 1 82 (.slice (some ⟨g, 0, none⟩) 1 1) 1 (ic [a]) w := by
    refine Src.ofSlice w Try.underlying82 ⟨g, 0, none⟩ 1 1 (ic [a]) rfl (fun j u hu => ?_) (ic_one _)
    match j, hu with
    | 0, hu =>
      obtain rfl := Option.some.inj hu
      rw [Addr.add_mid]
      exact hc
    | j + 1, hu => simp [ic] at hu
  obtain ⟨v', w', hr, hq, hk', ho⟩ := run_append_que (P := Try.prog) w base 82 82 3 i0 _ 1 8 Try.underlying82 hi hz0 hz1 hz2 rfl (by decide) v n _ h (.slice (some ⟨g, 0, none⟩) 1 1) 1 (ic [a]) hs (by unfold maxLen; omega) (by omega) hb
  obtain ⟨A', c', rfl, _⟩ := hq.form
  exact ⟨A', c', w', hr, by rw [ic_app]; exact hq, hk'⟩
/-- The operation append, where its run is known. -/
theorem wp_append_known {P : Program} (w : World) {o : Oper} {a : Act} {K : Act → World → Prop} {Q : Exit → Act → World → Prop} (d s : Operand) (t : TypeId)
    (ho : o.op = .call { callee := .builtin .append, args := #[d, s], argTypes := #[t, t] }) (v u : Value) (hd : a.eval d = v) (hs : a.eval s = u) {v' : Value} {w' : World}
    (hr : (Builtin.append_ #[t, t] o.type #[v, u]).run P w = .ok v' w') (dst : Option Tmp) (hdst : o.dst = dst) (h : K (a.put dst v') w') : Oper.wp P o a w K Q := by
  subst hdst
  unfold Oper.wp execOp
  simp only [ho, resolve, invoke, builtin, Sem.run_bind, Sem.run_pure, Result.andThen_ok, List.map_toArray, List.map_cons, List.map_nil, hd, hs, hr]
  exact h
/-- Cut, as far as these places. -/
def cutL (T : Tr) (s : Nat → Bool) (l : List Nat) : Tr := fun i => if (decide (i ∈ l) && meets (T i).st s) = true then cutN i (T i) s else T i
theorem cutL_nil (T : Tr) (s : Nat → Bool) : cutL T s [] = T := funext fun i => by simp [cutL]
theorem cutL_out {T : Tr} {s : Nat → Bool} {l : List Nat} {p : Nat} (h : p ∉ l) : cutL T s l p = T p := by simp [cutL, h]
theorem cutL_no {T : Tr} {s : Nat → Bool} {l : List Nat} {p : Nat} (hm : meets (T p).st s = false) : cutL T s (l ++ [p]) = cutL T s l := funext fun i => by
  unfold cutL
  by_cases e : i = p
  · subst e; rw [hm, Bool.and_false, Bool.and_false]
  · simp [e]
theorem cutL_yes {T : Tr} {s : Nat → Bool} {l : List Nat} {p : Nat} (hm : meets (T p).st s = true) : cutL T s (l ++ [p]) = updN (cutL T s l) p (cutN p (T p) s) := funext fun i => by
  by_cases e : i = p
  · subst e
    rw [updN_same]
    unfold cutL
    rw [hm, if_pos (by simp)]
  · rw [updN_other _ _ e]
    unfold cutL
    simp [e]
theorem cutL_all {T : Tr} {a : Nat} {s : Nat → Bool} {l : List Nat} (h : ∀ x, x ∈ l ↔ inB T a x = true) : cutL T s l = ctT T a s := funext fun i => by
  unfold cutL ctT
  have : decide (i ∈ l) = inB T a i := by
    cases hb : inB T a i with
    | true => exact decide_eq_true ((h i).2 hb)
    | false => exact decide_eq_false (fun hm => by rw [(h i).1 hm] at hb; cases hb)
  rw [this]
theorem cut_count {T : Tr} {m : Nat} (hW : Wf T m) {a : Nat} (ha : a < 64) {s : Nat → Bool} {l : List Nat} (hn : l.Nodup) (h : ∀ x, x ∈ l ↔ inB T a x = true) : (l.filter fun i => meets (T i).st s).length = ctC T a s := by
  refine nodup_eq (List.Pairwise.filter _ hn) (nums_nodup _ _) (fun x => ?_)
  rw [List.mem_filter, nums_mem, h x]
  simp only [Bool.and_eq_true]
  refine ⟨fun h1 => ⟨?_, h1⟩, fun h1 => h1.2⟩
  have h2 := h1.1
  unfold inB at h2
  simp at h2
  rcases h2 with rfl | h2
  · exact ha
  · exact (und_lt hW h2).2.2.2.2
theorem with_self {T : Tr} {m : Nat} (hW : Wf T m) {a : Nat} {L : List Nat} (hn : L.Nodup) (h : ∀ x, x ∈ L ↔ und T a x = true) : (L ++ [a]).Nodup ∧ ∀ x, x ∈ L ++ [a] ↔ inB T a x = true := by
  refine ⟨List.nodup_append.2 ⟨hn, by simp, fun x hx y hy e => ?_⟩, fun x => ?_⟩
  · simp at hy
    subst hy; subst e
    exact (und_lt hW ((h x).1 hx)).2.2.2.1 rfl
  · rw [List.mem_append, h x]
    unfold inB
    simp
    exact ⟨fun h => h.symm, fun h => h.symm⟩
theorem filter_snoc (P : Nat → Bool) (l : List Nat) (p : Nat) : ((l ++ [p]).filter P).length = (l.filter P).length + (if P p = true then 1 else 0) := by
  rw [List.filter_append, List.length_append]
  cases h : P p <;> simp [h]
/-- What Cut tells. -/
def CutV (T : Tr) (at_ : Int) (g : Nat) (s : Nat → Bool) : Value := if isB T at_ g = true then .tuple #[.int .i64 (ctC T at_.toNat s : Nat), .int .i64 0] else .tuple #[.int .i64 0, .int .i64 3]
def CutT (T : Tr) (at_ : Int) (g : Nat) (s : Nat → Bool) : Tr := if isB T at_ g = true then ctT T at_.toNat s else T
set_option maxHeartbeats 4000000 in
theorem Cut_c (b m : Nat) (Z : List Nat) (T : Tr) (f : Nat → Value) (at_ : Int) (g : Nat) (A : Option Addr) (n c lo : Nat) (s : Nat → Bool) (w : World) (h : TrAt w b Z T m f) (hW : Wf T m) (hs : SetAt w lo A n s) (ho : Off Z A n) :
    Calls Try.prog 22 #[.pointer (some ⟨b, 0, none⟩), .agg #[.int .i64 at_, .int .u64 g], .agg #[.slice A n c]] w fun e w' =>
      e = .returned (CutV T at_ g s) ∧ TrA w' b Z (CutT T at_ g s) m ∧ But [b] w w' := by
  obtain ⟨B, hB⟩ : ∃ B, B = w.heap.size := ⟨_, rfl⟩
  obtain ⟨r1, r2, r3, r4, r5⟩ := two_box w [.int .i64 at_, .int .u64 g] [.slice A n c] 26 31
  obtain ⟨w0, hw0⟩ : ∃ w0, w0 = (w.alloc (.cells #[.int .i64 at_, .int .u64 g] 26)).alloc (.cells #[.slice A n c] 31) := ⟨_, rfl⟩
  rw [← hw0, ← hB] at r1 r2 r3 r4
  rw [← hw0] at r5
  have HC1 : Hid (w0.cell? ⟨B, 0, none⟩ = some (.int .i64 at_)) := range_cells r1 0 _ rfl
  have HC2 : Hid (w0.cell? ⟨B, 1, none⟩ = some (.int .u64 g)) := range_cells r1 1 _ rfl
  have HC3 : Hid (w0.cell? ⟨B + 1, 0, none⟩ = some (.slice A n c)) := range_cells r2 0 _ rfl
  have HK0 := hid r5
  have HBW := hid hB
  have HW := hid hW
  have H := hid h
  have H0 := hid (h.keep0 r5)
  have HS := hid hs
  have hb1 : b ≠ B := by have := h.low b h.mem; omega
  have hb2 : b ≠ B + 1 := by have := h.low b h.mem; omega
  have hbw : b < w.heap.size := h.low b h.mem
  have HBB := hid hbw
  have HOF : Hid (∀ g off, A = some ⟨g, off, none⟩ → n ≠ 0 → g ∉ [b]) := fun g off e h0 hm => ho g off e h0 (by simp at hm; rw [hm]; exact h.mem)
  clear h r1 r2 r3 r4 r5 hW hs hbw ho
  go_enter Try.func22, Try.ntmps22
  go_upto_region 1 with fail
  rw [← hw0, ← hB]
  clear hw0 hB
  have hc1 := HC1.out
  have hc2 := HC2.out
  go_wp2_with fail
  clear hc1 hc2
  refine (there_c b m Z T f at_ g w0 H0.out).mono ?_
  rintro e w1 ⟨rfl, k1⟩
  have HK1 := hid (HK0.out.trans k1)
  have HC11 := hid (cell_keep HC1.out k1 (by simp))
  have HC13 := hid (cell_keep HC3.out k1 (by simp))
  have H1 := hid (H0.out.keep0 k1)
  clear k1
  by_cases hi : isB T at_ g = true
  · obtain ⟨a, rfl, ha, hg0, hga⟩ := isB_iff.1 hi
    have HV : Hid (CutV T a g s = .tuple #[.int .i64 (ctC T a s : Nat), .int .i64 0]) := if_pos hi
    have HT : Hid (CutT T a g s = ctT T a s) := if_pos hi
    rw [hi]
    have haI : (a : Int) < 64 := by omega
    have haI0 : (0 : Int) ≤ (a : Int) := by omega
    clear hi hga
    go_upto_region 4 with fail
    go_cut [22, 23, 24] (fun s22 s23 s24 wx => ∃ (n5 c5 : Nat) (A5 : Option Addr) (L : List Nat), s22 = .slice A5 n5 c5 ∧ s23 = .int .i64 n5 ∧ s24 = .int .i64 0 ∧ Hid (Que wx w.heap.size 1 (.slice A5 n5 c5) n5 (ic L)) ∧ Hid (But [] w1 wx) ∧ Hid (L.Nodup ∧ ∀ x, x ∈ L ↔ inB T a x = true))
    case first =>
      refine wp_region_noPanic ?_
      refine wp_region_held_drew (S := fun w' => But [] w1 w') (by kernel_rfl) (But.refl _ _).drew (fun hS0 => ?_)
      generalize w1.drew = wd at *
      refine held_take 0 (some 15) (.pointer (some ⟨b, 0, none⟩)) rfl rfl (by kernel_rfl) (by kernel_rfl) (by kernel_rfl) (fun _ _ _ h => h) (Or.inl ⟨by rfl, fun w' hw' => by go_simp⟩) hS0 ?_
      simp only [Act.put, List.setIfInBounds_toArray, List.set_cons_zero, List.set_cons_succ]
      refine held_take 1 (some 16) (.pointer (some ⟨B, 0, none⟩)) rfl rfl (by kernel_rfl) (by kernel_rfl) (by kernel_rfl) (fun _ _ _ h => h) (Or.inl ⟨by rfl, fun w' hw' => by go_simp⟩) hS0 ?_
      simp only [Act.put, List.setIfInBounds_toArray, List.set_cons_zero, List.set_cons_succ]
      refine held_take 2 (some 17) (.int .i64 a) rfl rfl (by kernel_rfl) (by kernel_rfl) (by kernel_rfl) (fun _ _ _ h => h) (Or.inl ⟨by rfl, fun w' hw' => by have hq0 := cell_keep HC11.out hw' (by simp); go_simp⟩) hS0 ?_
      simp only [Act.put, List.setIfInBounds_toArray, List.set_cons_zero, List.set_cons_succ]
      refine held_take 4 (some 19) (.pointer (some ⟨B, 0, none⟩)) rfl rfl (by kernel_rfl) (by kernel_rfl) (by kernel_rfl) (fun _ _ _ h => h) (Or.inl ⟨by rfl, fun w' hw' => by go_simp⟩) hS0 ?_
      simp only [Act.put, List.setIfInBounds_toArray, List.set_cons_zero, List.set_cons_succ]
      refine held_take 5 (some 20) (.int .i64 a) rfl rfl (by kernel_rfl) (by kernel_rfl) (by kernel_rfl) (fun _ _ _ h => h) (Or.inl ⟨by rfl, fun w' hw' => by have hq0 := cell_keep HC11.out hw' (by simp); go_simp⟩) hS0 ?_
      simp only [Act.put, List.setIfInBounds_toArray, List.set_cons_zero, List.set_cons_succ]
      refine held_take 9 (some 24) (.int .i64 0) rfl rfl (by kernel_rfl) (by kernel_rfl) (by kernel_rfl) (fun _ _ _ h => h) (Or.inl ⟨by rfl, fun w' hw' => by go_simp⟩) hS0 ?_
      simp only [Act.put, List.setIfInBounds_toArray, List.set_cons_zero, List.set_cons_succ]
      refine held_two 3 6 rfl rfl (by kernel_rfl) (by rfl) (by rfl) (fun K hK => ?_) (fun K hK => ?_)
      · skip
        go_simp
        refine (under_c b m Z T f a _ (H1.out.keep0 hS0) HW.out).mono ?_
        rintro e w2 ⟨L, A3, n3, c3, rfl, hq2, k2, hnd, hmem⟩
        go_wp2_with fail
        have hS1' : But [] w1 w2 := hS0.trans k2
        have hqK := que_lower hq2 hS0.size
        refine hK.out _ _ hS1' (fun hS1 => ?_)
        clear hK K
        try simp only [Act.put, List.setIfInBounds_toArray, List.set_cons_zero, List.set_cons_succ]
        refine held_one 6 rfl (by kernel_rfl) (by rfl) (fun K hK => ?_)
        go_simp
        obtain ⟨hA4, hlt5, hka8⟩ := made_box (w2) #[.int .i64 a] 3 1 rfl
        have hge6 : w1.heap.size ≤ (w2).heap.size := hS1.size
        have hS2' : But [] w1 (w2.alloc (.cells #[.int .i64 a] 3)) := hS1.alloc _
        have hqK := hqK.keep0 hka8
        have hcb : ((w2).alloc (.cells #[.int .i64 a] 3)).cell? ⟨(w2).heap.size, 0, none⟩ = some (.int .i64 (a : Nat)) := range_cells (new_range (w2) [.int .i64 (a : Nat)] 3) 0 _ rfl
        generalize w2.alloc (.cells #[.int .i64 a] 3) = wa7 at *
        generalize hBx : (w2).heap.size = Bx3 at *
        have HBxBx3 : Hid ((w2).heap.size = Bx3) := hBx
        clear hBx
        refine hK.out _ _ hS2' (fun hS2 => ?_)
        clear hK K
        try simp only [Act.put, List.setIfInBounds_toArray, List.set_cons_zero, List.set_cons_succ]
        refine held_one 7 rfl (by kernel_rfl) (by rfl) (fun K hK => ?_)
        have hn3 : n3 ≤ 64 := by have h1 := (que_at hqK).1; have h2 := nodup_64 hnd (fun x hx => (und_lt HW.out ((hmem x).1 hx)).2.2.2.2); omega
        have hcb' : wa7.cell? ⟨Bx3, 0, none⟩ = some (.int .i64 (a : Nat)) := hcb
        obtain ⟨A5, c5, w5, hr5, hq5, hk5⟩ := que_one hqK hcb' (by omega) hS2.size
        refine wp_append_known _ _ _ 82 rfl _ _ rfl rfl hr5 (some 22) rfl ?_
        have hqn := hqK.lt
        have hS9' : But [] w1 w5 := but_own hS2 hk5 (fun i hi => (hqn i hi).1)
        refine hK.out _ _ hS9' (fun hS9 => ?_)
        clear hK K
        try simp only [Act.put, List.setIfInBounds_toArray, List.set_cons_zero, List.set_cons_succ]
        refine held_take 8 (some 23) (.int .i64 (n3 + 1 : Nat)) rfl rfl (by kernel_rfl) (by kernel_rfl) (by kernel_rfl) (fun _ _ _ h => h) (Or.inl ⟨by rfl, fun w' hw' => by go_simp⟩) hS9 ?_
        simp only [Act.put, List.setIfInBounds_toArray, List.set_cons_zero, List.set_cons_succ]
        refine wpAnyH_done (by kernel_rfl) ?_ _
        refine NoPanic.normal ?_
        go_wp2_with fail
        go_meet
        exact ⟨n3 + 1, c5, A5, L ++ [a], rfl, rfl, rfl, que_lower hq5 HK1.out.size, hS9, with_self HW.out hnd hmem⟩
      · skip
        go_simp
        obtain ⟨hA12, hlt13, hka16⟩ := made_box (wd) #[.int .i64 a] 3 1 rfl
        have hge14 : w1.heap.size ≤ (wd).heap.size := hS0.size
        have hS10' : But [] w1 (wd.alloc (.cells #[.int .i64 a] 3)) := hS0.alloc _
        have hcb : ((wd).alloc (.cells #[.int .i64 a] 3)).cell? ⟨(wd).heap.size, 0, none⟩ = some (.int .i64 (a : Nat)) := range_cells (new_range (wd) [.int .i64 (a : Nat)] 3) 0 _ rfl
        generalize wd.alloc (.cells #[.int .i64 a] 3) = wa15 at *
        generalize hBx : (wd).heap.size = Bx11 at *
        have HBxBx11 : Hid ((wd).heap.size = Bx11) := hBx
        clear hBx
        refine hK.out _ _ hS10' (fun hS10 => ?_)
        clear hK K
        try simp only [Act.put, List.setIfInBounds_toArray, List.set_cons_zero, List.set_cons_succ]
        refine held_one 3 rfl (by kernel_rfl) (by rfl) (fun K hK => ?_)
        go_simp
        refine (under_c b m Z T f a _ (H1.out.keep0 hS10) HW.out).mono ?_
        rintro e w2 ⟨L, A3, n3, c3, rfl, hq2, k2, hnd, hmem⟩
        go_wp2_with fail
        have hS17' : But [] w1 w2 := hS10.trans k2
        have hA18 := there_keep hA12 k2 hlt13 (by simp)
        have hlt19 := Nat.lt_of_lt_of_le hlt13 k2.size
        have hqK := que_lower hq2 hS10.size
        have hcb := cell_keep hcb k2 (by simp)
        refine hK.out _ _ hS17' (fun hS17 => ?_)
        clear hK K
        try simp only [Act.put, List.setIfInBounds_toArray, List.set_cons_zero, List.set_cons_succ]
        refine held_one 7 rfl (by kernel_rfl) (by rfl) (fun K hK => ?_)
        have hn3 : n3 ≤ 64 := by have h1 := (que_at hqK).1; have h2 := nodup_64 hnd (fun x hx => (und_lt HW.out ((hmem x).1 hx)).2.2.2.2); omega
        have hcb' : w2.cell? ⟨Bx11, 0, none⟩ = some (.int .i64 (a : Nat)) := hcb
        obtain ⟨A5, c5, w5, hr5, hq5, hk5⟩ := que_one hqK hcb' (by omega) hS17.size
        refine wp_append_known _ _ _ 82 rfl _ _ rfl rfl hr5 (some 22) rfl ?_
        have hqn := hqK.lt
        have hS20' : But [] w1 w5 := but_own hS17 hk5 (fun i hi => (hqn i hi).1)
        refine hK.out _ _ hS20' (fun hS20 => ?_)
        clear hK K
        try simp only [Act.put, List.setIfInBounds_toArray, List.set_cons_zero, List.set_cons_succ]
        refine held_take 8 (some 23) (.int .i64 (n3 + 1 : Nat)) rfl rfl (by kernel_rfl) (by kernel_rfl) (by kernel_rfl) (fun _ _ _ h => h) (Or.inl ⟨by rfl, fun w' hw' => by go_simp⟩) hS20 ?_
        simp only [Act.put, List.setIfInBounds_toArray, List.set_cons_zero, List.set_cons_succ]
        refine wpAnyH_done (by kernel_rfl) ?_ _
        refine NoPanic.normal ?_
        go_wp2_with fail
        go_meet
        exact ⟨n3 + 1, c5, A5, L ++ [a], rfl, rfl, rfl, que_lower hq5 HK1.out.size, hS20, with_self HW.out hnd hmem⟩
    case rest =>
      obtain ⟨n5, c5, A5, L, rfl, rfl, rfl, HQ, HB5, HL⟩ := hcut
      obtain ⟨hn5, hat⟩ := que_at HQ.out
      have hL64 : ∀ x, x ∈ L → x < 64 := fun x hx => by
        have h2 := (HL.out.2 x).1 hx
        unfold inB at h2
        simp at h2
        rcases h2 with rfl | h2
        · exact ha
        · exact (und_lt HW.out h2).2.2.2.2
      have hn64 : n5 ≤ 64 := by have := nodup_64 HL.out.1 hL64; omega
      have HAT := hid hat
      have HLT : Hid (∀ j, j < n5 → L.getD j 0 < 64) := fun j hj => hL64 _ (getD_mem (by omega))
      have HN := hid hn5
      have HK5 := hid (HK1.out.trans HB5.out)
      have HC53 := hid (cell_keep HC13.out HB5.out (by simp))
      have H5 := hid (H1.out.keep0 HB5.out)
      have HSZ5 : Hid (w1.heap.size ≤ wc.heap.size) := HB5.out.size
      clear hn5 hat hL64
      go_wp2
      go_loopg [8, 24] (n5 + 1) (fun g0 hv i wx => ∃ (k u : Nat), k + g0 = n5 + 1 ∧ k ≤ n5 ∧ i = .int .i64 k ∧ hv = .int .i64 u ∧ u ≤ k ∧ Hid (u = ((L.take k).filter fun i => meets (T i).st s).length) ∧ Hid (TrA wx b Z (cutL T s (L.take k)) m) ∧ Hid (But [b] wc wx))
      case atStart => exact ⟨0, 0, by omega, by omega, rfl, rfl, by omega, rfl, by show TrA _ _ _ _ _; rw [List.take_zero, cutL_nil]; exact ⟨f, H5.out⟩, But.refl _ _⟩
      case round =>
        obtain ⟨k, u, hkg, hk, rfl, rfl, huk, HU, HR, HB⟩ := hrel
        by_cases hlt : k < n5
        · have hkI : (k : Int) < (n5 : Int) := by omega
          obtain ⟨ga, oa, rfl, hga0, hga, hca⟩ := HAT.out k hlt
          have hgb : ga ∉ [b] := by have := HBB.out; simp; omega
          have hca := cell_keep hca HB.out hgb
          have hp64 := HLT.out k hlt
          have hpn : L.getD k 0 ∉ L.take k := fun hm => by
            obtain ⟨j, hj, e⟩ := mem_getD hm
            rw [List.length_take] at hj
            have e2 : (L.take k).getD j 0 = L.getD j 0 := by
              rw [List.getD_eq_getElem?_getD, List.getD_eq_getElem?_getD, List.getElem?_take, if_pos (by omega)]
            have := getD_inj HL.out.1 (show j < L.length by omega) (show k < L.length by have := HN.out; omega) (by rw [← e2, e])
            omega
          have hts := take_snoc (l := L) (j := k) (by have := HN.out; omega)
          have HOUT := hid (cutL_out (T := T) (s := s) hpn)
          have HNO := hid (fun hm => cutL_no (T := T) (s := s) (l := L.take k) (p := L.getD k 0) hm)
          have HYES := hid (fun hm => cutL_yes (T := T) (s := s) (l := L.take k) (p := L.getD k 0) hm)
          have HFS := hid (filter_snoc (fun i => meets (T i).st s) (L.take k) (L.getD k 0))
          rw [← hts] at HNO HYES HFS
          generalize L.getD k 0 = p at hca hp64 HOUT HNO HYES HFS
          obtain ⟨fr, hfr⟩ := HR.out
          have HFR := hid hfr
          obtain ⟨-, -, A1, n1, c1, -, hcs, hs1, -⟩ := hfr.cells hp64
          rw [HOUT.out] at hs1
          have HX1 := hid hs1
          have hKr : But [b] w wr := but_more (HK5.out.any [b]) HB.out (by simp)
          have hc53 := cell_keep HC53.out HB.out (by simpa using Ne.symm hb2)
          have HSr := hid (HS.out.keep hKr (fun g off e h0 hm => HOF.out g off e h0 hm))
          have hm2 : b ∉ ([] : List Nat) := by simp
          have hS7 : Hid (wr.drew.cell? ⟨B + 1, 0, none⟩ = some (.slice A n c) ∧ wr.drew.cell? ⟨b, p * 3 + 2, none⟩ = some (.slice A1 n1 c1) ∧ But [] wr wr.drew) := ⟨hc53, hcs, (But.refl [] wr).drew⟩
          have hpI : (p : Int) < 64 := by omega
          clear hs1 hcs hc53 hKr hts hpn hga0 hga hfr HR
          go_upto_region 7 with fail
          go_region_held3 (fun w' => w'.cell? ⟨B + 1, 0, none⟩ = some (.slice A n c) ∧ w'.cell? ⟨b, p * 3 + 2, none⟩ = some (.slice A1 n1 c1) ∧ But [] wr w')
            (first | exact hS7.out | assumption | exact p_keep (by assumption) (by assumption))
            (first
              | (go_at_call 46
                 refine (shared_c A1 A n1 n c1 c _ _ _ _ _ (HX1.out.keep0 (held3 (by assumption))) (HSr.out.keep0 (held3 (by assumption)))).mono ?_
                 rintro e w7 ⟨rfl, k7⟩))
          go_split_ands
          have hk7 : But [] wr w7 := by assumption
          have HK7 := hid hk7
          have hc57 : w7.cell? ⟨B + 1, 0, none⟩ = some (.slice A n c) := by assumption
          have HFR7 := hid (HFR.out.keep0 hk7)
          have HS7 := hid (HSr.out.keep0 hk7)
          have HB7 := hid (HB.out.trans (hk7.any [b]))
          clear hk7 k7 hS7
          by_cases hmt : nz (bo (T p).st s) = true
          · have HY := hid (HYES.out hmt)
            have HF2 : Hid (u + 1 = ((L.take (k + 1)).filter fun i => meets (T i).st s).length) := by
              have := HFS.out
              rw [show meets (T p).st s = true from hmt, ← HU.out] at this
              show _ = _
              simpa using this.symm
            rw [hmt]
            clear hmt
            go_wp2_with fail
            refine (cut_c b m Z _ fr p hp64 A n c _ s w7 HFR7.out HS7.out).mono ?_
            rintro e w8 ⟨rfl, ht8, k8⟩
            have HR8 : Hid (TrA w8 b Z (cutL T s (L.take (k + 1))) m) := by
              show TrA _ _ _ _ _
              rw [HY.out]
              rw [HOUT.out] at ht8
              exact ht8
            have HB8 := hid (HB7.out.trans k8)
            clear ht8 k8 hc57
            go_wp2
            go_roundg (n5 + 1 - (k + 1))
            case measure => omega
            case rel => exact ⟨k + 1, u + 1, by omega, by omega, by go_num, by go_num, by omega, HF2.out, HR8.out, HB8.out⟩
          · have hmt : nz (bo (T p).st s) = false := by simpa using hmt
            have HY := hid (HNO.out hmt)
            have HF2 : Hid (u = ((L.take (k + 1)).filter fun i => meets (T i).st s).length) := by
              have := HFS.out
              rw [show meets (T p).st s = false from hmt, ← HU.out] at this
              show _ = _
              simpa using this.symm
            have HR8 : Hid (TrA w7 b Z (cutL T s (L.take (k + 1))) m) := by
              show TrA _ _ _ _ _
              rw [HY.out]
              exact ⟨fr, HFR7.out⟩
            rw [hmt]
            clear hmt hc57
            go_wp2
            go_roundg (n5 + 1 - (k + 1))
            case measure => omega
            case rel => exact ⟨k + 1, u, by omega, by omega, by go_num, rfl, by omega, HF2.out, HR8.out, HB7.out⟩
        · obtain rfl : k = n5 := by omega
          have HE : Hid (ctC T a s = u) := by
            have := HU.out
            rw [List.take_of_length_le (by have := HN.out; omega)] at this
            show _ = _
            rw [this]
            exact (cut_count HW.out ha HL.out.1 HL.out.2).symm
          have HR9 : Hid (TrA wr b Z (ctT T a s) m) := by
            have := HR.out
            rw [List.take_of_length_le (by have := HN.out; omega), cutL_all HL.out.2] at this
            exact this
          clear HR HU
          go_wp2
          go_ret2
          exact ⟨by rw [HV.out, HE.out]; rfl, by rw [HT.out]; exact HR9.out, but_more (HK5.out.any [b]) HB.out (by simp)⟩
  · have hi : isB T at_ g = false := by simpa using hi
    have HV : Hid (CutV T at_ g s = .tuple #[.int .i64 0, .int .i64 3]) := if_neg (by rw [hi]; simp)
    have HT : Hid (CutT T at_ g s = T) := if_neg (by rw [hi]; simp)
    rw [hi]
    clear hi
    go_wp2
    go_ret2
    exact ⟨by rw [HV.out]; rfl, by rw [HT.out]; exact ⟨f, H1.out⟩, HK1.out.any _⟩
end Go.Proofs.Ytlppfcoclpdanaa.Cs
