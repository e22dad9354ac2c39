/-
  Layer 8 (disk): contracts of Read (which ranges backwards over what waits), over the translated program.
-/
import Derived.Test.YtnjnplepecmfaaaDkTwo
import Derived.Test.YtnjnplepecmfaaaMidIn
import Derived.RangeFuncBox
import Derived.RangeFuncNested
import Derived.RangeFuncLeaves
import Derived.Shelf.Abstract
import Derived.OwnWalkIn
import Derived.TacticsInMore
import Derived.LoopNIn
import Derived.LoopIn
namespace Go.Proofs.Ytnjnplepecmfaaa.Dk
open Go.RowKit Go.Shelf
set_option linter.unusedVariables false
set_option linter.unusedSimpArgs false
set_option maxRecDepth 20000

/-- What the range gives: a place, a write. -/
abbrev El := Int × Wr
def el (W : List Wr) (j : Nat) : El := (((W.length - 1 - j : Nat) : Int), W.getD (W.length - 1 - j) w0)
def up (W : List Wr) (k : Nat) : List El := (List.range k).map (el W)
theorem up_succ (W : List Wr) (k : Nat) : up W (k + 1) = up W k ++ [el W k] := by simp [up, List.range_succ]
theorem up_len (W : List Wr) (k : Nat) : (up W k).length = k := by simp [up]
/-- Of the last k writes none is of this block. -/
theorem up_none {W : List Wr} {k b : Nat} (hk : k ≤ W.length) (h : ∀ x ∈ up W k, x.2.1 ≠ b) : ∀ p ∈ W.drop (W.length - k), p.1 ≠ b := by
  intro p hp
  obtain ⟨j, hj, e⟩ := List.mem_iff_getElem.1 hp
  rw [List.getElem_drop] at e
  simp at hj
  have := h (el W (k - 1 - j)) (List.mem_map.2 ⟨k - 1 - j, by simp; omega, rfl⟩)
  unfold el at this
  rw [show W.length - 1 - (k - 1 - j) = W.length - k + j by omega] at this
  have h2 : W.getD (W.length - k + j) w0 = p := by rw [← e, List.getD_eq_getElem?_getD, List.getElem?_eq_getElem (by omega)]; rfl
  simp only [h2] at this
  exact this
/-- The last write of a block, found from behind, is what is read. -/
theorem up_last {L : Nat → Dat} {W : List Wr} {q b : Nat} (hq : q < W.length) (hn : ∀ y ∈ up W q, y.2.1 ≠ b) (hb : (el W q).2.1 = b) : setAll L W b = (el W q).2.2 := by
  have hd := up_none (W := W) (k := q) (b := b) (by omega) hn
  obtain ⟨i, hi⟩ : ∃ i, i = W.length - 1 - q := ⟨_, rfl⟩
  have hil : i < W.length := by omega
  unfold el at hb ⊢
  simp only [← hi] at hb ⊢
  have e : W = W.take i ++ W.getD i w0 :: W.drop (i + 1) := by
    conv => lhs; rw [← List.take_append_drop i W, List.drop_eq_getElem_cons hil]
    rw [List.getD_eq_getElem?_getD, List.getElem?_eq_getElem hil]
    rfl
  rw [show W.length - q = i + 1 by omega] at hd
  subst hb
  rw [e]
  generalize hp : W.getD i w0 = p at *
  have h2 : (W.take i ++ p :: W.drop (i + 1)).getD i w0 = p := by rw [← e]; exact hp
  rw [h2]
  exact setAll_last L _ _ p hd
theorem up_all {L : Nat → Dat} {W : List Wr} {b : Nat} (hn : ∀ y ∈ up W W.length, y.2.1 ≠ b) : setAll L W b = L b := by
  have hd := up_none (W := W) (k := W.length) (b := b) (Nat.le_refl _) hn
  rw [Nat.sub_self, List.drop_zero] at hd
  exact setAll_none b W L hd

def encE (x : El) : Array Value := #[.int .i64 x.1, .agg (wv x.2).toArray]
theorem backward_c (A : Option Addr) (m c : Nat) (w : World) : Calls Try.prog 28 #[.slice A m c] w fun e w' =>
    e = .returned (.func (.func 33) #[] #[.pointer (some ⟨w.heap.size, 0, none⟩)]) ∧ w' = w.alloc (.cells #[.slice A m c] 57) := by
  go_enter Try.func28, Try.ntmps28
  go_wp2
  go_ret
  exact ⟨rfl, rfl⟩
section
attribute [local go_sem] Oper.semAt_some
set_option maxHeartbeats 2000000 in
theorem back_in (n l Bs n0 : Nat) (hn : 1 ≤ n) (A : Option Addr) (c : Nat) (W : List Wr) (hW : W.length ≤ 1000) (hB : Bs < n0) (hA : ∀ g, A = some ⟨g, 0, none⟩ → g < n0) (J Jx : List El → World → Prop)
    (hY : ∀ pre x w1, J pre w1 → pre.length < W.length → YieldAt Fence.wide (n - 1) Try.prog l (encE x) w1 fun e w' => (e = .returned (.bool true) ∧ J (pre ++ [x]) w' ∧ Below n0 w1 w') ∨ (e = .returned (.bool false) ∧ Jx (pre ++ [x]) w'))
    (w : World) (hc : w.cell? ⟨Bs, 0, none⟩ = some (.slice A W.length c)) (hK : Ws w 0 A W) (h0 : J [] w) :
    CallsIn Fence.wide n Try.prog 33 #[.func (.yield l) #[] #[], .pointer (some ⟨Bs, 0, none⟩)] w fun e w' => (∃ v, e = .returned v) ∧
      ((∃ ys, ys = up W W.length ∧ J ys w') ∨ ∃ pre, (∃ q, q < W.length ∧ pre = up W (q + 1)) ∧ Jx pre w') := by
  obtain ⟨m, hm⟩ : ∃ m, m = W.length := ⟨_, rfl⟩
  rw [← hm] at hc hW hY ⊢
  have HM : Hid (m = W.length) := hm
  have HK : Hid (Ws w 0 A W) := hK
  have HY : Hid (∀ pre x w1, J pre w1 → pre.length < m → YieldAt Fence.wide (n - 1) Try.prog l (encE x) w1 fun e w' => (e = .returned (.bool true) ∧ J (pre ++ [x]) w' ∧ Below n0 w1 w') ∨ (e = .returned (.bool false) ∧ Jx (pre ++ [x]) w')) := hY
  have HA : Hid (∀ g, A = some ⟨g, 0, none⟩ → g < n0) := hA
  clear hm hK hY hA
  refine callsIn_of_wp Try.func33 rfl trivial ?_ rfl
  simp only [Try.ntmps33, List.size_toArray, List.length_cons, List.length_nil, Nat.reduceAdd, Nat.reduceSub, Array.replicate_succ, Array.replicate_zero, List.push_toArray, List.append_toArray, List.nil_append, List.cons_append]
  gi_wp2
  gi_loopw [3] (fun i wr => ∃ (i0 k : Nat), i0 + k = m ∧ i = .int .i64 ((i0 : Int) - 1) ∧ Hid (J (up W k) wr) ∧ Hid (Below n0 w wr)) (fun i _ => (intOf i + 1).toNat)
  case atStart => exact ⟨m, 0, by omega, by go_num, h0, Below.refl _ _⟩
  case round =>
    obtain ⟨i0, k, hik, rfl, HJ, HBw⟩ := hrel
    have hcb : wr.cell? ⟨Bs, 0, none⟩ = some (.slice A m c) := (HBw.out.cell (p := ⟨Bs, 0, none⟩) hB).trans hc
    rcases i0 with _ | i0
    · obtain rfl : k = m := by omega
      gi_wp2
      go_end0
      exact ⟨⟨_, rfl⟩, .inl ⟨_, rfl, HJ.out⟩⟩
    · rw [show ((i0 + 1 : Nat) : Int) - 1 = (i0 : Int) by omega]
      have hiK : i0 < W.length := by have := HM.out; omega
      obtain ⟨g, hAg, -, hgl, hrows⟩ := HK.out.at_ hiK
      have HR : Hid (wr.rangeAt g (i0 * 65) (wv (W.getD i0 w0))) := fun j v hv => (HBw.out.cell (p := ⟨g, i0 * 65 + j, none⟩) (HA.out g hAg)).trans (hrows i0 hiK j v hv)
      have HE : Hid (el W k = ((i0 : Int), W.getD i0 w0)) := by
        show el W k = _
        unfold el
        rw [show W.length - 1 - k = i0 by have := HM.out; omega]
      subst hAg
      obtain ⟨fn, tmps, assign, body, hy, hR⟩ := HY.out _ (el W k) wr HJ.out (by rw [up_len]; omega)
      have hy' : (Instr.yield l #[.int .i64 (i0 : Int), .agg (wv (W.getD i0 w0)).toArray]).run Try.prog wr = .ok (.round l fn tmps assign body) wr := by
        have := hy
        rw [HE.out] at this
        exact this
      clear hy hrows
      generalize W.getD i0 w0 = p at *
      gi_wp2_with (refine wpListIn_load_mid rfl 71 _ rfl g (i0 * 65) rfl (wv p) _ HR.out Try.underlying71 rfl (iWrite _) ?_)
      refine hR.mono ?_
      rintro e W3 (⟨rfl, hj3, hk3⟩ | ⟨rfl, hx3⟩)
      · gi_wp2
        go_roundw
        case rel => exact ⟨i0, k + 1, by omega, by go_num, by show J _ _; rw [up_succ]; exact hj3, HBw.out.trans hk3⟩
        case measure => simp [intOf]
      · gi_wp2
        refine bodyPost_ret (results_none rfl _ _ _) rfl ?_
        exact ⟨⟨_, rfl⟩, .inr ⟨_, ⟨k, by omega, (up_succ W k).symm⟩, hx3⟩⟩
end

theorem hidI {p : Prop} (h : p) : Hid p := h
/-- The three boxes of Read: the number, the data, the mark. -/
theorem three_boxes (w : World) (u : Value) (t t' t'' : TypeId) (z : Array Value) (u' : Value) : ∃ w1, ((w.alloc (.cells #[u] t)).alloc (.cells z t')).alloc (.cells #[u'] t'') = w1 ∧ w1.heap.size = w.heap.size + 3 ∧
    w1.cell? ⟨w.heap.size, 0, none⟩ = some u ∧ w1.there (w.heap.size + 1) 0 z.size ∧ w1.cell? ⟨w.heap.size + 2, 0, none⟩ = some u' ∧ w1.frozen? ⟨w.heap.size + 2, 0, none⟩ = false ∧ But [] w w1 := by
  refine ⟨_, rfl, by simp, ?_, ?_, ?_, ?_, (((But.refl [] w).alloc _).alloc _).alloc _⟩
  · exact cell_keep (l := []) (cell_one_new w u t 0 _ rfl) (((But.refl [] _).alloc _).alloc _) (by simp)
  · have h := there_new (w.alloc (.cells #[u] t)) z t' z.size rfl
    rw [show (w.alloc (.cells #[u] t)).heap.size = w.heap.size + 1 by simp] at h
    exact fun j hj => ⟨by rw [((But.refl [] _).alloc _).cell (p := ⟨w.heap.size + 1, 0 + j, none⟩) (by show _ < _; simp) (by simp)]; exact (h j hj).1, by rw [((But.refl [] _).alloc _).frozen (p := ⟨w.heap.size + 1, 0 + j, none⟩) (by show _ < _; simp) (by simp)]; exact (h j hj).2⟩
  · have h := cell_one_new ((w.alloc (.cells #[u] t)).alloc (.cells z t')) u' t'' 0 _ rfl
    rwa [show ((w.alloc (.cells #[u] t)).alloc (.cells z t')).heap.size = w.heap.size + 2 by simp] at h
  · have h := frozen_of_row _ _ 0 #[u'] t'' (heap_alloc_last ((w.alloc (.cells #[u] t)).alloc (.cells z t')) _)
    rwa [show ((w.alloc (.cells #[u] t)).alloc (.cells z t')).heap.size = w.heap.size + 2 by simp] at h
theorem results_read {P : Program} {fn : Func} {p q : Tmp} {ty tb : TypeId} (h : fn.results = #[.cell p ty, .cell q tb]) (tmps : Array Value) (w : World) (b c : Nat) (cs : List Value) (d : TypeDesc) (v : Bool)
    (hp : tmps.getD p undef = .pointer (some ⟨b, 0, none⟩)) (hc : w.rangeAt b 0 cs) (hu : P.underlying ty = some d) (hd : d.isRow = true) (hi : (P.info? ty).map (·.size) = some cs.length)
    (hq : tmps.getD q undef = .pointer (some ⟨c, 0, none⟩)) (hv : w.cell? ⟨c, 0, none⟩ = some (.bool v)) (hl : (loadVar tb ⟨c, 0, none⟩).run P w = .ok (.bool v) w) :
    (results fn tmps).run P w = .ok (.tuple #[.agg cs.toArray, .bool v]) w := by
  have hp' : tmps[p]?.getD undef = .pointer (some ⟨b, 0, none⟩) := by simpa using hp
  have hq' : tmps[q]?.getD undef = .pointer (some ⟨c, 0, none⟩) := by simpa using hq
  simp [results, h, hp', hq', asAddr, run_loadVar_mid w b 0 ty cs d hc hu hd hi, hl]
theorem load_bool (c : Nat) (v : Bool) (w : World) (h : w.cell? ⟨c, 0, none⟩ = some (.bool v)) : (loadVar 4 ⟨c, 0, none⟩).run Try.prog w = .ok (.bool v) w := by
  go_simp
theorem dv_size (x : Dat) : (dv x).toArray.size = 64 := by simp [dv_len]
/-- The two results are laid. -/
theorem read_laid {w1 : World} {g : Nat} {x : Dat} {bv : Bool} {u : Value} (ht : w1.there (g + 1) 0 64) (hc : w1.cell? ⟨g + 2, 0, none⟩ = some u) :
    ((w1.setCells (g + 1) 0 (dv x)).setCell ⟨g + 1 + 1, 0, none⟩ (.bool bv)).rangeAt (g + 1) 0 (dv x) ∧ ((w1.setCells (g + 1) 0 (dv x)).setCell ⟨g + 1 + 1, 0, none⟩ (.bool bv)).cell? ⟨g + 1 + 1, 0, none⟩ = some (.bool bv) ∧ But [g + 1, g + 2] w1 ((w1.setCells (g + 1) 0 (dv x)).setCell ⟨g + 1 + 1, 0, none⟩ (.bool bv)) := by
  have hr := World.rangeAt_setCells_same w1 (g + 1) 0 (dv x) (by rw [dv_len]; exact ht)
  have hc' : (w1.setCells (g + 1) 0 (dv x)).cell? ⟨g + 1 + 1, 0, none⟩ = some u := cell_keep (l := [g + 1]) hc ((But.refl _ _).setCells (by simp) _ _) (by simp)
  refine ⟨range_keep (l := [g + 2]) hr ((But.refl _ _).setCell (by simp) _) (by simp), World.cell?_setCell_same _ _ _ hc', ((But.refl _ w1).setCells (by simp) _ _).setCell (by simp) _⟩
theorem but_new {w w1 w2 : World} {l : List Nat} (h : But [] w w1) (k : But l w1 w2) (hl : ∀ i ∈ l, w.heap.size ≤ i) : But [] w w2 :=
  ((h.wider (l' := l) (by simp)).trans k).strike (fun i hi hlt => by have := hl i hi; omega)
theorem read_fin {w w1 : World} {x : Dat} {bv : Bool} {u : Value} {tmps : Array Value} (ht : w1.there (w.heap.size + 1) 0 (dv d0).toArray.size) (hc : w1.cell? ⟨w.heap.size + 2, 0, none⟩ = some u) (hB : But [] w w1)
    (h4 : tmps.getD 4 undef = .pointer (some ⟨w.heap.size + 1, 0, none⟩)) (h5 : tmps.getD 5 undef = .pointer (some ⟨w.heap.size + 1 + 1, 0, none⟩)) :
    LeavesInM Fence.wide 3 Try.prog Try.f12 tmps (fun e w' => e = .returned (.tuple #[.agg (dv x).toArray, .bool bv]) ∧ But [] w w') [] .returning ((w1.setCells (w.heap.size + 1) 0 (dv x)).setCell ⟨w.heap.size + 1 + 1, 0, none⟩ (.bool bv)) := by
  obtain ⟨v1, v2, k1⟩ := read_laid (x := x) (bv := bv) (by rw [dv_size] at ht; exact ht) hc
  exact ⟨_, results_read rfl _ _ (w.heap.size + 1) (w.heap.size + 1 + 1) (dv x) _ bv h4 v1 Try.underlying34 rfl (iData x) h5 v2 (load_bool _ _ _ v2), rfl, but_new hB k1 (by simp)⟩
section
variable {lo b bl cl n : Nat} {v : Value} {L : Nat → Dat} {W : List Wr} {w : World}
attribute [local go_sem] Oper.semAt_some
set_option maxHeartbeats 2000000 in
theorem read_nil (k : Int) (w : World) : Calls Try.prog 12 #[.pointer none, .int .i64 k] w fun e w' => e = .returned (.tuple #[.agg (dv d0).toArray, .bool false]) ∧ But [] w w' := by
  have hz := zData
  refine (callsIn_wide (n := 3)).1 ?_
  refine callsIn_of_wp_marks Try.func12 rfl trivial ?_ rfl
  simp only [Try.ntmps12, List.size_toArray, List.length_cons, List.length_nil, Nat.reduceAdd, Nat.reduceSub, Array.replicate_succ, Array.replicate_zero, List.push_toArray, List.append_toArray, List.nil_append, List.cons_append]
  gi_wp2_with (refine ⟨trivial, ?_⟩; gi_at_call 27; refine (callsIn_wide.2 (has_nil k _)).mono ?_; rintro e w' ⟨rfl, rfl⟩; refine Hid.out ?_)
  obtain ⟨w1, hw1, hs1, c0, t1, c2, f2, hB⟩ := three_boxes w (.int .i64 k) 3 34 4 (dv d0).toArray (.bool false)
  rw [hw1]
  have HT1 : Hid (w1.there (w.heap.size + 1) 0 (dv d0).toArray.size) := t1
  have HB : Hid (But [] w w1) := hB
  have hc3 : (w1.setCells (w.heap.size + 1) 0 (dv d0)).cell? ⟨w.heap.size + 2, 0, none⟩ = some (.bool false) := cell_keep (l := [w.heap.size + 1]) c2 ((But.refl _ _).setCells (by simp) _ _) (by simp)
  have hf3 : (w1.setCells (w.heap.size + 1) 0 (dv d0)).frozen? ⟨w.heap.size + 2, 0, none⟩ = false := by rw [World.frozen?_setCells]; exact f2
  clear hw1 t1 hB
  refine hidI ?_
  gi_wp2_with (refine wpListIn_store_mid rfl 34 _ _ rfl (w.heap.size + 1) 0 (dv d0).toArray rfl rfl ?ht (iData' _) (dv_all _) ?_; case ht => exact HT1.out)
  exact read_fin HT1.out c2 HB.out rfl rfl
set_option maxHeartbeats 2000000 in
theorem read_no (k : Int) (h : DkAt tP w lo b bl cl n v L W) (hk : inB n k = false) : Calls Try.prog 12 #[.pointer (some ⟨b, 0, none⟩), .int .i64 k] w fun e w' => e = .returned (.tuple #[.agg (dv d0).toArray, .bool false]) ∧ But [] w w' := by
  have hz := zData
  have H : Hid (DkAt tP w lo b bl cl n v L W) := h
  have HK : Hid (inB n k = false) := hk
  clear h hk
  refine (callsIn_wide (n := 3)).1 ?_
  refine callsIn_of_wp_marks Try.func12 rfl trivial ?_ rfl
  simp only [Try.ntmps12, List.size_toArray, List.length_cons, List.length_nil, Nat.reduceAdd, Nat.reduceSub, Array.replicate_succ, Array.replicate_zero, List.push_toArray, List.append_toArray, List.nil_append, List.cons_append]
  gi_wp2_with (refine ⟨trivial, ?_⟩; gi_at_call 27; refine (callsIn_wide.2 (has_c k (H.out.keep0 ((((But.refl [] w).alloc _).alloc _).alloc _)))).mono ?_; rintro e w' ⟨rfl, rfl⟩; refine Hid.out ?_)
  rw [HK.out]
  obtain ⟨w1, hw1, hs1, c0, t1, c2, f2, hB⟩ := three_boxes w (.int .i64 k) 3 34 4 (dv d0).toArray (.bool false)
  rw [hw1]
  have HT1 : Hid (w1.there (w.heap.size + 1) 0 (dv d0).toArray.size) := t1
  have HB : Hid (But [] w w1) := hB
  have hc3 : (w1.setCells (w.heap.size + 1) 0 (dv d0)).cell? ⟨w.heap.size + 2, 0, none⟩ = some (.bool false) := cell_keep (l := [w.heap.size + 1]) c2 ((But.refl _ _).setCells (by simp) _ _) (by simp)
  have hf3 : (w1.setCells (w.heap.size + 1) 0 (dv d0)).frozen? ⟨w.heap.size + 2, 0, none⟩ = false := by rw [World.frozen?_setCells]; exact f2
  clear hw1 t1 hB
  refine hidI ?_
  gi_wp2_with (refine wpListIn_store_mid rfl 34 _ _ rfl (w.heap.size + 1) 0 (dv d0).toArray rfl rfl ?ht (iData' _) (dv_all _) ?_; case ht => exact HT1.out)
  exact read_fin HT1.out c2 HB.out rfl rfl
/-- In the midst of the range: none of these writes is of the block. -/
def InR (k : Nat) (wB : World) (pre : List El) (W' : World) : Prop := (∀ x ∈ pre, x.2.1 ≠ k) ∧ Below wB.heap.size wB W'
theorem InR.own (k : Nat) (wB : World) : OwnFrom wB.heap.size (InR k wB) := fun pre X Y row hs hg hr => ⟨hs.1, hs.2.grown hg hs.2.size (fun r e => (hr r e).1)⟩
/-- The range was left: at which write. -/
structure OutR (k g : Nat) (w wB : World) (c : Code) (pre : List El) (W' : World) : Prop where
  code : c = .ret
  st : ∃ p0 x, pre = p0 ++ [x] ∧ (∀ y ∈ p0, y.2.1 ≠ k) ∧ x.2.1 = k ∧ W'.rangeAt (g + 1) 0 (dv x.2.2)
  mark : W'.cell? ⟨g + 1 + 1, 0, none⟩ = some (.bool true)
  bel : Below g w W'
theorem OutR.own (k g : Nat) (w wB : World) (hB : g + 3 ≤ wB.heap.size) (hg0 : g = w.heap.size) (c : Code) : OwnFrom wB.heap.size (OutR k g w wB c) := fun pre X Y row hs hg hr => by
  have hb : ∀ i, i < g + 3 → i < X.heap.size → Y.heap[i]? = X.heap[i]? := fun i hi hx => hg.block i hx (fun e => by have := (hr i e.symm).1; omega)
  obtain ⟨p0, x, h1, h2, h3, h4⟩ := hs.st
  exact ⟨hs.code, ⟨p0, x, h1, h2, h3, fun j v hv => (World.cell?_of_block (w := X) (hb (g + 1) (by omega) (lt_of_cell (h4 j v hv)))).trans (h4 j v hv)⟩,
    (World.cell?_of_block (w := X) (hb (g + 1 + 1) (by omega) (lt_of_cell hs.mark))).trans hs.mark, hs.bel.grown hg (by have := hs.bel.size; omega) (fun r e => by have := (hr r e).1; omega)⟩
/-- The frame of a round, its write laid into a box. -/
def AxR (f : Nat → El → Act) (wB : World) (x : El) (a' : Act) (W' : World) : Prop := ∃ B, a' = f B x ∧ wB.heap.size ≤ B ∧ W'.heap[B]? = some (.cells (wv x.2).toArray 71 (0, 0))
theorem AxR.own (f : Nat → El → Act) (wB : World) (x : El) (a' : Act) : OwnFrom wB.heap.size (fun (_ : Unit) W' => AxR f wB x a' W') := fun _ X Y row hs hg hr => by
  obtain ⟨B, h1, h2, h3⟩ := hs
  refine ⟨B, h1, h2, (hg.block B (Array.getElem?_eq_some_iff.1 h3).1 (fun e => ?_)).trans h3⟩
  obtain ⟨-, o, ho, hc⟩ := hr B e.symm
  rw [h3] at ho
  injection ho with ho
  subst ho
  cases hc
theorem alloc_keepsFrom (B : Nat) (W : World) (o : Obj) : KeepsFrom B W (W.alloc o) := ⟨by simp, fun k o' _ hk _ => (Below.heap_alloc _ _ _ (Array.getElem?_eq_some_iff.1 hk).1).trans hk⟩
theorem range_of_block {w : World} {b : Nat} {cs : List Value} {t : TypeId} (h : w.heap[b]? = some (.cells cs.toArray t (0, 0))) : w.rangeAt b 0 cs := fun j v hv => by
  rw [Nat.zero_add, cell_of_row _ _ j cs.toArray t (0, 0) h]
  simpa using hv
theorem read_fin2 {w W3 : World} {g D : Nat} {x : Dat} {tmps : Array Value} (hg : g = w.heap.size) (hD : g + 4 ≤ D) (hr : W3.rangeAt (g + 1) 0 (dv x)) (hc : W3.cell? ⟨g + 1 + 1, 0, none⟩ = some (.bool true)) (hB : Below g w W3)
    (h4 : tmps.getD 4 undef = .pointer (some ⟨g + 1, 0, none⟩)) (h5 : tmps.getD 5 undef = .pointer (some ⟨g + 1 + 1, 0, none⟩)) :
    LeavesInM Fence.wide 3 Try.prog Try.f12 tmps (fun e w' => e = .returned (.tuple #[.agg (dv x).toArray, .bool true]) ∧ But [] w w') [] .returning (W3.putObj D (.deferred none)) := by
  have hp := grownBy_putObj' W3 D (.deferred none)
  have kb : ∀ i, i ≠ D → i < W3.heap.size → (W3.putObj D (.deferred none)).heap[i]? = W3.heap[i]? := fun i hi hl => hp.block i hl (fun e => by injection e with e; omega)
  have v1 : (W3.putObj D (.deferred none)).rangeAt (g + 1) 0 (dv x) := fun j v hv => (World.cell?_of_block (w := W3) (kb (g + 1) (by omega) (lt_of_cell (hr j v hv)))).trans (hr j v hv)
  have v2 : (W3.putObj D (.deferred none)).cell? ⟨g + 1 + 1, 0, none⟩ = some (.bool true) := (World.cell?_of_block (w := W3) (kb (g + 1 + 1) (by omega) (lt_of_cell hc))).trans hc
  refine ⟨_, results_read rfl _ _ (g + 1) (g + 1 + 1) (dv x) _ true h4 v1 Try.underlying34 rfl (iData x) h5 v2 (load_bool _ _ _ v2), rfl, ?_⟩
  subst hg
  exact But.of_below (hB.grown hp hB.size (fun k e => by injection e; omega))
theorem keepsFrom_but {l : List Nat} {W W' : World} {B : Nat} (h : But l W W') (hl : ∀ k ∈ l, k < B) : KeepsFrom B W W' := ⟨h.size, fun k o hk ho _ => (h.block k (Array.getElem?_eq_some_iff.1 ho).1 (fun hm => by have := hl k hm; omega)).trans ho⟩
theorem there_but {l : List Nat} {W W' : World} {b o n : Nat} (h : W.there b o n) (k : But l W W') (hb : b ∉ l) : W'.there b o n := fun j hj => by
  obtain ⟨u, hu⟩ := Option.isSome_iff_exists.1 (h j hj).1
  have hlt := lt_of_cell hu
  exact ⟨by rw [k.cell (p := ⟨b, o + j, none⟩) hlt hb]; exact (h j hj).1, by rw [k.frozen (p := ⟨b, o + j, none⟩) hlt hb]; exact (h j hj).2⟩
set_option maxHeartbeats 4000000 in
theorem read_c (k : Nat) (h : DkAt tP w lo b bl cl n v L W) (hk : k < n) (hW : W.length ≤ 1000) : Calls Try.prog 12 #[.pointer (some ⟨b, 0, none⟩), .int .i64 k] w fun e w' => e = .returned (.tuple #[.agg (dv (setAll L W k)).toArray, .bool true]) ∧ But [] w w' := by
  have hz := zData
  have hzw := zWrite
  obtain ⟨A, c, hv, -, -, h3, h4⟩ := h.ws
  obtain ⟨m, hm⟩ : ∃ m, m = W.length := ⟨_, rfl⟩
  have HM : Hid (m = W.length) := hm
  rw [← hm] at hv
  subst hv
  have H : Hid (DkAt tP w lo b bl cl n (.slice A m c) L W) := h
  have HK : Hid (k < n) := hk
  have HW : Hid (W.length ≤ 1000) := hW
  have HWS : Hid (Ws w 0 A W) := h3.imp id fun ⟨g, e, _, r⟩ => ⟨g, e, Nat.zero_le _, r⟩
  have HAL : Hid (∀ g, A = some ⟨g, 0, none⟩ → g < w.heap.size) := fun g e => (own_lt h.own (h4 g e)).2
  have hbn := h.lt fp_b
  clear h h3 h4 hk hm hW
  refine (callsIn_wide (n := 3)).1 ?_
  refine callsIn_of_wp_marks Try.func12 rfl trivial ?_ rfl
  simp only [Try.ntmps12, List.size_toArray, List.length_cons, List.length_nil, Nat.reduceAdd, Nat.reduceSub, Array.replicate_succ, Array.replicate_zero, List.push_toArray, List.append_toArray, List.nil_append, List.cons_append]
  gi_wp2_with (refine ⟨trivial, ?_⟩; gi_at_call 27; refine (callsIn_wide.2 (has_c k (H.out.keep0 ((((But.refl [] w).alloc _).alloc _).alloc _)))).mono ?_; rintro e w' ⟨rfl, rfl⟩; refine Hid.out ?_)
  rw [inB_yes HK.out]
  obtain ⟨w1, hw1, hs1, c0, t1, c2, f2, hB⟩ := three_boxes w (.int .i64 k) 3 34 4 (dv d0).toArray (.bool false)
  rw [hw1]
  obtain ⟨g, hg⟩ : ∃ g, g = w.heap.size := ⟨_, rfl⟩
  rw [← hg] at c0 t1 c2 f2 hs1 ⊢
  have H1 : Hid (DkAt tP w1 lo b bl cl n (.slice A m c) L W) := H.out.keep0 hB
  have hc1 := H1.out.c1
  have HT1 : Hid (w1.there (g + 1) 0 (dv d0).toArray.size) := t1
  have HB : Hid (But [] w w1) := hB
  have HG : Hid (g = w.heap.size) := hg
  have HC : Hid (w1.cell? ⟨g, 0, none⟩ = some (.int .i64 k) ∧ w1.cell? ⟨g + 2, 0, none⟩ = some (.bool false) ∧ w1.frozen? ⟨g + 2, 0, none⟩ = false) := ⟨c0, c2, f2⟩
  clear hw1 t1 hB hg c0 c2 f2 hz
  refine hidI ?_
  gi_wp2_with (refine ⟨trivial, ?_⟩; gi_at_call 28; refine (callsIn_wide.2 (backward_c A m c _)).mono ?_; rintro e w' ⟨rfl, rfl⟩; refine Hid.out ?_)
  obtain ⟨wB, hwB⟩ : ∃ wB, wB = w1.alloc (.cells #[.slice A m c] 57) := ⟨_, rfl⟩
  rw [← hwB]
  have hsB : wB.heap.size = g + 4 := by rw [hwB]; simp; omega
  have HKB : Hid (But [] w1 wB) := by show But _ _ _; rw [hwB]; exact (But.refl [] w1).alloc _
  have HBX : Hid (wB.cell? ⟨g + 3, 0, none⟩ = some (.slice A m c)) := by
    show _ = _
    rw [hwB, show g + 3 = w1.heap.size by omega]
    exact cell_one_new _ _ _ 0 _ rfl
  have HSB : Hid (wB.heap.size = g + 4) := hsB
  have HBW : Hid (But [] w wB) := HB.out.trans HKB.out
  clear hwB hsB
  refine hidI ?_
  gi_wp2
  refine wpIn_rangeFunc_ownH (α := El) rfl (by omega) (gf := 33) (lb := #[.pointer (some ⟨g + 3, 0, none⟩)]) rfl trivial (enters_of Try.func33 (by kernel_rfl) rfl) (encs := encE) (Kp := Below wB.heap.size)
    (S := fun ys => ys = up W W.length) (Sp := fun pre => ∃ q, q < W.length ∧ pre = up W (q + 1)) (N := W.length) (w0 := wB) ?seq belowK_t (belowK_b (Nat.le_refl _)) (Below.refl _ _) (fun _ => rfl)
    (InR k wB) (OutR k g w wB) (InR.own k wB) (fun c' => OutR.own k g w wB (by have := HSB.out; omega) HG.out c') ⟨by simp, Below.refl _ _⟩
    (AxR (fun B x => { tmps := #[.pointer (some ⟨b, 0, none⟩), .int .i64 k, undef, .pointer (some ⟨g, 0, none⟩), .pointer (some ⟨g + 1, 0, none⟩), .pointer (some ⟨g + 1 + 1, 0, none⟩), undef, .pointer (some ⟨B, 0, none⟩), .pointer (some ⟨b, 0, none⟩), .int .i64 k, .bool true, .bool false, undef, .pointer (some ⟨b, 0, none⟩), .pointer (some ⟨b, 0, none⟩), .pointer (some ⟨b, 1, none⟩), .slice A m c, .func (.func 33) #[] #[.pointer (some ⟨g + 3, 0, none⟩)], .int .i64 x.1, .agg (wv x.2).toArray, undef, undef, undef, undef, undef, undef, undef, undef, undef, undef, undef, undef, undef], defers := [] }) wB) (fun x a' => AxR.own _ wB x a') ?assign ?body ?done ?stop
  case seq =>
    intro l J Jx W' hW' _ _ hY h0
    have hB' : But [] wB W' := But.of_below hW'
    have hs0 := HSB.out
    have hmm := HM.out
    exact back_in (3 - 1) l (g + 3) wB.heap.size (by omega) A c W HW.out (by omega) (fun q e => by have := HAL.out q e; have := HG.out; omega) J Jx hY W' (by rw [← hmm]; exact cell_keep HBX.out hB' (by simp)) ((HWS.out.keep HBW.out (by simp)).keep hB' (by simp)) h0
  case assign =>
    intro l pre x W' K hI hK
    have hsz := hI.2.size
    have hs0 := HSB.out
    simp only [encE]
    gi_wp2_with (refine wpListIn_store_new rfl 71 _ _ rfl (wv w0).toArray (wv x.2).toArray rfl rfl (iWrite' _) (by simp [wv_len]) (wv_all _) ?_)
    exact hK _ _ (alloc_keepsFrom _ _ _) ((Below.refl _ _).alloc hsz _) ⟨hI.1, hI.2.alloc hsz _⟩ ⟨W'.heap.size, rfl, hsz, World.alloc_heap_new W' _⟩
  case body =>
    rintro l pre ⟨xi, pk, px⟩ a' W' hl hr hI ⟨B, rfl, hB, hbox⟩ hN
    have hs0 := HSB.out
    have hBI : But [] wB W' := But.of_below hI.2
    obtain ⟨hc0, hr1⟩ := wv_parts (range_of_block hbox)
    have hck := cell_keep (cell_keep HC.out.1 HKB.out (by simp)) hBI (by simp)
    have HR1 : Hid (W'.rangeAt B (0 + 1) (dv px)) := hr1
    have HI : Hid (InR k wB pre W') := hI
    clear hr1 hI hbox hr
    by_cases hpk : pk = k
    · subst hpk
      have HT2 : Hid (W'.there (g + 1) 0 (dv px).toArray.size) := by show World.there _ _ _ _; rw [dv_size]; have := HT1.out; rw [dv_size] at this; exact there_but (there_but this HKB.out (by simp)) hBI (by simp)
      have hc2 := cell_keep (cell_keep HC.out.2.1 HKB.out (by simp)) hBI (by simp)
      have hf2 : W'.frozen? ⟨g + 2, 0, none⟩ = false := (hBI.frozen (p := ⟨g + 2, 0, none⟩) (by show g + 2 < _; omega) (by simp)).trans ((HKB.out.frozen (p := ⟨g + 2, 0, none⟩) (lt_of_cell HC.out.2.1) (by simp)).trans HC.out.2.2)
      have HC2 : Hid (W'.cell? ⟨g + 2, 0, none⟩ = some (.bool false)) := hc2
      have hc3 : (W'.setCells (g + 1) 0 (dv px)).cell? ⟨g + 2, 0, none⟩ = some (.bool false) := cell_keep (l := [g + 1]) hc2 ((But.refl _ _).setCells (by simp) _ _) (by simp)
      have hf3 : (W'.setCells (g + 1) 0 (dv px)).frozen? ⟨g + 2, 0, none⟩ = false := by rw [World.frozen?_setCells]; exact hf2
      clear hc2 hf2 hBI
      gi_wp2_with (first
        | (refine wpListIn_load_mid rfl 34 _ rfl B 1 rfl (dv px) _ HR1.out Try.underlying34 rfl (iData _) ?_)
        | (refine wpListIn_store_mid rfl 34 _ _ rfl (g + 1) 0 (dv px).toArray rfl rfl ?ht (iData' _) (dv_all _) ?_; case ht => exact HT2.out))
      obtain ⟨v1, v2, k1⟩ := read_laid (g := g) (x := px) (bv := true) (by have := HT2.out; rw [dv_size] at this; exact this) HC2.out
      refine ⟨keepsFrom_but k1 (by simp; omega), rfl, ⟨pre, _, rfl, HI.out.1, rfl, v1⟩, v2, ?_⟩
      have e1 : Below g w W' := by
        have := (HBW.out.below (B := g) (by have := HG.out; omega) (by simp)).trans (HI.out.2.mono (by omega))
        exact this
      exact e1.trans (k1.below (by have := e1.size; have := HG.out; omega) (by simp))
    · have hne : ¬ (pk : Int) = (k : Int) := by omega
      gi_wp2
      exact ⟨KeepsFrom.refl _ _, Below.refl _ _, fun y hy => by
        rcases List.mem_append.1 hy with h | h
        · exact HI.out.1 y h
        · obtain rfl : y = (xi, pk, px) := by simpa using h
          exact hpk, HI.out.2⟩
  case done =>
    rintro D xs W' hD rfl hI hK
    have hs0 := HSB.out
    have hBI : But [] wB W' := But.of_below hI.2
    have HX : Hid (setAll L W k = L k) := up_all hI.1
    have HD1 : Hid (DkAt tP W' lo b bl cl n (.slice A m c) L W) := (H1.out.keep0 HKB.out).keep0 hBI
    have hd0 := HD1.out.c0
    have hck := cell_keep (cell_keep HC.out.1 HKB.out (by simp)) hBI (by simp)
    have HRL : Hid (W'.rangeAt bl (k * 64) (dv (L k))) := HD1.out.row HK.out
    have hk1 : (k : Int) < (n : Int) := by have := HK.out; omega
    have hmost := HD1.out.most
    have e1 : Below g w W' := (HBW.out.below (B := g) (by have := HG.out; omega) (by simp)).trans (hI.2.mono (by omega))
    have HE1 : Hid (Below g w W') := e1
    have HT2 : Hid (W'.drew.there (g + 1) 0 (dv (L k)).toArray.size) := by show World.there _ _ _ _; rw [dv_size]; have := HT1.out; rw [dv_size] at this; exact there_but (there_but (there_but this HKB.out (by simp)) hBI (by simp)) (But.refl [] W').drew (by simp)
    have hc2 := cell_keep (cell_keep (cell_keep HC.out.2.1 HKB.out (by simp)) hBI (by simp)) (But.refl [] W').drew (by simp)
    have hf2 : W'.frozen? ⟨g + 2, 0, none⟩ = false := (hBI.frozen (p := ⟨g + 2, 0, none⟩) (by show g + 2 < _; omega) (by simp)).trans ((HKB.out.frozen (p := ⟨g + 2, 0, none⟩) (lt_of_cell HC.out.2.1) (by simp)).trans HC.out.2.2)
    have HC2 : Hid (W'.drew.cell? ⟨g + 2, 0, none⟩ = some (.bool false)) := hc2
    have hc3 : (W'.drew.setCells (g + 1) 0 (dv (L k))).cell? ⟨g + 2, 0, none⟩ = some (.bool false) := cell_keep (l := [g + 1]) hc2 ((But.refl _ _).setCells (by simp) _ _) (by simp)
    have hf3 : (W'.drew.setCells (g + 1) 0 (dv (L k))).frozen? ⟨g + 2, 0, none⟩ = false := by rw [World.frozen?_setCells]; exact hf2
    have HK' : Hid (W'.heap[D]? = some (.deferred (some []))) := hK
    clear hc2 hf2 hBI hI hK e1
    gi_wp2
    refine wpIn_wide.2 ?_
    refine wp_region_still_tail 7 (by kernel_rfl) (by kernel_rfl) ?_
    simp only [List.take_succ_cons, List.take_zero, List.drop_succ_cons, List.drop_zero]
    repeat (first | (refine wpStill_load_mid rfl 34 _ rfl bl (k * 64) rfl (dv (L k)) _ HRL.out Try.underlying34 rfl (iData _) ?_) | still_step)
    refine wpStill_nil ?_
    change wpList _ _ _ _ _ W'.drew
    go_wp2_with (refine wpList_store_mid rfl 34 _ _ rfl (g + 1) 0 (dv (L k)).toArray rfl rfl ?ht (iData' _) (dv_all _) ?_; case ht => exact HT2.out)
    gi_wp2
    have HK3 : ((W'.drew.setCells (g + 1) 0 (dv (L k))).setCell ⟨g + 1 + 1, 0, none⟩ (.bool true)).heap[D]? = some (.deferred (some [])) := by
      obtain ⟨-, -, k1⟩ := read_laid (w1 := W'.drew) (g := g) (x := L k) (bv := true) (by have := HT2.out; rw [dv_size] at this; exact this) HC2.out
      exact (k1.block D (Array.getElem?_eq_some_iff.1 HK'.out).1 (by simp; omega)).trans HK'.out
    refine ⟨by simp, .inl ⟨_, _, rfl, run_takeDeferred HK3, ?_⟩⟩
    obtain ⟨v1, v2, k1⟩ := read_laid (w1 := W'.drew) (g := g) (x := L k) (bv := true) (by have := HT2.out; rw [dv_size] at this; exact this) HC2.out
    rw [HX.out]
    have hbb := HE1.out
    exact read_fin2 HG.out (by omega) v1 v2 (hbb.drew.trans (k1.below (by have := hbb.size; have := HG.out; show g ≤ W'.heap.size; omega) (by simp))) rfl rfl
  case stop =>
    rintro D c' pre W' hD ⟨q, hq, hpre⟩ hO hK
    obtain rfl := hO.code
    have hs0 := HSB.out
    gi_wp2
    refine ⟨by simp, .inl ⟨_, _, rfl, run_takeDeferred hK, ?_⟩⟩
    obtain ⟨p0, x, h1, h2, h3, h4⟩ := hO.st
    rw [hpre, up_succ] at h1
    obtain ⟨e1, e2⟩ := List.append_inj' h1 rfl
    injection e2 with e2
    subst e2
    have hx := up_last (L := L) hq (by rw [e1]; exact h2) h3
    rw [hx]
    exact read_fin2 HG.out (by omega) h4 hO.mark hO.bel rfl rfl
end
end Go.Proofs.Ytnjnplepecmfaaa.Dk
