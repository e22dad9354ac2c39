/-
  Layer 6 (cpu): a Start that came in; equality of programs and of traps; a nil CPU; the chapter's example.
-/
import Derived.Test.YtjlcncdhlcpklaaCpBoth
import Derived.Test.YtjlcncdhlcpklaaFlat
namespace Go.Proofs.Ytjlcncdhlcpklaa.Cp
open Go.ChangeShapes Go.WideShapes Go.ChangeAt Go.RowKit
open Fr (MemAt Blk hasW hasF) 
open Tl (En TlbAt Ens getE misE ansE en0 putL)
set_option linter.unusedVariables false
set_option maxRecDepth 20000

def ks_u32 : List Pk := [.int .u32]
theorem flatU32 : FlatT Try.prog 24 ks_u32 := flat_int Try.underlying24 (by kernel_rfl)
def ks_entry : List Pk := [.int .i64, .int .i64, .int .i64, .bool]
def kd_entry (t : TypeId) : List Pk := if t = 3 then [.int .i64] else [.bool]
theorem flatEntry : FlatT Try.prog 55 ks_entry :=
  flat_struct kd_entry Try.underlying55 (by kernel_rfl)
    (by
      intro f hf
      simp only [List.mem_cons, List.not_mem_nil, or_false] at hf
      rcases hf with rfl | rfl | rfl | rfl
      · exact flat_int Try.underlying3 (by kernel_rfl)
      · exact flat_int Try.underlying3 (by kernel_rfl)
      · exact flat_int Try.underlying3 (by kernel_rfl)
      · exact flat_bool Try.underlying4 (by kernel_rfl))
    (by decide)
def ks_regs : List Pk := List.replicate 16 (.int .u32)
theorem flatRegs : FlatT Try.prog 25 ks_regs := flat_array Try.underlying25 (by kernel_rfl) flatU32 (by decide) (by decide)
def ks_ctx : List Pk := List.replicate 17 (.int .u32)
def kd_ctx (t : TypeId) : List Pk := if t = 25 then ks_regs else ks_u32
theorem flatCtx : FlatT Try.prog 27 ks_ctx :=
  flat_struct kd_ctx Try.underlying27 (by kernel_rfl)
    (by
      intro f hf
      simp only [List.mem_cons, List.not_mem_nil, or_false] at hf
      rcases hf with rfl | rfl
      · exact flatRegs
      · exact flatU32)
    (by decide)
theorem row_open {P : Program} {t e : TypeId} {ks : List Pk} {H : Type} {enc : TypeId × Value → H} {w : World} {fuel : Nat} {cs : List Value} {x : DataW H × List MemPlace}
    (ht : P.underlying t = some (.slice e)) (hf : FlatT P e ks) (hp : 0 < ks.length) (h : DataW.trod enc P w 0 (fun _ => true) true fuel t cs = some x) : ∃ A len cap, cs = [.slice A len cap] ∧ RowOf ks w A len cap := by
  have key : ∃ A len cap, cs = [.slice A len cap] := by
    rcases Go.Deep.open_slice ht h with ⟨hcs, _⟩ | ⟨a, l, c, m, n, D, Pl, hcs, _⟩
    · exact ⟨_, _, _, hcs⟩
    · exact ⟨_, _, _, hcs⟩
  obtain ⟨A, len, cap, rfl⟩ := key
  exact ⟨A, len, cap, rfl, rowOf_open ht hf hp (d := x.1) (p := x.2) ⟨fuel, by simpa [Value.cells] using h⟩⟩
/-- All cells are numbers of 32 bits: which. -/
theorem words_of : ∀ (n : Nat) {vs : List Value}, Fits (List.replicate n (.int .u32)) vs → ∃ c : List Int, c.length = n ∧ vs = cvl c ∧ U32s c
  | 0, vs, h => ⟨[], rfl, fits_nil h, fun j => by simp⟩
  | n + 1, vs, h => by
    obtain ⟨v, vs', rfl, ⟨x, rfl, hw⟩, h'⟩ := fits_cons (k := .int .u32) (ks := List.replicate n (.int .u32)) h
    obtain ⟨c, hl, rfl, hu⟩ := words_of n h'
    refine ⟨x :: c, by simp [hl], rfl, fun j => ?_⟩
    rcases j with _ | j
    · exact u32_bounds hw
    · simpa using hu j
theorem ints_of {w : World} {A : Option Addr} {len cap : Nat} (h : RowOf ks_u32 w A len cap) : ∃ ys : List Int, ys.length = len ∧ U32s ys ∧ Rd .u32 w 0 w.heap.size A ys := by
  obtain ⟨-, -, h0 | ⟨b, off, rfl, hb, hall⟩⟩ := h
  · exact ⟨[], by simp [h0], fun j => by simp, .inl rfl⟩
  · have H : ∀ i, i < len → ∃ x : Int, w.cell? ⟨b, off + i, none⟩ = some (.int .u32 x) ∧ 0 ≤ x ∧ x ≤ 4294967295 := fun i hi => by
      obtain ⟨vs, hr, hf⟩ := hall i hi
      obtain ⟨v, vs', rfl, ⟨x, rfl, hw⟩, h'⟩ := fits_cons hf
      have := hr 0 _ rfl
      exact ⟨x, by simpa [ks_u32] using this, (u32_bounds hw).1, (u32_bounds hw).2⟩
    refine ⟨(List.range len).map fun i => if hi : i < len then (H i hi).choose else 0, by simp, fun j => ?_, ?_⟩
    · by_cases hj : j < len
      · simp only [List.getD_eq_getElem?_getD, List.getElem?_map, List.getElem?_range hj, Option.map_some, Option.getD_some, dif_pos hj]
        exact (H j hj).choose_spec.2
      · rw [List.getD_eq_getElem?_getD, List.getElem?_eq_none (by simpa using hj)]
        simp
    · refine .inr ⟨b, off, rfl, Nat.zero_le _, hb, fun j hj => ?_⟩
      have hj' : j < len := by simpa using hj
      simp only [List.getD_eq_getElem?_getD, List.getElem?_map, List.getElem?_range hj', Option.map_some, Option.getD_some, dif_pos hj']
      exact (H j hj').choose_spec.1
theorem ens_of {w : World} {A : Option Addr} {len cap : Nat} (h : RowOf ks_entry w A len cap) : ∃ es : List En, es.length = len ∧ Ens w 0 A es := by
  obtain ⟨-, -, h0 | ⟨b, off, rfl, hb, hall⟩⟩ := h
  · exact ⟨[], by simp [h0], .inl rfl⟩
  · have H : ∀ i, i < len → ∃ e : En, w.rangeAt b (off + i * 4) e.vs := fun i hi => by
      obtain ⟨vs, hr, hf⟩ := hall i hi
      obtain ⟨v0, l0, rfl, ⟨S, rfl, _⟩, g0⟩ := fits_cons hf
      obtain ⟨v1, l1, rfl, ⟨P, rfl, _⟩, g1⟩ := fits_cons g0
      obtain ⟨v2, l2, rfl, ⟨F, rfl, _⟩, g2⟩ := fits_cons g1
      obtain ⟨v3, l3, rfl, ⟨W, rfl⟩, g3⟩ := fits_cons g2
      obtain rfl := fits_nil g3
      exact ⟨⟨S, P, F, W⟩, hr⟩
    refine ⟨(List.range len).map fun i => if hi : i < len then (H i hi).choose else en0, by simp, .inr ⟨b, off, rfl, Nat.zero_le _, hb, fun j hj => ?_⟩⟩
    have hj' : j < len := by simpa using hj
    simp only [List.getD_eq_getElem?_getD, List.getElem?_map, List.getElem?_range hj', Option.map_some, Option.getD_some, dif_pos hj']
    exact (H j hj').choose_spec
/-- A Start that came in. -/
def StartOk (w : World) (cs : Array Value) : Prop :=
  ∃ (A0 : Option Addr) (l0 c0 : Nat) (A1 : Option Addr) (l1 c1 : Nat) (s : Int) (c ys : List Int) (es : List En), cs = (stl A0 l0 c0 A1 l1 c1 s c).toArray ∧ c.length = 17 ∧ U32s c ∧ ys.length = l0 ∧ Rd .u32 w 0 w.heap.size A0 ys ∧ U32s ys ∧ es.length = l1 ∧ Ens w 0 A1 es ∧ l0 ≤ 9223372036854775807 ∧ l1 ≤ 9223372036854775807
theorem start_open {H : Type} {enc : TypeId × Value → H} {w : World} {cs : Array Value} {d : DataW H} {p : List MemPlace} (h : DataW.Trod enc Try.prog w 0 (fun _ => true) true 29 (.agg cs) d p) : StartOk w cs := by
  obtain ⟨fuel, hx⟩ := h
  have hx' : DataW.trod enc Try.prog w 0 (fun _ => true) true fuel 29 cs.toList = some (d, p) := by simpa [Value.cells] using hx
  obtain ⟨xs, n, -, -, hl, hxl, hall⟩ := DataW.trod_struct Try.underlying29 hx'
  have hlen : cs.toList.length = 20 := hl.trans (by kernel_rfl)
  have hc22 : Try.prog.cellsOf 22 = 1 := by kernel_rfl
  have hc23 : Try.prog.cellsOf 23 = 1 := by kernel_rfl
  have hc3 : Try.prog.cellsOf 3 = 1 := by kernel_rfl
  have hc27 : Try.prog.cellsOf 27 = 17 := by kernel_rfl
  have hxl4 : xs.length = 4 := hxl
  have h0 := hall 0 _ rfl
  have h1 := hall 1 _ rfl
  have h2 := hall 2 _ rfl
  have h3 := hall 3 _ rfl
  rw [List.getElem?_eq_getElem (by omega)] at h0 h1 h2 h3
  obtain ⟨A0, l0, c0, e0, r0⟩ := row_open Try.underlying22 flatU32 (by decide) h0
  obtain ⟨A1, l1, c1, e1, r1⟩ := row_open Try.underlying23 flatEntry (by decide) h1
  obtain ⟨s, e2, -, -⟩ := DataW.trod_int Try.underlying3 h2
  have f3 := flatCtx.2 _ _ _ _ _ _ _ _ _ h3
  obtain ⟨c, hcl, e3, hcu⟩ := words_of 17 f3
  obtain ⟨ys, hy, hyu, hyr⟩ := ints_of r0
  obtain ⟨es, he, her⟩ := ens_of r1
  have m0 := r0.2.1
  have m1 := r1.2.1
  have n0 := r0.1
  have n1 := r1.1
  unfold maxLen at m0 m1
  refine ⟨A0, l0, c0, A1, l1, c1, s, c, ys, es, ?_, hcl, hcu, hy, hyr, hyu, he, her, by omega, by omega⟩
  have key : ∀ l : List Value, l.length = 20 → (l.drop 0).take 1 = [Value.slice A0 l0 c0] → (l.drop 1).take 1 = [Value.slice A1 l1 c1] → (l.drop 2).take 1 = [Value.int .i64 s] → (l.drop 3).take 17 = cvl c → l = stl A0 l0 c0 A1 l1 c1 s c := by
    intro l hl0 q0 q1 q2 q3
    match l, hl0 with
    | a :: b :: d :: r, hl0 =>
      simp at q0 q1 q2 q3 hl0
      subst q0
      subst q1
      subst q2
      rw [List.take_of_length_le (by omega)] at q3
      subst q3
      rfl
  replace e0 : (cs.toList.drop 0).take (Try.prog.cellsOf 22) = _ := e0
  replace e1 : (cs.toList.drop 1).take (Try.prog.cellsOf 23) = _ := e1
  replace e2 : (cs.toList.drop 2).take (Try.prog.cellsOf 3) = _ := e2
  replace e3 : (cs.toList.drop 3).take (Try.prog.cellsOf 27) = _ := e3
  rw [hc22] at e0
  rw [hc23] at e1
  rw [hc3] at e2
  rw [hc27] at e3
  have := key cs.toList hlen e0 e1 e2 e3
  rw [← this]

theorem eqRegs (r : List Int) (h : r.length = 16) (w : World) : (Op.equalIn 9999 25 (.agg (cvl r).toArray) (.agg (cvl r).toArray)).run Try.prog w = .ok true w := by
  obtain ⟨i0, hi⟩ : ∃ i0, Try.prog.info? 24 = some i0 := Option.isSome_iff_exists.1 (by kernel_rfl)
  have hg : ∀ i ∈ List.range 16, (cvl r).toArray[i * 1]? = some (.int .u32 (r.getD i 0)) := fun i hi => by
    rw [Nat.mul_one]
    simpa using cvl_get r i (by rw [h]; exact List.mem_range.1 hi)
  rw [run_equalIn_array w 9998 (cvl r).toArray (cvl r).toArray Try.underlying25 hi, Fr.Try.cellsU32,
    Fr.run_eqItems_ints Try.underlying24 Fr.Try.plainU32 _ _ (fun i => r.getD i 0) (fun i => r.getD i 0) 9997 (List.range 16) hg hg]
  simp
theorem eqCtx (c : List Int) (h : c.length = 17) (w : World) : (Op.equalIn 10000 27 (.agg (cvl c).toArray) (.agg (cvl c).toArray)).run Try.prog w = .ok true w := by
  obtain ⟨x0, x1, x2, x3, x4, x5, x6, x7, x8, x9, x10, x11, x12, x13, x14, x15, x16, rfl⟩ := seventeen c h
  rw [show (10000 : Nat) = 9999 + 1 from rfl, run_equalIn_struct w 9999 27 _ _ (by kernel_rfl) (by kernel_rfl)]
  have hr := eqRegs [x0, x1, x2, x3, x4, x5, x6, x7, x8, x9, x10, x11, x12, x13, x14, x15] rfl w
  simp only [cvl, List.map_cons, List.map_nil] at hr
  simp [Program.fieldsOf, Try.underlying27, go_sem, cvl, hr]
theorem eqTrap (t : Tr) (w : World) : (Op.equalIn 10000 37 (.agg #[.int .i64 t.cause, .int .i64 t.page, .bool t.wr, .int .i64 t.call]) (.agg #[.int .i64 t.cause, .int .i64 t.page, .bool t.wr, .int .i64 t.call])).run Try.prog w = .ok true w := by
  rw [show (10000 : Nat) = 9999 + 1 from rfl, run_equalIn_struct w 9999 37 _ _ (by kernel_rfl) (by kernel_rfl)]
  simp [Program.fieldsOf, Try.underlying37, go_sem]

set_option maxHeartbeats 1000000 in
theorem step_nil (s : Int) (c : List Int) (w : World) (hl : c.length = 17) :
    Calls Try.prog 8 #[.pointer none, .int .i64 s, .agg (cvl c).toArray] w fun e w' => e = .returned (.tuple #[.agg (cvl c).toArray, .agg (Tr.mk 3 0 false 0).vs.toArray]) ∧ But [] w w' := by
  have HLN : Hid (c.length = 17) := hl
  obtain ⟨g, hg⟩ : ∃ g, g = w.heap.size := ⟨_, rfl⟩
  obtain ⟨hR5, hT6, hT7⟩ := three_new w (cvl c).toArray #[.int .u32 0, .int .u32 0, .int .u32 0, .int .u32 0, .int .u32 0, .int .u32 0, .int .u32 0, .int .u32 0, .int .u32 0, .int .u32 0, .int .u32 0, .int .u32 0, .int .u32 0, .int .u32 0, .int .u32 0, .int .u32 0, .int .u32 0] #[.int .i64 0, .int .i64 0, .bool false, .int .i64 0] 27 27 37 17 4 rfl rfl (cvl c) rfl
  have hB0 : But [] w (((w.alloc (.cells (cvl c).toArray 27)).alloc (.cells #[.int .u32 0, .int .u32 0, .int .u32 0, .int .u32 0, .int .u32 0, .int .u32 0, .int .u32 0, .int .u32 0, .int .u32 0, .int .u32 0, .int .u32 0, .int .u32 0, .int .u32 0, .int .u32 0, .int .u32 0, .int .u32 0, .int .u32 0] 27)).alloc (.cells #[.int .i64 0, .int .i64 0, .bool false, .int .i64 0] 37)) := (((But.refl [] w).alloc _).alloc _).alloc _
  have HGS : Hid (w.heap.size ≤ g) := by show _ ≤ g; omega
  clear hl
  go_enter Try.func8, Try.ntmps8
  go_upto_region 2 with fail
  rw [← hg] at hR5 hT6 hT7 ⊢
  generalize ((w.alloc (.cells (cvl c).toArray 27)).alloc (.cells #[.int .u32 0, .int .u32 0, .int .u32 0, .int .u32 0, .int .u32 0, .int .u32 0, .int .u32 0, .int .u32 0, .int .u32 0, .int .u32 0, .int .u32 0, .int .u32 0, .int .u32 0, .int .u32 0, .int .u32 0, .int .u32 0, .int .u32 0] 27)).alloc (.cells #[.int .i64 0, .int .i64 0, .bool false, .int .i64 0] 37) = w1 at hR5 hT6 hT7 hB0 ⊢
  have HR : Hid (w1.rangeAt g 0 (cvl c)) := hR5
  have HT6 : Hid (w1.there (g + 1) 0 (cvl c).toArray.size) := by show World.there _ _ _ _; rw [List.size_toArray, cvl_len, HLN.out]; exact hT6
  have HT7 : Hid (∀ cs : List Value, (w1.setCells (g + 1) 0 cs).there (g + 2) 0 4) := fun cs => World.there_setCells hT7 _ _ _
  have HI : Hid ((Try.prog.info? 27).map (·.size) = some (cvl c).toArray.size) := by show _ = _; rw [List.size_toArray]; exact cvl_info c HLN.out
  have hh7 := hT7
  have hh6 := hT6
  clear hR5 hT6 hT7 hg
  go_wp2_with (first
    | (refine wpList_load_mid rfl 27 _ rfl g 0 rfl (cvl c) _ HR.out Try.underlying27 rfl (cvl_info c HLN.out) ?_)
    | (refine wpList_store_mid rfl 27 _ _ rfl (g + 1) 0 (cvl c).toArray rfl rfl ?ht HI.out (all_oneCell_toArray (cvl_one c)) ?_; case ht => exact HT6.out)
    | (refine wpList_store_mid rfl 37 _ _ rfl (g + 2) 0 #[.int .i64 3, .int .i64 0, .bool false, .int .i64 0] rfl rfl ?ht Try.sizeTrap (Tr.vs_all ⟨3, 0, false, 0⟩) ?_; case ht => exact HT7.out _))
  obtain ⟨v1, v2⟩ := two_laid w1 (g + 1) (g + 2) (cvl c) [.int .i64 3, .int .i64 0, .bool false, .int .i64 0] (by rw [cvl_len, HLN.out]; exact hh6) hh7 (by omega)
  refine bodyPost_ret (results_two rfl _ _ (g + 1) 0 (g + 2) 0 _ _ _ _ rfl v1 Try.underlying27 rfl (cvl_info c HLN.out) rfl v2 Try.underlying37 rfl Try.sizeTrap) rfl ?_
  have hbf : But [g + 1, g + 2] w1 ((w1.setCells (g + 1) 0 (cvl c)).setCells (g + 2) 0 [.int .i64 3, .int .i64 0, .bool false, .int .i64 0]) := ((But.refl _ w1).setCells (by simp) _ _).setCells (by simp) _ _
  exact ⟨rfl, but_fresh hB0 hbf (by have := HGS.out; simp; omega)⟩
end Go.Proofs.Ytjlcncdhlcpklaa.Cp
