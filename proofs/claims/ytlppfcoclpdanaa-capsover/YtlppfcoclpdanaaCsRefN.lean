/-
  Layer 12 (caps): the contract of the document's New, over the translated program.
-/
import Derived.Test.YtlppfcoclpdanaaCsRef
import Derived.Test.YtlppfcoclpdanaaSnSame
import Derived.Test.YtlppfcoclpdanaaLast
namespace Go.Proofs.Ytlppfcoclpdanaa.Cs
open Go.ChangeShapes Go.WideShapes Go.ChangeAt Go.RowKit
open Wh Sn
set_option linter.unusedVariables false
set_option maxRecDepth 20000

theorem infNode : (Try.prog.info? 46).map (fun i => (i.zero, i.size, i.bytes)) = some (some (.agg (.int .u64 0 :: .int .i64 0 :: bv no).toArray), 1026, 1040) := by kernel_rfl
theorem nc_zero : nc nd0 = .int .u64 0 :: .int .i64 0 :: bv no := by unfold nc; rfl
theorem bNode : Try.prog.built 46 [] = some (nc nd0).toArray := by rw [nc_zero]; kernel_rfl
theorem zNode (w : World) : Sem.run Try.prog (zeroValue 46) w = .ok (.agg (nc nd0).toArray) w := by rw [nc_zero]; kernel_rfl
theorem made_node (j : Nat) (h : j < 65664) : (madeCells (nc nd0).toArray (64 * 1026))[j]? = some (rv (fun _ => nd0) j) := by
  have hj : j < 64 * 1026 := by omega
  have h1 := rv_nc (fun _ => nd0) (j / 1026) (j % 1026) (by omega)
  rw [show j / 1026 * 1026 + j % 1026 = j by omega] at h1
  have hs : (nc nd0).toArray.size = 1026 := ncs nd0
  have hl : j % 1026 < (nc nd0).length := by rw [nc_len]; omega
  rw [List.getElem?_eq_getElem hl] at h1
  simp only [madeCells, Array.getElem?_map, Array.getElem?_range, hj, if_true, Option.map_some]
  rw [hs]
  simp [hl, Option.some.inj h1]
theorem fold_get : ∀ (l : List Value) (k off : Nat) (cs : Array Value), ((l.zipIdx k).foldl (fun cs (x : Value × Nat) => cs.setIfInBounds (off + x.2) x.1) cs).size = cs.size ∧
    ∀ i, ((l.zipIdx k).foldl (fun cs (x : Value × Nat) => cs.setIfInBounds (off + x.2) x.1) cs)[i]? = if off + k ≤ i ∧ i < off + k + l.length ∧ i < cs.size then l[i - (off + k)]? else cs[i]?
  | [], k, off, cs => ⟨rfl, fun i => by rw [if_neg (by simp; omega)]; rfl⟩
  | c :: l, k, off, cs => by
    obtain ⟨h1, h2⟩ := fold_get l (k + 1) off (cs.setIfInBounds (off + k) c)
    refine ⟨by rw [List.zipIdx_cons, List.foldl_cons, h1]; simp, fun i => ?_⟩
    rw [List.zipIdx_cons, List.foldl_cons, h2 i]
    simp only [Array.size_setIfInBounds, List.length_cons]
    by_cases e : i = off + k
    · subst e
      rw [if_neg (by omega)]
      by_cases e2 : off + k < cs.size
      · rw [if_pos (by omega)]
        simp [e2]
      · rw [if_neg (by omega)]
        simp [e2]
    · by_cases e2 : off + (k + 1) ≤ i ∧ i < off + (k + 1) + l.length ∧ i < cs.size
      · rw [if_pos e2, if_pos (by omega), show i - (off + k) = (i - (off + (k + 1))) + 1 by omega]
        rfl
      · rw [if_neg e2, if_neg (by omega), Array.getElem?_setIfInBounds, if_neg (by omega)]
theorem fold_arr (a cs : Array Value) (off : Nat) : (a.zipIdx.foldl (fun cs (x : Value × Nat) => cs.setIfInBounds (off + x.2) x.1) cs).size = cs.size ∧
    ∀ i, (a.zipIdx.foldl (fun cs (x : Value × Nat) => cs.setIfInBounds (off + x.2) x.1) cs)[i]? = if off ≤ i ∧ i < off + a.size ∧ i < cs.size then a[i - off]? else cs[i]? := by
  have := fold_get a.toList 0 off cs
  rw [← Array.toList_zipIdx, Array.foldl_toList] at this
  simpa using this
theorem placesNode : ∃ fs, Try.prog.underlying 46 = some (.struct fs) ∧ fs.toList.mapM (fun f => (Try.prog.info? f.type).map fun i => (f.offset, i.size)) = some [(0, 1), (1, 1), (2, 1024)] :=
  ⟨_, Try.underlying46, by kernel_rfl⟩
theorem builtNode (g : Nat) (q : Int) (s : Nat → Bool) : Try.prog.built 46 [(0, .int .u64 (g : Nat)), (1, .int .i64 q), (2, .agg (bv s).toArray)] = some (nc ⟨g, q, s⟩).toArray := by
  obtain ⟨fs, hu, hp⟩ := placesNode
  obtain ⟨it, hi, hz, -, -⟩ := info_parts infNode
  rw [← nc_zero] at hz
  have h0 : (nc nd0).toArray.size = 1026 := ncs nd0
  have hb : (bv s).toArray.size = 1024 := bvs s
  simp only [Program.built, hi, hu, hz, hp]
  have e0 : (Value.int .u64 (g : Nat)).cells = #[Value.int .u64 (g : Nat)] := rfl
  have e1 : (Value.int .i64 q).cells = #[Value.int .i64 q] := rfl
  have e2 : (Value.agg (bv s).toArray).cells = (bv s).toArray := rfl
  have e3 : (Value.agg (nc nd0).toArray).cells = (nc nd0).toArray := rfl
  simp only [Instr.fill, e0, e1, e2, e3]
  simp only [List.getElem?_toArray, List.getElem?_cons_zero, List.getElem?_cons_succ]
  obtain ⟨a1, a2⟩ := fold_arr #[.int .u64 (g : Nat)] (nc nd0).toArray 0
  obtain ⟨X1, hX1⟩ : ∃ X1, X1 = #[Value.int .u64 (g : Nat)].zipIdx.foldl (fun cs (x : Value × Nat) => cs.setIfInBounds (0 + x.2) x.1) (nc nd0).toArray := ⟨_, rfl⟩
  rw [← hX1] at a1 a2 ⊢
  obtain ⟨b1, b2⟩ := fold_arr #[.int .i64 q] X1 1
  obtain ⟨X2, hX2⟩ : ∃ X2, X2 = #[Value.int .i64 q].zipIdx.foldl (fun cs (x : Value × Nat) => cs.setIfInBounds (1 + x.2) x.1) X1 := ⟨_, rfl⟩
  rw [← hX2] at b1 b2 ⊢
  obtain ⟨c1, c2⟩ := fold_arr (bv s).toArray X2 2
  obtain ⟨X3, hX3⟩ : ∃ X3, X3 = (bv s).toArray.zipIdx.foldl (fun cs (x : Value × Nat) => cs.setIfInBounds (2 + x.2) x.1) X2 := ⟨_, rfl⟩
  rw [← hX3] at c1 c2 ⊢
  rw [a1, h0] at b1
  rw [h0] at a1
  rw [b1] at c1
  have s1 : (#[Value.int .u64 (g : Nat)] : Array Value).size = 1 := rfl
  have s2 : (#[Value.int .i64 q] : Array Value).size = 1 := rfl
  rw [if_neg (by rw [s1, h0]; simp), if_neg (by rw [s2, a1]; simp), if_neg (by rw [hb, b1]; simp)]
  congr 1
  apply Array.ext_getElem?
  intro i
  rw [c2 i, hb, b1]
  by_cases h2 : 2 ≤ i ∧ i < 2 + 1024 ∧ i < 1026
  · rw [if_pos h2]
    obtain ⟨k, rfl⟩ : ∃ k, i = k + 2 := ⟨i - 2, by omega⟩
    rw [show k + 2 - 2 = k by omega, List.getElem?_toArray, List.getElem?_toArray, bv_get s k (by omega), nc_2 _ _ (by omega)]
  · rw [if_neg h2, b2 i, s2, a1]
    by_cases h3 : 1 ≤ i ∧ i < 1 + 1 ∧ i < 1026
    · rw [if_pos h3]
      obtain rfl : i = 1 := by omega
      rw [List.getElem?_toArray, List.getElem?_toArray, nc_1]
      rfl
    · rw [if_neg h3, a2 i, s1, h0]
      by_cases h4 : 0 ≤ i ∧ i < 0 + 1 ∧ i < 1026
      · rw [if_pos h4]
        obtain rfl : i = 0 := by omega
        rw [List.getElem?_toArray, List.getElem?_toArray, nc_0]
        rfl
      · rw [if_neg h4, List.getElem?_toArray, List.getElem?_toArray, List.getElem?_eq_none (by rw [nc_len]; omega), List.getElem?_eq_none (by rw [nc_len]; omega)]
theorem there_cell2 {w : World} {b : Nat} (h : w.there b 0 2) : w.frozen? ⟨b, 1, none⟩ = false := (h 1 (by omega)).2
/-- In a region that draws: a struct that is built of what is known yields. -/
theorem yieldsIf_build {P : Program} {ops : Array Oper} {S : World → Prop} {op : Oper} {a : Act} (hw : Region.wanted op (yielded ops a.tmps) = true) (t : TypeId) (parts : List (Nat × Operand)) (ho : op.op = .build t parts.toArray)
    (cells : Array Value) (vals : List (Nat × Value)) (hv : (parts.map fun (i, x) => (i, a.eval x)) = vals) (hf : P.built t vals = some cells) : YieldsIf P ops S op (.agg cells) a :=
  .inl ⟨hw, fun w _ => by
    unfold execOp
    have e : (parts.toArray.map fun (i, x) => (i, a.eval x)).toList = parts.map fun (i, x) => (i, a.eval x) := by simp
    have hb := run_build (P := P) w t (parts.toArray.map fun (i, x) => (i, a.eval x)) cells (by rw [e, hv]; exact hf)
    simp only [ho, Sem.run_bind, hb, Result.andThen_ok, Sem.run_pure]⟩
def NewR (w : World) (st : Nat → Bool) (e : Ending) (w' : World) : Prop :=
  ∃ bx bl, e = .returned (.pointer (some ⟨bx, 0, none⟩)) ∧ w.heap.size ≤ bx ∧ w.heap.size ≤ bl ∧ RfAt w' bx bl (updN (fun _ => nd0) 0 ⟨1, -1, st⟩) 1 ∧ But [] w w'
set_option maxHeartbeats 2000000 in
theorem rNew_c (st : Nat → Bool) (w : World) :
    Calls Try.prog 9 #[.agg (bv st).toArray] w (NewR w st) := by
  obtain ⟨i0, hi, hz0, hz1, hz2⟩ := info_parts infNode
  have hmk : ∀ w, (Instr.makeSlice 47 (.int .i64 64) (.int .i64 64)).run Try.prog w = .ok (.slice (some ⟨w.heap.size, 0, none⟩) 64 64) (w.alloc (.cells (madeCells (nc nd0).toArray (64 * 1026)) 46)) := fun w => by
    have := run_make (P := Try.prog) w 47 46 i0 _ Try.underlying47 hi hz0 .i64 .i64 64 64 (by omega) (Int.le_refl _) (by rw [hz2]; omega) (by omega)
    rw [← nc_zero] at this
    simpa [hz1, Value.cells] using this
  obtain ⟨B, hB⟩ : ∃ B, B = w.heap.size := ⟨_, rfl⟩
  obtain ⟨w0, hw0⟩ : ∃ w0, w0 = w.alloc (.cells (bv st).toArray 36) := ⟨_, rfl⟩
  have HK0 : Hid (But [] w w0) := by show But _ _ _; rw [hw0]; exact (But.refl [] w).alloc _
  have hr := new_range w (bv st) 36
  rw [← hw0, ← hB] at hr
  have HR := hid hr
  have HBW := hid hB
  have HS0 : Hid (w0.heap.size = B + 1) := by show _ = _; rw [hw0, hB]; simp
  clear hi hz0 hz1 hz2 hr
  go_enter Try.func9, Try.ntmps9
  go_upto_region 1 with fail
  rw [← hw0, ← hB]
  clear hw0 hB
  obtain ⟨bl, hbl⟩ : ∃ bl, bl = w0.heap.size := ⟨_, rfl⟩
  have HV : Hid (VB (w0.alloc (.cells (madeCells (nc nd0).toArray (64 * 1026)) 46)) bl 65664 (rv (fun _ => nd0))) := by
    rw [hbl]
    exact VB.new w0 _ _ 65664 (by simp [size_madeCells]) _ (fun j hj => made_node j hj)
  have HK1 : Hid (But [] w0 (w0.alloc (.cells (madeCells (nc nd0).toArray (64 * 1026)) 46))) := (But.refl [] w0).alloc _
  have HS1 : Hid ((w0.alloc (.cells (madeCells (nc nd0).toArray (64 * 1026)) 46)).heap.size = bl + 1) := by show _ = _; rw [hbl]; simp
  go_upto_region 2 with fail
  have HX : Hid (∀ j, j < 2 → True) := fun _ _ => trivial
  rw [← hbl]
  obtain ⟨w1, hw1⟩ : ∃ w1, w1 = w0.alloc (.cells (madeCells (nc nd0).toArray (64 * 1026)) 46) := ⟨_, rfl⟩
  rw [← hw1] at HV HK1 HS1 ⊢
  have hn2 := new_range w1 [.slice (some ⟨bl, 0, none⟩) 64 64, .int .u64 1] 49
  rw [HS1.out] at hn2
  have hf2 := there_new w1 #[.slice (some ⟨bl, 0, none⟩) 64 64, .int .u64 1] 49 2 rfl
  rw [HS1.out] at hf2
  have hk2 : But [] w1 (w1.alloc (.cells #[.slice (some ⟨bl, 0, none⟩) 64 64, .int .u64 1] 49)) := (But.refl [] w1).alloc _
  have HF2 : Hid (RfAt (w1.alloc (.cells #[.slice (some ⟨bl, 0, none⟩) 64 64, .int .u64 1] 49)) (bl + 1) bl (fun _ => nd0) 1) :=
    ⟨by omega, range_cells hn2 0 _ rfl, range_cells hn2 1 _ rfl, there_cell2 hf2, HV.out.keep hk2 (by simp)⟩
  have HK2 := hid hk2
  have HBL : Hid (bl = w0.heap.size) := hbl
  clear hn2 hf2 hk2 hw1 HX hbl
  generalize w1.alloc (.cells #[.slice (some ⟨bl, 0, none⟩) 64 64, .int .u64 1] 49) = w2 at *
  have hS0 : w2.drew.rangeAt B 0 (bv st) ∧ w2.drew.cell? ⟨bl + 1, 0, none⟩ = some (.slice (some ⟨bl, 0, none⟩) 64 64) ∧ w2.drew.there bl 0 1026 ∧ But [] w2 w2.drew :=
    ⟨range_keep HR.out ((HK1.out.trans HK2.out).drew) (by simp), HF2.out.c0, by have := HF2.out.th (p := 0) (by omega); rw [Nat.zero_mul] at this; exact this, (But.refl [] w2).drew⟩
  refine wp_region_noPanic ?_
  refine till_begin (fun w' => w'.rangeAt B 0 (bv st) ∧ w'.cell? ⟨bl + 1, 0, none⟩ = some (.slice (some ⟨bl, 0, none⟩) 64 64) ∧ w'.there bl 0 1026 ∧ But [] w2 w') 7 (by kernel_rfl) ?_
  refine till_take 0 (some 7) (.pointer (some ⟨bl + 1, 0, none⟩)) rfl rfl (by kernel_rfl) (by kernel_rfl) (by kernel_rfl) (by kernel_rfl) (by decide) (fun _ _ _ h => h) (Or.inl ⟨by rfl, fun w' hw' => by go_simp⟩) hS0 ?_
  simp only [Act.put, List.setIfInBounds_toArray, List.set_cons_zero, List.set_cons_succ]
  refine till_take 1 (some 8) (.pointer (some ⟨bl + 1, 0, none⟩)) rfl rfl (by kernel_rfl) (by kernel_rfl) (by kernel_rfl) (by kernel_rfl) (by decide) (fun _ _ _ h => h) (Or.inl ⟨by rfl, fun w' hw' => by go_simp⟩) hS0 ?_
  simp only [Act.put, List.setIfInBounds_toArray, List.set_cons_zero, List.set_cons_succ]
  refine till_take 2 (some 9) (.pointer (some ⟨bl + 1, 0, none⟩)) rfl rfl (by kernel_rfl) (by kernel_rfl) (by kernel_rfl) (by kernel_rfl) (by decide) (fun _ _ _ h => h) (Or.inl ⟨by rfl, fun w' hw' => by go_simp⟩) hS0 ?_
  simp only [Act.put, List.setIfInBounds_toArray, List.set_cons_zero, List.set_cons_succ]
  refine till_take 3 (some 10) (.slice (some ⟨bl, 0, none⟩) 64 64) rfl rfl (by kernel_rfl) (by kernel_rfl) (by kernel_rfl) (by kernel_rfl) (by decide) (fun _ _ _ h => h) (Or.inl ⟨by rfl, fun w' hw' => by obtain ⟨-, hw1, -⟩ := hw'; go_simp⟩) hS0 ?_
  simp only [Act.put, List.setIfInBounds_toArray, List.set_cons_zero, List.set_cons_succ]
  refine till_take 4 (some 11) (.agg (bv st).toArray) rfl rfl (by kernel_rfl) (by kernel_rfl) (by kernel_rfl) (by kernel_rfl) (by decide) (fun _ _ _ h => h) (yieldsIf_load_mid (by rfl) _ _ rfl B 0 rfl (bv st) _ (fun w' h => h.1) Try.underlying36 rfl (iSet st)) hS0 ?_
  simp only [Act.put, List.setIfInBounds_toArray, List.set_cons_zero, List.set_cons_succ]
  refine till_take 5 (some 12) (.agg (nc ⟨1, -1, st⟩).toArray) rfl rfl (by kernel_rfl) (by kernel_rfl) (by kernel_rfl) (by kernel_rfl) (by decide) (fun _ _ _ h => h) (yieldsIf_build (by rfl) 46 [(0, .const (.int .u64 1)), (1, .const (.int .i64 (-1))), (2, .tmp 11)] rfl (nc ⟨1, -1, st⟩).toArray [(0, .int .u64 (1 : Nat)), (1, .int .i64 (-1)), (2, .agg (bv st).toArray)] rfl (builtNode 1 (-1) st)) hS0 ?_
  simp only [Act.put, List.setIfInBounds_toArray, List.set_cons_zero, List.set_cons_succ]
  refine till_take 6 (some 13) (.pointer (some ⟨bl, 0, none⟩)) rfl rfl (by kernel_rfl) (by kernel_rfl) (by kernel_rfl) (by kernel_rfl) (by decide) (fun _ _ _ h => h) (Or.inl ⟨by rfl, fun w' hw' => by go_simp⟩) hS0 ?_
  simp only [Act.put, List.setIfInBounds_toArray, List.set_cons_zero, List.set_cons_succ]
  refine till_one' 7 rfl (by kernel_rfl) (by rfl) (fun K hK => ?_)
  refine wp_store_mid _ _ _ rfl bl 0 (nc ⟨1, -1, st⟩).toArray rfl rfl (by rw [ncs]; exact hS0.2.2.1) (iNode' _) (nc_all _) ?_
  refine hK.out _ _ ⟨fun h => absurd rfl h, ?_⟩
  clear hK K
  refine till_done (by kernel_rfl) ?_ _
  refine NoPanic.normal ?_
  have hk7 : But [bl] w2.drew (w2.drew.setCells bl 0 (nc ⟨1, -1, st⟩)) := (But.refl [bl] _).setCells (by simp) _ _
  have hF7 := (HF2.out.keep0 (But.refl [] w2).drew).put (p := 0) (by omega) ⟨1, -1, st⟩
  rw [Nat.zero_mul] at hF7
  have HF7 := hid hF7
  have HK7 : Hid (But [] w (w2.drew.setCells bl 0 (nc ⟨1, -1, st⟩))) := but_own ((HK0.out.trans (HK1.out.trans HK2.out)).drew) hk7 (fun i hi => by have := HS0.out; have := HBW.out; have := HBL.out; simp at hi; omega)
  clear hk7 hF7 hS0
  generalize w2.drew.setCells bl 0 (nc ⟨1, -1, st⟩) = w7 at *
  go_wp2
  go_ret
  exact ⟨bl + 1, bl, rfl, by have := HS0.out; have := HBW.out; have := HBL.out; omega, by have := HS0.out; have := HBW.out; have := HBL.out; omega, HF7.out, HK7.out⟩
end Go.Proofs.Ytlppfcoclpdanaa.Cs
