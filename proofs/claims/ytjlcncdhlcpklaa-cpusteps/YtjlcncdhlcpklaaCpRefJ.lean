/-
  Layer 6 (cpu): the document's machine: a program's box; the contract of its jump, over the translated program.
-/
import Derived.Test.YtjlcncdhlcpklaaCpRef
namespace Go.Proofs.Ytjlcncdhlcpklaa.Cp
open Go.ChangeShapes Go.WideShapes Go.ChangeAt Go.RowKit
open Fr (MemAt Blk hasW hasF) 
open Tl (En TlbAt Ens getE misE ansE en0)
set_option linter.unusedVariables false
set_option maxRecDepth 20000

/-- Block b is a program's box. -/
structure CtxAt (w : World) (b : Nat) (c : List Int) : Prop where
  vb : VB w b 17 (fun j => .int .u32 (c.getD j 0))
  len : c.length = 17
theorem CtxAt.keep {k : List Nat} {w w' : World} {b : Nat} {c : List Int} (h : CtxAt w b c) (hk : But k w w') (hn : b ∉ k) : CtxAt w' b c := ⟨h.vb.keep hk hn, h.len⟩
theorem CtxAt.lt {w : World} {b : Nat} {c : List Int} (h : CtxAt w b c) : b < w.heap.size := h.vb.lt (by omega)
theorem CtxAt.reg {w : World} {b : Nat} {c : List Int} (h : CtxAt w b c) (k : Nat) (hk : k < 17) : w.cell? ⟨b, k, none⟩ = some (.int .u32 (c.getD k 0)) := (h.vb k hk).1
theorem CtxAt.fz {w : World} {b : Nat} {c : List Int} (h : CtxAt w b c) (k : Nat) (hk : k < 17) : w.frozen? ⟨b, k, none⟩ = false := (h.vb k hk).2
theorem CtxAt.set {w : World} {b : Nat} {c : List Int} (h : CtxAt w b c) (k : Nat) (hk : k < 17) (v : Int) : CtxAt (w.setCell ⟨b, k, none⟩ (.int .u32 v)) b (c.set k v) :=
  ⟨(h.vb.set (.int .u32 v)).congr fun j hj => by
    show (if j = k then Value.int .u32 v else .int .u32 (c.getD j 0)) = .int .u32 ((c.set k v).getD j 0)
    rw [Fr.set_get _ _ _ _ (by rw [h.len]; exact hk)]
    by_cases e : j = k
    · rw [if_pos e, if_pos e]
    · rw [if_neg e, if_neg e], by rw [List.length_set]; exact h.len⟩
theorem CtxAt.range {w : World} {b : Nat} {c : List Int} (h : CtxAt w b c) : w.rangeAt b 0 (cvl c) :=
  h.vb.range (cvl c) (by rw [cvl_len, h.len]; omega) fun i hi => by rw [cvl_len] at hi; rw [cvl_get c i hi, Nat.zero_add]
theorem CtxAt.there {w : World} {b : Nat} {c : List Int} (h : CtxAt w b c) : w.there b 0 17 := VB.there h.vb (by omega)
theorem CtxAt.new (w : World) (c : List Int) (t : TypeId) (h : c.length = 17) : CtxAt (w.alloc (.cells (cvl c).toArray t)) w.heap.size c :=
  ⟨VB.new w _ t 17 (by rw [List.size_toArray, cvl_len, h]) _ fun j hj => by rw [List.getElem?_toArray]; exact cvl_get c j (by omega), h⟩
theorem CtxAt.sets {w : World} {b : Nat} (c : List Int) (h : w.there b 0 17) (hl : c.length = 17) : CtxAt (w.setCells b 0 (cvl c)) b c :=
  ⟨fun j hj => by
    have hR := World.rangeAt_setCells_same w b 0 (cvl c) (by rw [cvl_len, hl]; exact h)
    have hT := World.there_setCells h b 0 (cvl c)
    refine ⟨?_, ?_⟩
    · have := hR j _ (cvl_get c j (by omega)); rwa [Nat.zero_add] at this
    · have := (hT j hj).2; rwa [Nat.zero_add] at this, hl⟩

theorem pc4_at (c : List Int) (h : c.length = 17) : (pc4 c).getD 16 0 = (c.getD 16 0 + 4) % 4294967296 := by unfold pc4; rw [Fr.set_get _ _ _ _ (by omega), if_pos rfl]
theorem pc4_reg (c : List Int) (h : c.length = 17) (k : Nat) (hk : k < 16) : (pc4 c).getD k 0 = c.getD k 0 := by unfold pc4; rw [Fr.set_get _ _ _ _ (by omega), if_neg (by omega)]
theorem pc4_set (c : List Int) (v : Int) : (pc4 c).set 16 v = c.set 16 v := by unfold pc4; rw [List.set_set]
theorem pc4_other (c : List Int) (k : Nat) (hk : k ≠ 16) (v : Int) : (pc4 c).set k v = (c.set k v).set 16 ((c.getD 16 0 + 4) % 4294967296) := by unfold pc4; rw [List.set_comm _ _ (by omega)]
theorem jm_go (c : List Int) (i : Int) (h : c.length = 17) : (pc4 c).set 16 (jmpP (pc4 c) i true) = c.set 16 ((c.getD 16 0 + 4 * (i % 4294967296)) % 4294967296) := by
  rw [pc4_set]
  unfold jmpP
  rw [if_pos rfl, pc4_at c h]
  congr 1
  omega
theorem jm_no (c : List Int) (i : Int) (h : c.length = 17) : (pc4 c).set 16 (jmpP (pc4 c) i false) = c.set 16 ((c.getD 16 0 + 4) % 4294967296) := by
  rw [pc4_set]
  unfold jmpP
  rw [if_neg (by simp), pc4_at c h]
theorem jm_22 (c : List Int) (i : Int) (h : c.length = 17) : ((pc4 c).set 15 ((pc4 c).getD 16 0)).set 16 (jmpP ((pc4 c).set 15 ((pc4 c).getD 16 0)) i true) = (c.set 15 ((c.getD 16 0 + 4) % 4294967296)).set 16 ((c.getD 16 0 + 4 * (i % 4294967296)) % 4294967296) := by
  have e : jmpP ((pc4 c).set 15 ((pc4 c).getD 16 0)) i true = (c.getD 16 0 + 4 * (i % 4294967296)) % 4294967296 := by
    unfold jmpP
    rw [if_pos rfl, Fr.set_get _ _ _ _ (by unfold pc4; rw [List.length_set]; omega), if_neg (by omega), pc4_at c h]
    omega
  rw [e, pc4_at c h]
  unfold pc4
  rw [List.set_comm _ _ (by omega), List.set_set, List.set_comm _ _ (by omega)]

/-- Behind the three boxes of jump. -/
theorem jump_new (w : World) (c : List Int) (D : Array Value) (t t' : TypeId) (hl : c.length = 17) (hD : D.size = 4) :
    CtxAt (((w.alloc (.cells (cvl c).toArray t)).alloc (.cells D t')).alloc (.cells #[.int .u32 0, .int .u32 0, .int .u32 0, .int .u32 0, .int .u32 0, .int .u32 0, .int .u32 0, .int .u32 0, .int .u32 0, .int .u32 0, .int .u32 0, .int .u32 0, .int .u32 0, .int .u32 0, .int .u32 0, .int .u32 0, .int .u32 0] t)) w.heap.size c ∧
    (∀ j v, D[j]? = some v → (((w.alloc (.cells (cvl c).toArray t)).alloc (.cells D t')).alloc (.cells #[.int .u32 0, .int .u32 0, .int .u32 0, .int .u32 0, .int .u32 0, .int .u32 0, .int .u32 0, .int .u32 0, .int .u32 0, .int .u32 0, .int .u32 0, .int .u32 0, .int .u32 0, .int .u32 0, .int .u32 0, .int .u32 0, .int .u32 0] t)).cell? ⟨w.heap.size + 1, j, none⟩ = some v) ∧
    (((w.alloc (.cells (cvl c).toArray t)).alloc (.cells D t')).alloc (.cells #[.int .u32 0, .int .u32 0, .int .u32 0, .int .u32 0, .int .u32 0, .int .u32 0, .int .u32 0, .int .u32 0, .int .u32 0, .int .u32 0, .int .u32 0, .int .u32 0, .int .u32 0, .int .u32 0, .int .u32 0, .int .u32 0, .int .u32 0] t)).there (w.heap.size + 2) 0 17 := by
  refine ⟨(CtxAt.new w c t hl).keep (((But.refl [] _).alloc _).alloc _) (by simp), fun j v hv => ?_, ?_⟩
  · have h := new_range (w.alloc (.cells (cvl c).toArray t)) D.toList t' j v (by simpa using hv)
    rw [show (w.alloc (.cells (cvl c).toArray t)).heap.size = w.heap.size + 1 by simp, Nat.zero_add] at h
    exact cell_keep h ((But.refl [] _).alloc _) (by simp)
  · have h := there_new ((w.alloc (.cells (cvl c).toArray t)).alloc (.cells D t')) #[.int .u32 0, .int .u32 0, .int .u32 0, .int .u32 0, .int .u32 0, .int .u32 0, .int .u32 0, .int .u32 0, .int .u32 0, .int .u32 0, .int .u32 0, .int .u32 0, .int .u32 0, .int .u32 0, .int .u32 0, .int .u32 0, .int .u32 0] t 17 rfl
    rwa [show ((w.alloc (.cells (cvl c).toArray t)).alloc (.cells D t')).heap.size = w.heap.size + 2 by simp] at h
-- the cases of jump (tools/gen_crj.py)
set_option maxHeartbeats 4000000 in
theorem rj18 (a b : Nat) (i : Int) (c : List Int) (w : World) (hl : c.length = 17) (hu : U32s c) (ha : a < 16) (hb : b < 16) :
    Calls Try.prog 28 #[.agg (cvl c).toArray, .agg #[.int .i64 18, .int .i64 a, .int .i64 b, .int .i64 i]] w fun e w' => e = .returned (.agg (cvl (jmpC 18 a b i (pc4 c))).toArray) ∧ But [] w w' := by
  obtain ⟨x, hx16⟩ : ∃ x, c.getD 16 0 = x := ⟨_, rfl⟩
  have HJ : Hid (jmpC 18 a b i (pc4 c) = c.set 16 ((x + 4 * (i % 4294967296)) % 4294967296)) := by show (pc4 c).set 16 (jmpP (pc4 c) i true) = _; rw [jm_go c i hl, hx16]
  obtain ⟨hC1, hI1, hT1⟩ := jump_new w c #[.int .i64 18, .int .i64 a, .int .i64 b, .int .i64 i] 27 75 hl rfl
  have hB1 : But [] w (((w.alloc (.cells (cvl c).toArray 27)).alloc (.cells #[.int .i64 18, .int .i64 a, .int .i64 b, .int .i64 i] 75)).alloc (.cells #[.int .u32 0, .int .u32 0, .int .u32 0, .int .u32 0, .int .u32 0, .int .u32 0, .int .u32 0, .int .u32 0, .int .u32 0, .int .u32 0, .int .u32 0, .int .u32 0, .int .u32 0, .int .u32 0, .int .u32 0, .int .u32 0, .int .u32 0] 27)) := (((But.refl [] w).alloc _).alloc _).alloc _
  obtain ⟨g, hg⟩ : ∃ g, g = w.heap.size := ⟨_, rfl⟩
  obtain ⟨p, hp⟩ : ∃ p, c.getD a 0 = p := ⟨_, rfl⟩
  obtain ⟨q, hq⟩ : ∃ q, c.getD b 0 = q := ⟨_, rfl⟩
  have hup := hu a
  have huq := hu b
  have hux := hu 16
  rw [hp] at hup
  rw [hq] at huq
  rw [hx16] at hux
  have HLN : Hid (c.length = 17) := hl
  have HGS : Hid (w.heap.size ≤ g) := by show _ ≤ g; omega
  obtain ⟨hup0, hup1⟩ := hup
  obtain ⟨huq0, huq1⟩ := huq
  obtain ⟨hux0, hux1⟩ := hux
  go_enter Try.func28, Try.ntmps28
  go_upto_region 1 with fail
  rw [← hg] at hC1 hI1 hT1 ⊢
  generalize ((w.alloc (.cells (cvl c).toArray 27)).alloc (.cells #[.int .i64 18, .int .i64 a, .int .i64 b, .int .i64 i] 75)).alloc (.cells #[.int .u32 0, .int .u32 0, .int .u32 0, .int .u32 0, .int .u32 0, .int .u32 0, .int .u32 0, .int .u32 0, .int .u32 0, .int .u32 0, .int .u32 0, .int .u32 0, .int .u32 0, .int .u32 0, .int .u32 0, .int .u32 0, .int .u32 0] 27) = w1 at hC1 hI1 hT1 hB1 ⊢
  have i0 : w1.cell? ⟨g + 1, 0, none⟩ = some (.int .i64 18) := hI1 0 _ rfl
  have i1 : w1.cell? ⟨g + 1, 1, none⟩ = some (.int .i64 a) := hI1 1 _ rfl
  have i2 : w1.cell? ⟨g + 1, 2, none⟩ = some (.int .i64 b) := hI1 2 _ rfl
  have i3 : w1.cell? ⟨g + 1, 3, none⟩ = some (.int .i64 i) := hI1 3 _ rfl
  have ra : w1.cell? ⟨g, a, none⟩ = some (.int .u32 p) := by rw [← hp]; exact hC1.reg a (by omega)
  have rb : w1.cell? ⟨g, b, none⟩ = some (.int .u32 q) := by rw [← hq]; exact hC1.reg b (by omega)
  have HC : Hid (∀ k, CtxAt (w1.drewN k) g c) := fun k => hC1.keep ((But.refl [] w1).drewN k) (by simp)
  have HT : Hid (∀ k, (w1.drewN k).there (g + 2) 0 17) := fun k => there_keep hT1 ((But.refl [] w1).drewN k) (by simp)
  have HB : Hid (∀ k, But [] w (w1.drewN k)) := fun k => hB1.drewN k
  have HX : Hid (c.getD 16 0 = x) := hx16
  have HIS : Hid (∀ k, (w1.drewN k).cell? ⟨g + 1, 0, none⟩ = some (.int .i64 18) ∧ (w1.drewN k).cell? ⟨g + 1, 3, none⟩ = some (.int .i64 i)) := fun k => ⟨cell_keep i0 ((But.refl [] w1).drewN k) (by simp), cell_keep i3 ((But.refl [] w1).drewN k) (by simp)⟩
  have ha16 : (a : Int) < 16 := by omega
  have ha0 : (0 : Int) ≤ (a : Int) := by omega
  have hb16 : (b : Int) < 16 := by omega
  have hb0 : (0 : Int) ≤ (b : Int) := by omega
  clear hC1 hI1 hT1 hB1 hg hp hq hx16 hl hu
  go_wp2
  go_quiet (fail)
  have HC2 : Hid (CtxAt (w1.drewN nq) g c) := HC.out _
  have HT2 : Hid ((w1.drewN nq).there (g + 2) 0 17) := HT.out _
  have HB2 : Hid (But [] w (w1.drewN nq)) := HB.out _
  obtain ⟨j0, j3⟩ := HIS.out nq
  generalize w1.drewN nq = w2 at HC2 HT2 HB2 j0 j3 ⊢
  clear HC HT HB HIS i0 i1 i2 i3 ra rb
  have hpc : w2.cell? ⟨g, 16, none⟩ = some (.int .u32 x) := by rw [← HX.out]; exact HC2.out.reg 16 (by omega)
  have hz6 : w2.frozen? ⟨g, 16, none⟩ = false := HC2.out.fz 16 (by omega)
  go_upto_region 10 with fail
  have hC3 := HC2.out.set 16 (by omega) ((x + 4 * (i % 4294967296)) % 4294967296)
  have k3 : But [g] w2 (w2.setCell ⟨g, 16, none⟩ (.int .u32 ((x + 4 * (i % 4294967296)) % 4294967296))) := (But.refl [g] w2).setCell (by simp) _
  generalize w2.setCell ⟨g, 16, none⟩ (.int .u32 ((x + 4 * (i % 4294967296)) % 4294967296)) = w3 at hC3 k3 ⊢
  rw [← HJ.out] at hC3
  obtain ⟨c', hcc⟩ : ∃ c', jmpC 18 a b i (pc4 c) = c' := ⟨_, rfl⟩
  rw [hcc] at hC3
  have HCC : Hid (jmpC 18 a b i (pc4 c) = c') := hcc
  clear hcc
  have HC3 : Hid (CtxAt w3 g c') := hC3
  have HI : Hid ((Try.prog.info? 27).map (·.size) = some (cvl c').toArray.size) := by show _ = _; rw [List.size_toArray]; exact cvl_info c' hC3.len
  have HT3 : Hid (w3.there (g + 2) 0 (cvl c').toArray.size) := by show World.there _ _ _ _; rw [List.size_toArray, cvl_len, hC3.len]; exact there_keep HT2.out k3 (by simp)
  have HB3 : Hid (But [] w w3) := but_fresh HB2.out k3 (by have := HGS.out; simp; omega)
  clear hC3 k3 hpc hz6 HJ
  go_wp2_with (first
    | (refine wpList_load_mid rfl 27 _ rfl g 0 rfl (cvl c') _ HC3.out.range Try.underlying27 rfl (cvl_info c' HC3.out.len) ?_)
    | (refine wpList_store_mid rfl 27 _ _ rfl (g + 2) 0 (cvl c').toArray rfl rfl ?ht HI.out (all_oneCell_toArray (cvl_one c')) ?_; case ht => exact HT3.out))
  refine bodyPost_ret (results_range1 rfl _ _ (g + 2) 0 (cvl c') _ rfl (World.rangeAt_setCells_same _ _ _ _ (by have := HT3.out; rwa [List.size_toArray] at this)) Try.underlying27 rfl (cvl_info c' HC3.out.len)) rfl ?_
  exact ⟨by rw [HCC.out], HB3.out.setCells (.inr (by have := HGS.out; omega)) _ _⟩
set_option maxHeartbeats 4000000 in
theorem rj19y (a b : Nat) (i : Int) (c : List Int) (w : World) (hl : c.length = 17) (hu : U32s c) (ha : a < 16) (hb : b < 16) (hx : c.getD a 0 = 0) :
    Calls Try.prog 28 #[.agg (cvl c).toArray, .agg #[.int .i64 19, .int .i64 a, .int .i64 b, .int .i64 i]] w fun e w' => e = .returned (.agg (cvl (jmpC 19 a b i (pc4 c))).toArray) ∧ But [] w w' := by
  obtain ⟨x, hx16⟩ : ∃ x, c.getD 16 0 = x := ⟨_, rfl⟩
  have HJ : Hid (jmpC 19 a b i (pc4 c) = c.set 16 ((x + 4 * (i % 4294967296)) % 4294967296)) := by show (pc4 c).set 16 (jmpP (pc4 c) i ((pc4 c).getD a 0 == 0)) = _; rw [pc4_reg c hl a ha, hx, show ((0 : Int) == 0) = true from rfl, jm_go c i hl, hx16]
  obtain ⟨hC1, hI1, hT1⟩ := jump_new w c #[.int .i64 19, .int .i64 a, .int .i64 b, .int .i64 i] 27 75 hl rfl
  have hB1 : But [] w (((w.alloc (.cells (cvl c).toArray 27)).alloc (.cells #[.int .i64 19, .int .i64 a, .int .i64 b, .int .i64 i] 75)).alloc (.cells #[.int .u32 0, .int .u32 0, .int .u32 0, .int .u32 0, .int .u32 0, .int .u32 0, .int .u32 0, .int .u32 0, .int .u32 0, .int .u32 0, .int .u32 0, .int .u32 0, .int .u32 0, .int .u32 0, .int .u32 0, .int .u32 0, .int .u32 0] 27)) := (((But.refl [] w).alloc _).alloc _).alloc _
  obtain ⟨g, hg⟩ : ∃ g, g = w.heap.size := ⟨_, rfl⟩
  obtain ⟨p, hp⟩ : ∃ p, c.getD a 0 = p := ⟨_, rfl⟩
  obtain ⟨q, hq⟩ : ∃ q, c.getD b 0 = q := ⟨_, rfl⟩
  have hup := hu a
  have huq := hu b
  have hux := hu 16
  rw [hp] at hx hup
  rw [hq] at huq
  rw [hx16] at hux
  have HLN : Hid (c.length = 17) := hl
  have HGS : Hid (w.heap.size ≤ g) := by show _ ≤ g; omega
  obtain ⟨hup0, hup1⟩ := hup
  obtain ⟨huq0, huq1⟩ := huq
  obtain ⟨hux0, hux1⟩ := hux
  go_enter Try.func28, Try.ntmps28
  go_upto_region 1 with fail
  rw [← hg] at hC1 hI1 hT1 ⊢
  generalize ((w.alloc (.cells (cvl c).toArray 27)).alloc (.cells #[.int .i64 19, .int .i64 a, .int .i64 b, .int .i64 i] 75)).alloc (.cells #[.int .u32 0, .int .u32 0, .int .u32 0, .int .u32 0, .int .u32 0, .int .u32 0, .int .u32 0, .int .u32 0, .int .u32 0, .int .u32 0, .int .u32 0, .int .u32 0, .int .u32 0, .int .u32 0, .int .u32 0, .int .u32 0, .int .u32 0] 27) = w1 at hC1 hI1 hT1 hB1 ⊢
  have i0 : w1.cell? ⟨g + 1, 0, none⟩ = some (.int .i64 19) := hI1 0 _ rfl
  have i1 : w1.cell? ⟨g + 1, 1, none⟩ = some (.int .i64 a) := hI1 1 _ rfl
  have i2 : w1.cell? ⟨g + 1, 2, none⟩ = some (.int .i64 b) := hI1 2 _ rfl
  have i3 : w1.cell? ⟨g + 1, 3, none⟩ = some (.int .i64 i) := hI1 3 _ rfl
  have ra : w1.cell? ⟨g, a, none⟩ = some (.int .u32 p) := by rw [← hp]; exact hC1.reg a (by omega)
  have rb : w1.cell? ⟨g, b, none⟩ = some (.int .u32 q) := by rw [← hq]; exact hC1.reg b (by omega)
  have HC : Hid (∀ k, CtxAt (w1.drewN k) g c) := fun k => hC1.keep ((But.refl [] w1).drewN k) (by simp)
  have HT : Hid (∀ k, (w1.drewN k).there (g + 2) 0 17) := fun k => there_keep hT1 ((But.refl [] w1).drewN k) (by simp)
  have HB : Hid (∀ k, But [] w (w1.drewN k)) := fun k => hB1.drewN k
  have HX : Hid (c.getD 16 0 = x) := hx16
  have HIS : Hid (∀ k, (w1.drewN k).cell? ⟨g + 1, 0, none⟩ = some (.int .i64 19) ∧ (w1.drewN k).cell? ⟨g + 1, 3, none⟩ = some (.int .i64 i)) := fun k => ⟨cell_keep i0 ((But.refl [] w1).drewN k) (by simp), cell_keep i3 ((But.refl [] w1).drewN k) (by simp)⟩
  have ha16 : (a : Int) < 16 := by omega
  have ha0 : (0 : Int) ≤ (a : Int) := by omega
  have hb16 : (b : Int) < 16 := by omega
  have hb0 : (0 : Int) ≤ (b : Int) := by omega
  clear hC1 hI1 hT1 hB1 hg hp hq hx16 hl hu
  subst hx
  go_wp2
  go_quiet (fail)
  have HC2 : Hid (CtxAt (w1.drewN nq) g c) := HC.out _
  have HT2 : Hid ((w1.drewN nq).there (g + 2) 0 17) := HT.out _
  have HB2 : Hid (But [] w (w1.drewN nq)) := HB.out _
  obtain ⟨j0, j3⟩ := HIS.out nq
  generalize w1.drewN nq = w2 at HC2 HT2 HB2 j0 j3 ⊢
  clear HC HT HB HIS i0 i1 i2 i3 ra rb
  have hpc : w2.cell? ⟨g, 16, none⟩ = some (.int .u32 x) := by rw [← HX.out]; exact HC2.out.reg 16 (by omega)
  have hz6 : w2.frozen? ⟨g, 16, none⟩ = false := HC2.out.fz 16 (by omega)
  go_upto_region 10 with fail
  have hC3 := HC2.out.set 16 (by omega) ((x + 4 * (i % 4294967296)) % 4294967296)
  have k3 : But [g] w2 (w2.setCell ⟨g, 16, none⟩ (.int .u32 ((x + 4 * (i % 4294967296)) % 4294967296))) := (But.refl [g] w2).setCell (by simp) _
  generalize w2.setCell ⟨g, 16, none⟩ (.int .u32 ((x + 4 * (i % 4294967296)) % 4294967296)) = w3 at hC3 k3 ⊢
  rw [← HJ.out] at hC3
  obtain ⟨c', hcc⟩ : ∃ c', jmpC 19 a b i (pc4 c) = c' := ⟨_, rfl⟩
  rw [hcc] at hC3
  have HCC : Hid (jmpC 19 a b i (pc4 c) = c') := hcc
  clear hcc
  have HC3 : Hid (CtxAt w3 g c') := hC3
  have HI : Hid ((Try.prog.info? 27).map (·.size) = some (cvl c').toArray.size) := by show _ = _; rw [List.size_toArray]; exact cvl_info c' hC3.len
  have HT3 : Hid (w3.there (g + 2) 0 (cvl c').toArray.size) := by show World.there _ _ _ _; rw [List.size_toArray, cvl_len, hC3.len]; exact there_keep HT2.out k3 (by simp)
  have HB3 : Hid (But [] w w3) := but_fresh HB2.out k3 (by have := HGS.out; simp; omega)
  clear hC3 k3 hpc hz6 HJ
  go_wp2_with (first
    | (refine wpList_load_mid rfl 27 _ rfl g 0 rfl (cvl c') _ HC3.out.range Try.underlying27 rfl (cvl_info c' HC3.out.len) ?_)
    | (refine wpList_store_mid rfl 27 _ _ rfl (g + 2) 0 (cvl c').toArray rfl rfl ?ht HI.out (all_oneCell_toArray (cvl_one c')) ?_; case ht => exact HT3.out))
  refine bodyPost_ret (results_range1 rfl _ _ (g + 2) 0 (cvl c') _ rfl (World.rangeAt_setCells_same _ _ _ _ (by have := HT3.out; rwa [List.size_toArray] at this)) Try.underlying27 rfl (cvl_info c' HC3.out.len)) rfl ?_
  exact ⟨by rw [HCC.out], HB3.out.setCells (.inr (by have := HGS.out; omega)) _ _⟩
set_option maxHeartbeats 4000000 in
theorem rj19n (a b : Nat) (i : Int) (c : List Int) (w : World) (hl : c.length = 17) (hu : U32s c) (ha : a < 16) (hb : b < 16) (hx : ¬ c.getD a 0 = 0) :
    Calls Try.prog 28 #[.agg (cvl c).toArray, .agg #[.int .i64 19, .int .i64 a, .int .i64 b, .int .i64 i]] w fun e w' => e = .returned (.agg (cvl (jmpC 19 a b i (pc4 c))).toArray) ∧ But [] w w' := by
  obtain ⟨x, hx16⟩ : ∃ x, c.getD 16 0 = x := ⟨_, rfl⟩
  have HJ : Hid (jmpC 19 a b i (pc4 c) = c.set 16 ((x + 4) % 4294967296)) := by show (pc4 c).set 16 (jmpP (pc4 c) i ((pc4 c).getD a 0 == 0)) = _; rw [pc4_reg c hl a ha, beq_false_of_ne hx, jm_no c i hl, hx16]
  obtain ⟨hC1, hI1, hT1⟩ := jump_new w c #[.int .i64 19, .int .i64 a, .int .i64 b, .int .i64 i] 27 75 hl rfl
  have hB1 : But [] w (((w.alloc (.cells (cvl c).toArray 27)).alloc (.cells #[.int .i64 19, .int .i64 a, .int .i64 b, .int .i64 i] 75)).alloc (.cells #[.int .u32 0, .int .u32 0, .int .u32 0, .int .u32 0, .int .u32 0, .int .u32 0, .int .u32 0, .int .u32 0, .int .u32 0, .int .u32 0, .int .u32 0, .int .u32 0, .int .u32 0, .int .u32 0, .int .u32 0, .int .u32 0, .int .u32 0] 27)) := (((But.refl [] w).alloc _).alloc _).alloc _
  obtain ⟨g, hg⟩ : ∃ g, g = w.heap.size := ⟨_, rfl⟩
  obtain ⟨p, hp⟩ : ∃ p, c.getD a 0 = p := ⟨_, rfl⟩
  obtain ⟨q, hq⟩ : ∃ q, c.getD b 0 = q := ⟨_, rfl⟩
  have hup := hu a
  have huq := hu b
  have hux := hu 16
  rw [hp] at hx hup
  rw [hq] at huq
  rw [hx16] at hux
  have HLN : Hid (c.length = 17) := hl
  have HGS : Hid (w.heap.size ≤ g) := by show _ ≤ g; omega
  obtain ⟨hup0, hup1⟩ := hup
  obtain ⟨huq0, huq1⟩ := huq
  obtain ⟨hux0, hux1⟩ := hux
  go_enter Try.func28, Try.ntmps28
  go_upto_region 1 with fail
  rw [← hg] at hC1 hI1 hT1 ⊢
  generalize ((w.alloc (.cells (cvl c).toArray 27)).alloc (.cells #[.int .i64 19, .int .i64 a, .int .i64 b, .int .i64 i] 75)).alloc (.cells #[.int .u32 0, .int .u32 0, .int .u32 0, .int .u32 0, .int .u32 0, .int .u32 0, .int .u32 0, .int .u32 0, .int .u32 0, .int .u32 0, .int .u32 0, .int .u32 0, .int .u32 0, .int .u32 0, .int .u32 0, .int .u32 0, .int .u32 0] 27) = w1 at hC1 hI1 hT1 hB1 ⊢
  have i0 : w1.cell? ⟨g + 1, 0, none⟩ = some (.int .i64 19) := hI1 0 _ rfl
  have i1 : w1.cell? ⟨g + 1, 1, none⟩ = some (.int .i64 a) := hI1 1 _ rfl
  have i2 : w1.cell? ⟨g + 1, 2, none⟩ = some (.int .i64 b) := hI1 2 _ rfl
  have i3 : w1.cell? ⟨g + 1, 3, none⟩ = some (.int .i64 i) := hI1 3 _ rfl
  have ra : w1.cell? ⟨g, a, none⟩ = some (.int .u32 p) := by rw [← hp]; exact hC1.reg a (by omega)
  have rb : w1.cell? ⟨g, b, none⟩ = some (.int .u32 q) := by rw [← hq]; exact hC1.reg b (by omega)
  have HC : Hid (∀ k, CtxAt (w1.drewN k) g c) := fun k => hC1.keep ((But.refl [] w1).drewN k) (by simp)
  have HT : Hid (∀ k, (w1.drewN k).there (g + 2) 0 17) := fun k => there_keep hT1 ((But.refl [] w1).drewN k) (by simp)
  have HB : Hid (∀ k, But [] w (w1.drewN k)) := fun k => hB1.drewN k
  have HX : Hid (c.getD 16 0 = x) := hx16
  have HIS : Hid (∀ k, (w1.drewN k).cell? ⟨g + 1, 0, none⟩ = some (.int .i64 19) ∧ (w1.drewN k).cell? ⟨g + 1, 3, none⟩ = some (.int .i64 i)) := fun k => ⟨cell_keep i0 ((But.refl [] w1).drewN k) (by simp), cell_keep i3 ((But.refl [] w1).drewN k) (by simp)⟩
  have ha16 : (a : Int) < 16 := by omega
  have ha0 : (0 : Int) ≤ (a : Int) := by omega
  have hb16 : (b : Int) < 16 := by omega
  have hb0 : (0 : Int) ≤ (b : Int) := by omega
  clear hC1 hI1 hT1 hB1 hg hp hq hx16 hl hu
  have hxb : (p == 0) = false := beq_false_of_ne hx
  go_wp2
  go_quiet (fail)
  have HC2 : Hid (CtxAt (w1.drewN nq) g c) := HC.out _
  have HT2 : Hid ((w1.drewN nq).there (g + 2) 0 17) := HT.out _
  have HB2 : Hid (But [] w (w1.drewN nq)) := HB.out _
  obtain ⟨j0, j3⟩ := HIS.out nq
  generalize w1.drewN nq = w2 at HC2 HT2 HB2 j0 j3 ⊢
  clear HC HT HB HIS i0 i1 i2 i3 ra rb
  have hpc : w2.cell? ⟨g, 16, none⟩ = some (.int .u32 x) := by rw [← HX.out]; exact HC2.out.reg 16 (by omega)
  have hz6 : w2.frozen? ⟨g, 16, none⟩ = false := HC2.out.fz 16 (by omega)
  go_upto_region 10 with fail
  have hC3 := HC2.out.set 16 (by omega) ((x + 4) % 4294967296)
  have k3 : But [g] w2 (w2.setCell ⟨g, 16, none⟩ (.int .u32 ((x + 4) % 4294967296))) := (But.refl [g] w2).setCell (by simp) _
  generalize w2.setCell ⟨g, 16, none⟩ (.int .u32 ((x + 4) % 4294967296)) = w3 at hC3 k3 ⊢
  rw [← HJ.out] at hC3
  obtain ⟨c', hcc⟩ : ∃ c', jmpC 19 a b i (pc4 c) = c' := ⟨_, rfl⟩
  rw [hcc] at hC3
  have HCC : Hid (jmpC 19 a b i (pc4 c) = c') := hcc
  clear hcc
  have HC3 : Hid (CtxAt w3 g c') := hC3
  have HI : Hid ((Try.prog.info? 27).map (·.size) = some (cvl c').toArray.size) := by show _ = _; rw [List.size_toArray]; exact cvl_info c' hC3.len
  have HT3 : Hid (w3.there (g + 2) 0 (cvl c').toArray.size) := by show World.there _ _ _ _; rw [List.size_toArray, cvl_len, hC3.len]; exact there_keep HT2.out k3 (by simp)
  have HB3 : Hid (But [] w w3) := but_fresh HB2.out k3 (by have := HGS.out; simp; omega)
  clear hC3 k3 hpc hz6 HJ
  go_wp2_with (first
    | (refine wpList_load_mid rfl 27 _ rfl g 0 rfl (cvl c') _ HC3.out.range Try.underlying27 rfl (cvl_info c' HC3.out.len) ?_)
    | (refine wpList_store_mid rfl 27 _ _ rfl (g + 2) 0 (cvl c').toArray rfl rfl ?ht HI.out (all_oneCell_toArray (cvl_one c')) ?_; case ht => exact HT3.out))
  refine bodyPost_ret (results_range1 rfl _ _ (g + 2) 0 (cvl c') _ rfl (World.rangeAt_setCells_same _ _ _ _ (by have := HT3.out; rwa [List.size_toArray] at this)) Try.underlying27 rfl (cvl_info c' HC3.out.len)) rfl ?_
  exact ⟨by rw [HCC.out], HB3.out.setCells (.inr (by have := HGS.out; omega)) _ _⟩
set_option maxHeartbeats 4000000 in
theorem rj20y (a b : Nat) (i : Int) (c : List Int) (w : World) (hl : c.length = 17) (hu : U32s c) (ha : a < 16) (hb : b < 16) (hx : ¬ c.getD a 0 = 0) :
    Calls Try.prog 28 #[.agg (cvl c).toArray, .agg #[.int .i64 20, .int .i64 a, .int .i64 b, .int .i64 i]] w fun e w' => e = .returned (.agg (cvl (jmpC 20 a b i (pc4 c))).toArray) ∧ But [] w w' := by
  obtain ⟨x, hx16⟩ : ∃ x, c.getD 16 0 = x := ⟨_, rfl⟩
  have HJ : Hid (jmpC 20 a b i (pc4 c) = c.set 16 ((x + 4 * (i % 4294967296)) % 4294967296)) := by show (pc4 c).set 16 (jmpP (pc4 c) i ((pc4 c).getD a 0 != 0)) = _; rw [pc4_reg c hl a ha, bne_iff_ne.2 hx, jm_go c i hl, hx16]
  obtain ⟨hC1, hI1, hT1⟩ := jump_new w c #[.int .i64 20, .int .i64 a, .int .i64 b, .int .i64 i] 27 75 hl rfl
  have hB1 : But [] w (((w.alloc (.cells (cvl c).toArray 27)).alloc (.cells #[.int .i64 20, .int .i64 a, .int .i64 b, .int .i64 i] 75)).alloc (.cells #[.int .u32 0, .int .u32 0, .int .u32 0, .int .u32 0, .int .u32 0, .int .u32 0, .int .u32 0, .int .u32 0, .int .u32 0, .int .u32 0, .int .u32 0, .int .u32 0, .int .u32 0, .int .u32 0, .int .u32 0, .int .u32 0, .int .u32 0] 27)) := (((But.refl [] w).alloc _).alloc _).alloc _
  obtain ⟨g, hg⟩ : ∃ g, g = w.heap.size := ⟨_, rfl⟩
  obtain ⟨p, hp⟩ : ∃ p, c.getD a 0 = p := ⟨_, rfl⟩
  obtain ⟨q, hq⟩ : ∃ q, c.getD b 0 = q := ⟨_, rfl⟩
  have hup := hu a
  have huq := hu b
  have hux := hu 16
  rw [hp] at hx hup
  rw [hq] at huq
  rw [hx16] at hux
  have HLN : Hid (c.length = 17) := hl
  have HGS : Hid (w.heap.size ≤ g) := by show _ ≤ g; omega
  obtain ⟨hup0, hup1⟩ := hup
  obtain ⟨huq0, huq1⟩ := huq
  obtain ⟨hux0, hux1⟩ := hux
  go_enter Try.func28, Try.ntmps28
  go_upto_region 1 with fail
  rw [← hg] at hC1 hI1 hT1 ⊢
  generalize ((w.alloc (.cells (cvl c).toArray 27)).alloc (.cells #[.int .i64 20, .int .i64 a, .int .i64 b, .int .i64 i] 75)).alloc (.cells #[.int .u32 0, .int .u32 0, .int .u32 0, .int .u32 0, .int .u32 0, .int .u32 0, .int .u32 0, .int .u32 0, .int .u32 0, .int .u32 0, .int .u32 0, .int .u32 0, .int .u32 0, .int .u32 0, .int .u32 0, .int .u32 0, .int .u32 0] 27) = w1 at hC1 hI1 hT1 hB1 ⊢
  have i0 : w1.cell? ⟨g + 1, 0, none⟩ = some (.int .i64 20) := hI1 0 _ rfl
  have i1 : w1.cell? ⟨g + 1, 1, none⟩ = some (.int .i64 a) := hI1 1 _ rfl
  have i2 : w1.cell? ⟨g + 1, 2, none⟩ = some (.int .i64 b) := hI1 2 _ rfl
  have i3 : w1.cell? ⟨g + 1, 3, none⟩ = some (.int .i64 i) := hI1 3 _ rfl
  have ra : w1.cell? ⟨g, a, none⟩ = some (.int .u32 p) := by rw [← hp]; exact hC1.reg a (by omega)
  have rb : w1.cell? ⟨g, b, none⟩ = some (.int .u32 q) := by rw [← hq]; exact hC1.reg b (by omega)
  have HC : Hid (∀ k, CtxAt (w1.drewN k) g c) := fun k => hC1.keep ((But.refl [] w1).drewN k) (by simp)
  have HT : Hid (∀ k, (w1.drewN k).there (g + 2) 0 17) := fun k => there_keep hT1 ((But.refl [] w1).drewN k) (by simp)
  have HB : Hid (∀ k, But [] w (w1.drewN k)) := fun k => hB1.drewN k
  have HX : Hid (c.getD 16 0 = x) := hx16
  have HIS : Hid (∀ k, (w1.drewN k).cell? ⟨g + 1, 0, none⟩ = some (.int .i64 20) ∧ (w1.drewN k).cell? ⟨g + 1, 3, none⟩ = some (.int .i64 i)) := fun k => ⟨cell_keep i0 ((But.refl [] w1).drewN k) (by simp), cell_keep i3 ((But.refl [] w1).drewN k) (by simp)⟩
  have ha16 : (a : Int) < 16 := by omega
  have ha0 : (0 : Int) ≤ (a : Int) := by omega
  have hb16 : (b : Int) < 16 := by omega
  have hb0 : (0 : Int) ≤ (b : Int) := by omega
  clear hC1 hI1 hT1 hB1 hg hp hq hx16 hl hu
  have hxb : (p != 0) = true := bne_iff_ne.2 hx
  go_wp2
  go_quiet (fail)
  have HC2 : Hid (CtxAt (w1.drewN nq) g c) := HC.out _
  have HT2 : Hid ((w1.drewN nq).there (g + 2) 0 17) := HT.out _
  have HB2 : Hid (But [] w (w1.drewN nq)) := HB.out _
  obtain ⟨j0, j3⟩ := HIS.out nq
  generalize w1.drewN nq = w2 at HC2 HT2 HB2 j0 j3 ⊢
  clear HC HT HB HIS i0 i1 i2 i3 ra rb
  have hpc : w2.cell? ⟨g, 16, none⟩ = some (.int .u32 x) := by rw [← HX.out]; exact HC2.out.reg 16 (by omega)
  have hz6 : w2.frozen? ⟨g, 16, none⟩ = false := HC2.out.fz 16 (by omega)
  go_upto_region 10 with fail
  have hC3 := HC2.out.set 16 (by omega) ((x + 4 * (i % 4294967296)) % 4294967296)
  have k3 : But [g] w2 (w2.setCell ⟨g, 16, none⟩ (.int .u32 ((x + 4 * (i % 4294967296)) % 4294967296))) := (But.refl [g] w2).setCell (by simp) _
  generalize w2.setCell ⟨g, 16, none⟩ (.int .u32 ((x + 4 * (i % 4294967296)) % 4294967296)) = w3 at hC3 k3 ⊢
  rw [← HJ.out] at hC3
  obtain ⟨c', hcc⟩ : ∃ c', jmpC 20 a b i (pc4 c) = c' := ⟨_, rfl⟩
  rw [hcc] at hC3
  have HCC : Hid (jmpC 20 a b i (pc4 c) = c') := hcc
  clear hcc
  have HC3 : Hid (CtxAt w3 g c') := hC3
  have HI : Hid ((Try.prog.info? 27).map (·.size) = some (cvl c').toArray.size) := by show _ = _; rw [List.size_toArray]; exact cvl_info c' hC3.len
  have HT3 : Hid (w3.there (g + 2) 0 (cvl c').toArray.size) := by show World.there _ _ _ _; rw [List.size_toArray, cvl_len, hC3.len]; exact there_keep HT2.out k3 (by simp)
  have HB3 : Hid (But [] w w3) := but_fresh HB2.out k3 (by have := HGS.out; simp; omega)
  clear hC3 k3 hpc hz6 HJ
  go_wp2_with (first
    | (refine wpList_load_mid rfl 27 _ rfl g 0 rfl (cvl c') _ HC3.out.range Try.underlying27 rfl (cvl_info c' HC3.out.len) ?_)
    | (refine wpList_store_mid rfl 27 _ _ rfl (g + 2) 0 (cvl c').toArray rfl rfl ?ht HI.out (all_oneCell_toArray (cvl_one c')) ?_; case ht => exact HT3.out))
  refine bodyPost_ret (results_range1 rfl _ _ (g + 2) 0 (cvl c') _ rfl (World.rangeAt_setCells_same _ _ _ _ (by have := HT3.out; rwa [List.size_toArray] at this)) Try.underlying27 rfl (cvl_info c' HC3.out.len)) rfl ?_
  exact ⟨by rw [HCC.out], HB3.out.setCells (.inr (by have := HGS.out; omega)) _ _⟩
set_option maxHeartbeats 4000000 in
theorem rj20n (a b : Nat) (i : Int) (c : List Int) (w : World) (hl : c.length = 17) (hu : U32s c) (ha : a < 16) (hb : b < 16) (hx : c.getD a 0 = 0) :
    Calls Try.prog 28 #[.agg (cvl c).toArray, .agg #[.int .i64 20, .int .i64 a, .int .i64 b, .int .i64 i]] w fun e w' => e = .returned (.agg (cvl (jmpC 20 a b i (pc4 c))).toArray) ∧ But [] w w' := by
  obtain ⟨x, hx16⟩ : ∃ x, c.getD 16 0 = x := ⟨_, rfl⟩
  have HJ : Hid (jmpC 20 a b i (pc4 c) = c.set 16 ((x + 4) % 4294967296)) := by show (pc4 c).set 16 (jmpP (pc4 c) i ((pc4 c).getD a 0 != 0)) = _; rw [pc4_reg c hl a ha, hx, show ((0 : Int) != 0) = false from rfl, jm_no c i hl, hx16]
  obtain ⟨hC1, hI1, hT1⟩ := jump_new w c #[.int .i64 20, .int .i64 a, .int .i64 b, .int .i64 i] 27 75 hl rfl
  have hB1 : But [] w (((w.alloc (.cells (cvl c).toArray 27)).alloc (.cells #[.int .i64 20, .int .i64 a, .int .i64 b, .int .i64 i] 75)).alloc (.cells #[.int .u32 0, .int .u32 0, .int .u32 0, .int .u32 0, .int .u32 0, .int .u32 0, .int .u32 0, .int .u32 0, .int .u32 0, .int .u32 0, .int .u32 0, .int .u32 0, .int .u32 0, .int .u32 0, .int .u32 0, .int .u32 0, .int .u32 0] 27)) := (((But.refl [] w).alloc _).alloc _).alloc _
  obtain ⟨g, hg⟩ : ∃ g, g = w.heap.size := ⟨_, rfl⟩
  obtain ⟨p, hp⟩ : ∃ p, c.getD a 0 = p := ⟨_, rfl⟩
  obtain ⟨q, hq⟩ : ∃ q, c.getD b 0 = q := ⟨_, rfl⟩
  have hup := hu a
  have huq := hu b
  have hux := hu 16
  rw [hp] at hx hup
  rw [hq] at huq
  rw [hx16] at hux
  have HLN : Hid (c.length = 17) := hl
  have HGS : Hid (w.heap.size ≤ g) := by show _ ≤ g; omega
  obtain ⟨hup0, hup1⟩ := hup
  obtain ⟨huq0, huq1⟩ := huq
  obtain ⟨hux0, hux1⟩ := hux
  go_enter Try.func28, Try.ntmps28
  go_upto_region 1 with fail
  rw [← hg] at hC1 hI1 hT1 ⊢
  generalize ((w.alloc (.cells (cvl c).toArray 27)).alloc (.cells #[.int .i64 20, .int .i64 a, .int .i64 b, .int .i64 i] 75)).alloc (.cells #[.int .u32 0, .int .u32 0, .int .u32 0, .int .u32 0, .int .u32 0, .int .u32 0, .int .u32 0, .int .u32 0, .int .u32 0, .int .u32 0, .int .u32 0, .int .u32 0, .int .u32 0, .int .u32 0, .int .u32 0, .int .u32 0, .int .u32 0] 27) = w1 at hC1 hI1 hT1 hB1 ⊢
  have i0 : w1.cell? ⟨g + 1, 0, none⟩ = some (.int .i64 20) := hI1 0 _ rfl
  have i1 : w1.cell? ⟨g + 1, 1, none⟩ = some (.int .i64 a) := hI1 1 _ rfl
  have i2 : w1.cell? ⟨g + 1, 2, none⟩ = some (.int .i64 b) := hI1 2 _ rfl
  have i3 : w1.cell? ⟨g + 1, 3, none⟩ = some (.int .i64 i) := hI1 3 _ rfl
  have ra : w1.cell? ⟨g, a, none⟩ = some (.int .u32 p) := by rw [← hp]; exact hC1.reg a (by omega)
  have rb : w1.cell? ⟨g, b, none⟩ = some (.int .u32 q) := by rw [← hq]; exact hC1.reg b (by omega)
  have HC : Hid (∀ k, CtxAt (w1.drewN k) g c) := fun k => hC1.keep ((But.refl [] w1).drewN k) (by simp)
  have HT : Hid (∀ k, (w1.drewN k).there (g + 2) 0 17) := fun k => there_keep hT1 ((But.refl [] w1).drewN k) (by simp)
  have HB : Hid (∀ k, But [] w (w1.drewN k)) := fun k => hB1.drewN k
  have HX : Hid (c.getD 16 0 = x) := hx16
  have HIS : Hid (∀ k, (w1.drewN k).cell? ⟨g + 1, 0, none⟩ = some (.int .i64 20) ∧ (w1.drewN k).cell? ⟨g + 1, 3, none⟩ = some (.int .i64 i)) := fun k => ⟨cell_keep i0 ((But.refl [] w1).drewN k) (by simp), cell_keep i3 ((But.refl [] w1).drewN k) (by simp)⟩
  have ha16 : (a : Int) < 16 := by omega
  have ha0 : (0 : Int) ≤ (a : Int) := by omega
  have hb16 : (b : Int) < 16 := by omega
  have hb0 : (0 : Int) ≤ (b : Int) := by omega
  clear hC1 hI1 hT1 hB1 hg hp hq hx16 hl hu
  subst hx
  go_wp2
  go_quiet (fail)
  have HC2 : Hid (CtxAt (w1.drewN nq) g c) := HC.out _
  have HT2 : Hid ((w1.drewN nq).there (g + 2) 0 17) := HT.out _
  have HB2 : Hid (But [] w (w1.drewN nq)) := HB.out _
  obtain ⟨j0, j3⟩ := HIS.out nq
  generalize w1.drewN nq = w2 at HC2 HT2 HB2 j0 j3 ⊢
  clear HC HT HB HIS i0 i1 i2 i3 ra rb
  have hpc : w2.cell? ⟨g, 16, none⟩ = some (.int .u32 x) := by rw [← HX.out]; exact HC2.out.reg 16 (by omega)
  have hz6 : w2.frozen? ⟨g, 16, none⟩ = false := HC2.out.fz 16 (by omega)
  go_upto_region 10 with fail
  have hC3 := HC2.out.set 16 (by omega) ((x + 4) % 4294967296)
  have k3 : But [g] w2 (w2.setCell ⟨g, 16, none⟩ (.int .u32 ((x + 4) % 4294967296))) := (But.refl [g] w2).setCell (by simp) _
  generalize w2.setCell ⟨g, 16, none⟩ (.int .u32 ((x + 4) % 4294967296)) = w3 at hC3 k3 ⊢
  rw [← HJ.out] at hC3
  obtain ⟨c', hcc⟩ : ∃ c', jmpC 20 a b i (pc4 c) = c' := ⟨_, rfl⟩
  rw [hcc] at hC3
  have HCC : Hid (jmpC 20 a b i (pc4 c) = c') := hcc
  clear hcc
  have HC3 : Hid (CtxAt w3 g c') := hC3
  have HI : Hid ((Try.prog.info? 27).map (·.size) = some (cvl c').toArray.size) := by show _ = _; rw [List.size_toArray]; exact cvl_info c' hC3.len
  have HT3 : Hid (w3.there (g + 2) 0 (cvl c').toArray.size) := by show World.there _ _ _ _; rw [List.size_toArray, cvl_len, hC3.len]; exact there_keep HT2.out k3 (by simp)
  have HB3 : Hid (But [] w w3) := but_fresh HB2.out k3 (by have := HGS.out; simp; omega)
  clear hC3 k3 hpc hz6 HJ
  go_wp2_with (first
    | (refine wpList_load_mid rfl 27 _ rfl g 0 rfl (cvl c') _ HC3.out.range Try.underlying27 rfl (cvl_info c' HC3.out.len) ?_)
    | (refine wpList_store_mid rfl 27 _ _ rfl (g + 2) 0 (cvl c').toArray rfl rfl ?ht HI.out (all_oneCell_toArray (cvl_one c')) ?_; case ht => exact HT3.out))
  refine bodyPost_ret (results_range1 rfl _ _ (g + 2) 0 (cvl c') _ rfl (World.rangeAt_setCells_same _ _ _ _ (by have := HT3.out; rwa [List.size_toArray] at this)) Try.underlying27 rfl (cvl_info c' HC3.out.len)) rfl ?_
  exact ⟨by rw [HCC.out], HB3.out.setCells (.inr (by have := HGS.out; omega)) _ _⟩
set_option maxHeartbeats 4000000 in
theorem rj21y (a b : Nat) (i : Int) (c : List Int) (w : World) (hl : c.length = 17) (hu : U32s c) (ha : a < 16) (hb : b < 16) (hx : vlu (c.getD a 0) < vlu (c.getD b 0)) :
    Calls Try.prog 28 #[.agg (cvl c).toArray, .agg #[.int .i64 21, .int .i64 a, .int .i64 b, .int .i64 i]] w fun e w' => e = .returned (.agg (cvl (jmpC 21 a b i (pc4 c))).toArray) ∧ But [] w w' := by
  obtain ⟨x, hx16⟩ : ∃ x, c.getD 16 0 = x := ⟨_, rfl⟩
  have HJ : Hid (jmpC 21 a b i (pc4 c) = c.set 16 ((x + 4 * (i % 4294967296)) % 4294967296)) := by show (pc4 c).set 16 (jmpP (pc4 c) i (decide (vlu ((pc4 c).getD a 0) < vlu ((pc4 c).getD b 0)))) = _; rw [pc4_reg c hl a ha, pc4_reg c hl b hb, decide_eq_true hx, jm_go c i hl, hx16]
  obtain ⟨hC1, hI1, hT1⟩ := jump_new w c #[.int .i64 21, .int .i64 a, .int .i64 b, .int .i64 i] 27 75 hl rfl
  have hB1 : But [] w (((w.alloc (.cells (cvl c).toArray 27)).alloc (.cells #[.int .i64 21, .int .i64 a, .int .i64 b, .int .i64 i] 75)).alloc (.cells #[.int .u32 0, .int .u32 0, .int .u32 0, .int .u32 0, .int .u32 0, .int .u32 0, .int .u32 0, .int .u32 0, .int .u32 0, .int .u32 0, .int .u32 0, .int .u32 0, .int .u32 0, .int .u32 0, .int .u32 0, .int .u32 0, .int .u32 0] 27)) := (((But.refl [] w).alloc _).alloc _).alloc _
  obtain ⟨g, hg⟩ : ∃ g, g = w.heap.size := ⟨_, rfl⟩
  obtain ⟨p, hp⟩ : ∃ p, c.getD a 0 = p := ⟨_, rfl⟩
  obtain ⟨q, hq⟩ : ∃ q, c.getD b 0 = q := ⟨_, rfl⟩
  have hup := hu a
  have huq := hu b
  have hux := hu 16
  rw [hp, hq] at hx; rw [hp] at hup
  rw [hq] at huq
  rw [hx16] at hux
  have HLN : Hid (c.length = 17) := hl
  have HGS : Hid (w.heap.size ≤ g) := by show _ ≤ g; omega
  obtain ⟨hup0, hup1⟩ := hup
  obtain ⟨huq0, huq1⟩ := huq
  obtain ⟨hux0, hux1⟩ := hux
  go_enter Try.func28, Try.ntmps28
  go_upto_region 1 with fail
  rw [← hg] at hC1 hI1 hT1 ⊢
  generalize ((w.alloc (.cells (cvl c).toArray 27)).alloc (.cells #[.int .i64 21, .int .i64 a, .int .i64 b, .int .i64 i] 75)).alloc (.cells #[.int .u32 0, .int .u32 0, .int .u32 0, .int .u32 0, .int .u32 0, .int .u32 0, .int .u32 0, .int .u32 0, .int .u32 0, .int .u32 0, .int .u32 0, .int .u32 0, .int .u32 0, .int .u32 0, .int .u32 0, .int .u32 0, .int .u32 0] 27) = w1 at hC1 hI1 hT1 hB1 ⊢
  have i0 : w1.cell? ⟨g + 1, 0, none⟩ = some (.int .i64 21) := hI1 0 _ rfl
  have i1 : w1.cell? ⟨g + 1, 1, none⟩ = some (.int .i64 a) := hI1 1 _ rfl
  have i2 : w1.cell? ⟨g + 1, 2, none⟩ = some (.int .i64 b) := hI1 2 _ rfl
  have i3 : w1.cell? ⟨g + 1, 3, none⟩ = some (.int .i64 i) := hI1 3 _ rfl
  have ra : w1.cell? ⟨g, a, none⟩ = some (.int .u32 p) := by rw [← hp]; exact hC1.reg a (by omega)
  have rb : w1.cell? ⟨g, b, none⟩ = some (.int .u32 q) := by rw [← hq]; exact hC1.reg b (by omega)
  have HC : Hid (∀ k, CtxAt (w1.drewN k) g c) := fun k => hC1.keep ((But.refl [] w1).drewN k) (by simp)
  have HT : Hid (∀ k, (w1.drewN k).there (g + 2) 0 17) := fun k => there_keep hT1 ((But.refl [] w1).drewN k) (by simp)
  have HB : Hid (∀ k, But [] w (w1.drewN k)) := fun k => hB1.drewN k
  have HX : Hid (c.getD 16 0 = x) := hx16
  have HIS : Hid (∀ k, (w1.drewN k).cell? ⟨g + 1, 0, none⟩ = some (.int .i64 21) ∧ (w1.drewN k).cell? ⟨g + 1, 3, none⟩ = some (.int .i64 i)) := fun k => ⟨cell_keep i0 ((But.refl [] w1).drewN k) (by simp), cell_keep i3 ((But.refl [] w1).drewN k) (by simp)⟩
  have ha16 : (a : Int) < 16 := by omega
  have ha0 : (0 : Int) ≤ (a : Int) := by omega
  have hb16 : (b : Int) < 16 := by omega
  have hb0 : (0 : Int) ≤ (b : Int) := by omega
  clear hC1 hI1 hT1 hB1 hg hp hq hx16 hl hu
  obtain ⟨vp, hvp⟩ : ∃ vp, vlu p = vp := ⟨_, rfl⟩
  obtain ⟨vq, hvq⟩ : ∃ vq, vlu q = vq := ⟨_, rfl⟩
  rw [hvp, hvq] at hx
  have HV1 : Hid (∀ w, Calls Try.prog 53 #[.int .u32 p] w fun e w' => e = .returned (.int .i64 vp) ∧ w = w') := fun w => by rw [← hvp]; exact Wd.val_c p w hup0 hup1
  have HV2 : Hid (∀ w, Calls Try.prog 53 #[.int .u32 q] w fun e w' => e = .returned (.int .i64 vq) ∧ w = w') := fun w => by rw [← hvq]; exact Wd.val_c q w huq0 huq1
  clear hvp hvq
  have hxb : decide (vp < vq) = true := decide_eq_true hx
  go_wp2
  go_quiet (first | (go_at_call_of 53 (Value.int .u32 p); refine quiet_same (HV1.out _)) | (go_at_call_of 53 (Value.int .u32 q); refine quiet_same (HV2.out _)))
  have HC2 : Hid (CtxAt (w1.drewN nq) g c) := HC.out _
  have HT2 : Hid ((w1.drewN nq).there (g + 2) 0 17) := HT.out _
  have HB2 : Hid (But [] w (w1.drewN nq)) := HB.out _
  obtain ⟨j0, j3⟩ := HIS.out nq
  generalize w1.drewN nq = w2 at HC2 HT2 HB2 j0 j3 ⊢
  clear HC HT HB HIS i0 i1 i2 i3 ra rb
  have hpc : w2.cell? ⟨g, 16, none⟩ = some (.int .u32 x) := by rw [← HX.out]; exact HC2.out.reg 16 (by omega)
  have hz6 : w2.frozen? ⟨g, 16, none⟩ = false := HC2.out.fz 16 (by omega)
  go_upto_region 10 with fail
  have hC3 := HC2.out.set 16 (by omega) ((x + 4 * (i % 4294967296)) % 4294967296)
  have k3 : But [g] w2 (w2.setCell ⟨g, 16, none⟩ (.int .u32 ((x + 4 * (i % 4294967296)) % 4294967296))) := (But.refl [g] w2).setCell (by simp) _
  generalize w2.setCell ⟨g, 16, none⟩ (.int .u32 ((x + 4 * (i % 4294967296)) % 4294967296)) = w3 at hC3 k3 ⊢
  rw [← HJ.out] at hC3
  obtain ⟨c', hcc⟩ : ∃ c', jmpC 21 a b i (pc4 c) = c' := ⟨_, rfl⟩
  rw [hcc] at hC3
  have HCC : Hid (jmpC 21 a b i (pc4 c) = c') := hcc
  clear hcc
  have HC3 : Hid (CtxAt w3 g c') := hC3
  have HI : Hid ((Try.prog.info? 27).map (·.size) = some (cvl c').toArray.size) := by show _ = _; rw [List.size_toArray]; exact cvl_info c' hC3.len
  have HT3 : Hid (w3.there (g + 2) 0 (cvl c').toArray.size) := by show World.there _ _ _ _; rw [List.size_toArray, cvl_len, hC3.len]; exact there_keep HT2.out k3 (by simp)
  have HB3 : Hid (But [] w w3) := but_fresh HB2.out k3 (by have := HGS.out; simp; omega)
  clear hC3 k3 hpc hz6 HJ
  go_wp2_with (first
    | (refine wpList_load_mid rfl 27 _ rfl g 0 rfl (cvl c') _ HC3.out.range Try.underlying27 rfl (cvl_info c' HC3.out.len) ?_)
    | (refine wpList_store_mid rfl 27 _ _ rfl (g + 2) 0 (cvl c').toArray rfl rfl ?ht HI.out (all_oneCell_toArray (cvl_one c')) ?_; case ht => exact HT3.out))
  refine bodyPost_ret (results_range1 rfl _ _ (g + 2) 0 (cvl c') _ rfl (World.rangeAt_setCells_same _ _ _ _ (by have := HT3.out; rwa [List.size_toArray] at this)) Try.underlying27 rfl (cvl_info c' HC3.out.len)) rfl ?_
  exact ⟨by rw [HCC.out], HB3.out.setCells (.inr (by have := HGS.out; omega)) _ _⟩
set_option maxHeartbeats 4000000 in
theorem rj21n (a b : Nat) (i : Int) (c : List Int) (w : World) (hl : c.length = 17) (hu : U32s c) (ha : a < 16) (hb : b < 16) (hx : ¬ vlu (c.getD a 0) < vlu (c.getD b 0)) :
    Calls Try.prog 28 #[.agg (cvl c).toArray, .agg #[.int .i64 21, .int .i64 a, .int .i64 b, .int .i64 i]] w fun e w' => e = .returned (.agg (cvl (jmpC 21 a b i (pc4 c))).toArray) ∧ But [] w w' := by
  obtain ⟨x, hx16⟩ : ∃ x, c.getD 16 0 = x := ⟨_, rfl⟩
  have HJ : Hid (jmpC 21 a b i (pc4 c) = c.set 16 ((x + 4) % 4294967296)) := by show (pc4 c).set 16 (jmpP (pc4 c) i (decide (vlu ((pc4 c).getD a 0) < vlu ((pc4 c).getD b 0)))) = _; rw [pc4_reg c hl a ha, pc4_reg c hl b hb, decide_eq_false hx, jm_no c i hl, hx16]
  obtain ⟨hC1, hI1, hT1⟩ := jump_new w c #[.int .i64 21, .int .i64 a, .int .i64 b, .int .i64 i] 27 75 hl rfl
  have hB1 : But [] w (((w.alloc (.cells (cvl c).toArray 27)).alloc (.cells #[.int .i64 21, .int .i64 a, .int .i64 b, .int .i64 i] 75)).alloc (.cells #[.int .u32 0, .int .u32 0, .int .u32 0, .int .u32 0, .int .u32 0, .int .u32 0, .int .u32 0, .int .u32 0, .int .u32 0, .int .u32 0, .int .u32 0, .int .u32 0, .int .u32 0, .int .u32 0, .int .u32 0, .int .u32 0, .int .u32 0] 27)) := (((But.refl [] w).alloc _).alloc _).alloc _
  obtain ⟨g, hg⟩ : ∃ g, g = w.heap.size := ⟨_, rfl⟩
  obtain ⟨p, hp⟩ : ∃ p, c.getD a 0 = p := ⟨_, rfl⟩
  obtain ⟨q, hq⟩ : ∃ q, c.getD b 0 = q := ⟨_, rfl⟩
  have hup := hu a
  have huq := hu b
  have hux := hu 16
  rw [hp, hq] at hx; rw [hp] at hup
  rw [hq] at huq
  rw [hx16] at hux
  have HLN : Hid (c.length = 17) := hl
  have HGS : Hid (w.heap.size ≤ g) := by show _ ≤ g; omega
  obtain ⟨hup0, hup1⟩ := hup
  obtain ⟨huq0, huq1⟩ := huq
  obtain ⟨hux0, hux1⟩ := hux
  go_enter Try.func28, Try.ntmps28
  go_upto_region 1 with fail
  rw [← hg] at hC1 hI1 hT1 ⊢
  generalize ((w.alloc (.cells (cvl c).toArray 27)).alloc (.cells #[.int .i64 21, .int .i64 a, .int .i64 b, .int .i64 i] 75)).alloc (.cells #[.int .u32 0, .int .u32 0, .int .u32 0, .int .u32 0, .int .u32 0, .int .u32 0, .int .u32 0, .int .u32 0, .int .u32 0, .int .u32 0, .int .u32 0, .int .u32 0, .int .u32 0, .int .u32 0, .int .u32 0, .int .u32 0, .int .u32 0] 27) = w1 at hC1 hI1 hT1 hB1 ⊢
  have i0 : w1.cell? ⟨g + 1, 0, none⟩ = some (.int .i64 21) := hI1 0 _ rfl
  have i1 : w1.cell? ⟨g + 1, 1, none⟩ = some (.int .i64 a) := hI1 1 _ rfl
  have i2 : w1.cell? ⟨g + 1, 2, none⟩ = some (.int .i64 b) := hI1 2 _ rfl
  have i3 : w1.cell? ⟨g + 1, 3, none⟩ = some (.int .i64 i) := hI1 3 _ rfl
  have ra : w1.cell? ⟨g, a, none⟩ = some (.int .u32 p) := by rw [← hp]; exact hC1.reg a (by omega)
  have rb : w1.cell? ⟨g, b, none⟩ = some (.int .u32 q) := by rw [← hq]; exact hC1.reg b (by omega)
  have HC : Hid (∀ k, CtxAt (w1.drewN k) g c) := fun k => hC1.keep ((But.refl [] w1).drewN k) (by simp)
  have HT : Hid (∀ k, (w1.drewN k).there (g + 2) 0 17) := fun k => there_keep hT1 ((But.refl [] w1).drewN k) (by simp)
  have HB : Hid (∀ k, But [] w (w1.drewN k)) := fun k => hB1.drewN k
  have HX : Hid (c.getD 16 0 = x) := hx16
  have HIS : Hid (∀ k, (w1.drewN k).cell? ⟨g + 1, 0, none⟩ = some (.int .i64 21) ∧ (w1.drewN k).cell? ⟨g + 1, 3, none⟩ = some (.int .i64 i)) := fun k => ⟨cell_keep i0 ((But.refl [] w1).drewN k) (by simp), cell_keep i3 ((But.refl [] w1).drewN k) (by simp)⟩
  have ha16 : (a : Int) < 16 := by omega
  have ha0 : (0 : Int) ≤ (a : Int) := by omega
  have hb16 : (b : Int) < 16 := by omega
  have hb0 : (0 : Int) ≤ (b : Int) := by omega
  clear hC1 hI1 hT1 hB1 hg hp hq hx16 hl hu
  obtain ⟨vp, hvp⟩ : ∃ vp, vlu p = vp := ⟨_, rfl⟩
  obtain ⟨vq, hvq⟩ : ∃ vq, vlu q = vq := ⟨_, rfl⟩
  rw [hvp, hvq] at hx
  have HV1 : Hid (∀ w, Calls Try.prog 53 #[.int .u32 p] w fun e w' => e = .returned (.int .i64 vp) ∧ w = w') := fun w => by rw [← hvp]; exact Wd.val_c p w hup0 hup1
  have HV2 : Hid (∀ w, Calls Try.prog 53 #[.int .u32 q] w fun e w' => e = .returned (.int .i64 vq) ∧ w = w') := fun w => by rw [← hvq]; exact Wd.val_c q w huq0 huq1
  clear hvp hvq
  have hxb : decide (vp < vq) = false := decide_eq_false hx
  go_wp2
  go_quiet (first | (go_at_call_of 53 (Value.int .u32 p); refine quiet_same (HV1.out _)) | (go_at_call_of 53 (Value.int .u32 q); refine quiet_same (HV2.out _)))
  have HC2 : Hid (CtxAt (w1.drewN nq) g c) := HC.out _
  have HT2 : Hid ((w1.drewN nq).there (g + 2) 0 17) := HT.out _
  have HB2 : Hid (But [] w (w1.drewN nq)) := HB.out _
  obtain ⟨j0, j3⟩ := HIS.out nq
  generalize w1.drewN nq = w2 at HC2 HT2 HB2 j0 j3 ⊢
  clear HC HT HB HIS i0 i1 i2 i3 ra rb
  have hpc : w2.cell? ⟨g, 16, none⟩ = some (.int .u32 x) := by rw [← HX.out]; exact HC2.out.reg 16 (by omega)
  have hz6 : w2.frozen? ⟨g, 16, none⟩ = false := HC2.out.fz 16 (by omega)
  go_upto_region 10 with fail
  have hC3 := HC2.out.set 16 (by omega) ((x + 4) % 4294967296)
  have k3 : But [g] w2 (w2.setCell ⟨g, 16, none⟩ (.int .u32 ((x + 4) % 4294967296))) := (But.refl [g] w2).setCell (by simp) _
  generalize w2.setCell ⟨g, 16, none⟩ (.int .u32 ((x + 4) % 4294967296)) = w3 at hC3 k3 ⊢
  rw [← HJ.out] at hC3
  obtain ⟨c', hcc⟩ : ∃ c', jmpC 21 a b i (pc4 c) = c' := ⟨_, rfl⟩
  rw [hcc] at hC3
  have HCC : Hid (jmpC 21 a b i (pc4 c) = c') := hcc
  clear hcc
  have HC3 : Hid (CtxAt w3 g c') := hC3
  have HI : Hid ((Try.prog.info? 27).map (·.size) = some (cvl c').toArray.size) := by show _ = _; rw [List.size_toArray]; exact cvl_info c' hC3.len
  have HT3 : Hid (w3.there (g + 2) 0 (cvl c').toArray.size) := by show World.there _ _ _ _; rw [List.size_toArray, cvl_len, hC3.len]; exact there_keep HT2.out k3 (by simp)
  have HB3 : Hid (But [] w w3) := but_fresh HB2.out k3 (by have := HGS.out; simp; omega)
  clear hC3 k3 hpc hz6 HJ
  go_wp2_with (first
    | (refine wpList_load_mid rfl 27 _ rfl g 0 rfl (cvl c') _ HC3.out.range Try.underlying27 rfl (cvl_info c' HC3.out.len) ?_)
    | (refine wpList_store_mid rfl 27 _ _ rfl (g + 2) 0 (cvl c').toArray rfl rfl ?ht HI.out (all_oneCell_toArray (cvl_one c')) ?_; case ht => exact HT3.out))
  refine bodyPost_ret (results_range1 rfl _ _ (g + 2) 0 (cvl c') _ rfl (World.rangeAt_setCells_same _ _ _ _ (by have := HT3.out; rwa [List.size_toArray] at this)) Try.underlying27 rfl (cvl_info c' HC3.out.len)) rfl ?_
  exact ⟨by rw [HCC.out], HB3.out.setCells (.inr (by have := HGS.out; omega)) _ _⟩
set_option maxHeartbeats 4000000 in
theorem rj22 (a b : Nat) (i : Int) (c : List Int) (w : World) (hl : c.length = 17) (hu : U32s c) (ha : a < 16) (hb : b < 16) :
    Calls Try.prog 28 #[.agg (cvl c).toArray, .agg #[.int .i64 22, .int .i64 a, .int .i64 b, .int .i64 i]] w fun e w' => e = .returned (.agg (cvl (jmpC 22 a b i (pc4 c))).toArray) ∧ But [] w w' := by
  obtain ⟨x, hx16⟩ : ∃ x, c.getD 16 0 = x := ⟨_, rfl⟩
  have HJ : Hid (jmpC 22 a b i (pc4 c) = (c.set 15 ((x + 4) % 4294967296)).set 16 ((x + 4 * (i % 4294967296)) % 4294967296)) := by show ((pc4 c).set 15 ((pc4 c).getD 16 0)).set 16 (jmpP ((pc4 c).set 15 ((pc4 c).getD 16 0)) i true) = _; rw [jm_22 c i hl, hx16]
  obtain ⟨hC1, hI1, hT1⟩ := jump_new w c #[.int .i64 22, .int .i64 a, .int .i64 b, .int .i64 i] 27 75 hl rfl
  have hB1 : But [] w (((w.alloc (.cells (cvl c).toArray 27)).alloc (.cells #[.int .i64 22, .int .i64 a, .int .i64 b, .int .i64 i] 75)).alloc (.cells #[.int .u32 0, .int .u32 0, .int .u32 0, .int .u32 0, .int .u32 0, .int .u32 0, .int .u32 0, .int .u32 0, .int .u32 0, .int .u32 0, .int .u32 0, .int .u32 0, .int .u32 0, .int .u32 0, .int .u32 0, .int .u32 0, .int .u32 0] 27)) := (((But.refl [] w).alloc _).alloc _).alloc _
  obtain ⟨g, hg⟩ : ∃ g, g = w.heap.size := ⟨_, rfl⟩
  obtain ⟨p, hp⟩ : ∃ p, c.getD a 0 = p := ⟨_, rfl⟩
  obtain ⟨q, hq⟩ : ∃ q, c.getD b 0 = q := ⟨_, rfl⟩
  have hup := hu a
  have huq := hu b
  have hux := hu 16
  rw [hp] at hup
  rw [hq] at huq
  rw [hx16] at hux
  have HLN : Hid (c.length = 17) := hl
  have HGS : Hid (w.heap.size ≤ g) := by show _ ≤ g; omega
  obtain ⟨hup0, hup1⟩ := hup
  obtain ⟨huq0, huq1⟩ := huq
  obtain ⟨hux0, hux1⟩ := hux
  go_enter Try.func28, Try.ntmps28
  go_upto_region 1 with fail
  rw [← hg] at hC1 hI1 hT1 ⊢
  generalize ((w.alloc (.cells (cvl c).toArray 27)).alloc (.cells #[.int .i64 22, .int .i64 a, .int .i64 b, .int .i64 i] 75)).alloc (.cells #[.int .u32 0, .int .u32 0, .int .u32 0, .int .u32 0, .int .u32 0, .int .u32 0, .int .u32 0, .int .u32 0, .int .u32 0, .int .u32 0, .int .u32 0, .int .u32 0, .int .u32 0, .int .u32 0, .int .u32 0, .int .u32 0, .int .u32 0] 27) = w1 at hC1 hI1 hT1 hB1 ⊢
  have i0 : w1.cell? ⟨g + 1, 0, none⟩ = some (.int .i64 22) := hI1 0 _ rfl
  have i1 : w1.cell? ⟨g + 1, 1, none⟩ = some (.int .i64 a) := hI1 1 _ rfl
  have i2 : w1.cell? ⟨g + 1, 2, none⟩ = some (.int .i64 b) := hI1 2 _ rfl
  have i3 : w1.cell? ⟨g + 1, 3, none⟩ = some (.int .i64 i) := hI1 3 _ rfl
  have ra : w1.cell? ⟨g, a, none⟩ = some (.int .u32 p) := by rw [← hp]; exact hC1.reg a (by omega)
  have rb : w1.cell? ⟨g, b, none⟩ = some (.int .u32 q) := by rw [← hq]; exact hC1.reg b (by omega)
  have HC : Hid (∀ k, CtxAt (w1.drewN k) g c) := fun k => hC1.keep ((But.refl [] w1).drewN k) (by simp)
  have HT : Hid (∀ k, (w1.drewN k).there (g + 2) 0 17) := fun k => there_keep hT1 ((But.refl [] w1).drewN k) (by simp)
  have HB : Hid (∀ k, But [] w (w1.drewN k)) := fun k => hB1.drewN k
  have HX : Hid (c.getD 16 0 = x) := hx16
  have HIS : Hid (∀ k, (w1.drewN k).cell? ⟨g + 1, 0, none⟩ = some (.int .i64 22) ∧ (w1.drewN k).cell? ⟨g + 1, 3, none⟩ = some (.int .i64 i)) := fun k => ⟨cell_keep i0 ((But.refl [] w1).drewN k) (by simp), cell_keep i3 ((But.refl [] w1).drewN k) (by simp)⟩
  have ha16 : (a : Int) < 16 := by omega
  have ha0 : (0 : Int) ≤ (a : Int) := by omega
  have hb16 : (b : Int) < 16 := by omega
  have hb0 : (0 : Int) ≤ (b : Int) := by omega
  clear hC1 hI1 hT1 hB1 hg hp hq hx16 hl hu
  go_wp2
  go_quiet (fail)
  have HC2 : Hid (CtxAt (w1.drewN nq) g c) := HC.out _
  have HT2 : Hid ((w1.drewN nq).there (g + 2) 0 17) := HT.out _
  have HB2 : Hid (But [] w (w1.drewN nq)) := HB.out _
  obtain ⟨j0, j3⟩ := HIS.out nq
  generalize w1.drewN nq = w2 at HC2 HT2 HB2 j0 j3 ⊢
  clear HC HT HB HIS i0 i1 i2 i3 ra rb
  have hpc : w2.cell? ⟨g, 16, none⟩ = some (.int .u32 x) := by rw [← HX.out]; exact HC2.out.reg 16 (by omega)
  have hz6 : w2.frozen? ⟨g, 16, none⟩ = false := HC2.out.fz 16 (by omega)
  have hz5 : w2.frozen? ⟨g, 15, none⟩ = false := HC2.out.fz 15 (by omega)
  obtain ⟨y, hy⟩ : ∃ y, c.getD 15 0 = y := ⟨_, rfl⟩
  have h15 : w2.cell? ⟨g, 15, none⟩ = some (.int .u32 y) := by rw [← hy]; exact HC2.out.reg 15 (by omega)
  clear hy
  go_upto_region 10 with fail
  have hC3 := (HC2.out.set 15 (by omega) ((x + 4) % 4294967296)).set 16 (by omega) ((x + 4 * (i % 4294967296)) % 4294967296)
  have k3 : But [g] w2 ((w2.setCell ⟨g, 15, none⟩ (.int .u32 ((x + 4) % 4294967296))).setCell ⟨g, 16, none⟩ (.int .u32 ((x + 4 * (i % 4294967296)) % 4294967296))) := ((But.refl [g] w2).setCell (by simp) _).setCell (by simp) _
  generalize (w2.setCell ⟨g, 15, none⟩ (.int .u32 ((x + 4) % 4294967296))).setCell ⟨g, 16, none⟩ (.int .u32 ((x + 4 * (i % 4294967296)) % 4294967296)) = w3 at hC3 k3 ⊢
  rw [← HJ.out] at hC3
  obtain ⟨c', hcc⟩ : ∃ c', jmpC 22 a b i (pc4 c) = c' := ⟨_, rfl⟩
  rw [hcc] at hC3
  have HCC : Hid (jmpC 22 a b i (pc4 c) = c') := hcc
  clear hcc
  have HC3 : Hid (CtxAt w3 g c') := hC3
  have HI : Hid ((Try.prog.info? 27).map (·.size) = some (cvl c').toArray.size) := by show _ = _; rw [List.size_toArray]; exact cvl_info c' hC3.len
  have HT3 : Hid (w3.there (g + 2) 0 (cvl c').toArray.size) := by show World.there _ _ _ _; rw [List.size_toArray, cvl_len, hC3.len]; exact there_keep HT2.out k3 (by simp)
  have HB3 : Hid (But [] w w3) := but_fresh HB2.out k3 (by have := HGS.out; simp; omega)
  clear hC3 k3 hpc hz6 HJ
  go_wp2_with (first
    | (refine wpList_load_mid rfl 27 _ rfl g 0 rfl (cvl c') _ HC3.out.range Try.underlying27 rfl (cvl_info c' HC3.out.len) ?_)
    | (refine wpList_store_mid rfl 27 _ _ rfl (g + 2) 0 (cvl c').toArray rfl rfl ?ht HI.out (all_oneCell_toArray (cvl_one c')) ?_; case ht => exact HT3.out))
  refine bodyPost_ret (results_range1 rfl _ _ (g + 2) 0 (cvl c') _ rfl (World.rangeAt_setCells_same _ _ _ _ (by have := HT3.out; rwa [List.size_toArray] at this)) Try.underlying27 rfl (cvl_info c' HC3.out.len)) rfl ?_
  exact ⟨by rw [HCC.out], HB3.out.setCells (.inr (by have := HGS.out; omega)) _ _⟩
theorem rjump_c (op : Int) (a b : Nat) (i : Int) (c : List Int) (w : World) (ho : 18 ≤ op ∧ op ≤ 22) (hl : c.length = 17) (hu : U32s c) (ha : a < 16) (hb : b < 16) :
    Calls Try.prog 28 #[.agg (cvl c).toArray, .agg #[.int .i64 op, .int .i64 a, .int .i64 b, .int .i64 i]] w fun e w' => e = .returned (.agg (cvl (jmpC op a b i (pc4 c))).toArray) ∧ But [] w w' := by
  have hop : op = 18 ∨ op = 19 ∨ op = 20 ∨ op = 21 ∨ op = 22 := by omega
  rcases hop with rfl | rfl | rfl | rfl | rfl
  · exact rj18 a b i c w hl hu ha hb
  · by_cases h : c.getD a 0 = 0
    · exact rj19y a b i c w hl hu ha hb h
    · exact rj19n a b i c w hl hu ha hb h
  · by_cases h : c.getD a 0 = 0
    · exact rj20n a b i c w hl hu ha hb h
    · exact rj20y a b i c w hl hu ha hb h
  · by_cases h : vlu (c.getD a 0) < vlu (c.getD b 0)
    · exact rj21y a b i c w hl hu ha hb h
    · exact rj21n a b i c w hl hu ha hb h
  · exact rj22 a b i c w hl hu ha hb
end Go.Proofs.Ytjlcncdhlcpklaa.Cp
