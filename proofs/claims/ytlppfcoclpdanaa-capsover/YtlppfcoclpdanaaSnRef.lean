/-
  Layer 10 (span): the document's sets in memory; contracts of its Of and Lay, over the translated program.
-/
import Derived.Test.YtlppfcoclpdanaaSnLay
namespace Go.Proofs.Ytlppfcoclpdanaa.Sn
open Go.ChangeShapes Go.WideShapes Go.ChangeAt Go.RowKit
open Wh
set_option linter.unusedVariables false
set_option maxRecDepth 20000

/-- The document's set, as cells. -/
def bv (f : Nat → Bool) : List Value := (List.range 1024).map fun j => Value.bool (f j)
theorem bv_len (f : Nat → Bool) : (bv f).length = 1024 := by simp [bv]
theorem bv_get (f : Nat → Bool) (j : Nat) (h : j < 1024) : (bv f)[j]? = some (.bool (f j)) := by simp [bv, h]
theorem bv_one (f : Nat → Bool) : ∀ v ∈ bv f, v.oneCell' = true := by
  intro v hv
  simp only [bv, List.mem_map] at hv
  obtain ⟨i, _, rfl⟩ := hv
  rfl
theorem bv_all (f : Nat → Bool) : (bv f).toArray.all (·.oneCell') = true := all_oneCell_toArray (bv_one f)
theorem bvs (f : Nat → Bool) : (bv f).toArray.size = 1024 := by simp [bv_len]
def no : Nat → Bool := fun _ => false
theorem bv_congr {f g : Nat → Bool} (h : ∀ j, j < 1024 → f j = g j) : bv f = bv g := by
  unfold bv
  exact List.map_congr_left (fun j hj => by rw [h j (List.mem_range.1 hj)])
theorem zSet (w : World) : Sem.run Try.prog (zeroValue 36) w = .ok (.agg (bv no).toArray) w := by kernel_rfl
theorem bSet : Try.prog.built 36 [] = some (bv no).toArray := by kernel_rfl
theorem szSet : (Try.prog.info? 36).map (·.size) = some 1024 := by kernel_rfl
theorem iSet (f : Nat → Bool) : (Try.prog.info? 36).map (·.size) = some (bv f).length := by rw [bv_len]; exact szSet
theorem iSet' (f : Nat → Bool) : (Try.prog.info? 36).map (·.size) = some (bv f).toArray.size := by rw [bvs]; exact szSet
attribute [irreducible] bv
theorem wpList_build' {P : Program} {ops : Array Oper} {rest : List Oper} {o : Oper} {a : Act} {w : World} {Q : Exit → Act → World → Prop} (hg : o.guard = none) (t : TypeId) (parts : List (Nat × Operand)) (ho : o.op = .build t parts.toArray)
    (cells : Array Value) (hf : P.built t (parts.map fun (i, x) => (i, a.eval x)) = some cells)
    (h : wpList P ops Q rest (a.put o.dst (.agg cells)) w) : wpList P ops Q (o :: rest) a w := by
  have e : (parts.toArray.map fun (i, x) => (i, a.eval x)).toList = parts.map fun (i, x) => (i, a.eval x) := by simp
  exact wpList_build hg t parts.toArray ho (by rw [e, hf]; rfl) (by rw [e, hf]; exact h)
theorem bv_new (w : World) (f : Nat → Bool) (t : TypeId) : VB (w.alloc (.cells (bv f).toArray t)) w.heap.size 1024 (fun j => .bool (f j)) :=
  VB.new w (bv f).toArray t 1024 (bvs f) _ (fun j hj => by have := bv_get f j hj; simpa using this)
theorem two_new (w : World) (t : TypeId) :
    ((w.alloc (.cells (bv no).toArray t)).alloc (.cells (bv no).toArray t)).there w.heap.size 0 1024 ∧ VB ((w.alloc (.cells (bv no).toArray t)).alloc (.cells (bv no).toArray t)) (w.heap.size + 1) 1024 (fun j => .bool false) ∧
      ((w.alloc (.cells (bv no).toArray t)).alloc (.cells (bv no).toArray t)).heap.size = w.heap.size + 2 := by
  have s1 : (w.alloc (.cells (bv no).toArray t)).heap.size = w.heap.size + 1 := by simp
  have h1 := there_new w (bv no).toArray t 1024 (bvs no)
  have h2 := bv_new (w.alloc (.cells (bv no).toArray t)) no t
  rw [s1] at h2
  exact ⟨there_keep (l := []) h1 ((But.refl [] _).alloc _) (by simp) (by simp), h2, by simp⟩
theorem four_new (w : World) (f g : Nat → Bool) (t : TypeId) :
    ((((w.alloc (.cells (bv f).toArray t)).alloc (.cells (bv g).toArray t)).alloc (.cells (bv no).toArray t)).alloc (.cells (bv no).toArray t)).rangeAt w.heap.size 0 (bv f) ∧
    ((((w.alloc (.cells (bv f).toArray t)).alloc (.cells (bv g).toArray t)).alloc (.cells (bv no).toArray t)).alloc (.cells (bv no).toArray t)).rangeAt (w.heap.size + 1) 0 (bv g) ∧
    ((((w.alloc (.cells (bv f).toArray t)).alloc (.cells (bv g).toArray t)).alloc (.cells (bv no).toArray t)).alloc (.cells (bv no).toArray t)).there (w.heap.size + 2) 0 1024 ∧
    VB ((((w.alloc (.cells (bv f).toArray t)).alloc (.cells (bv g).toArray t)).alloc (.cells (bv no).toArray t)).alloc (.cells (bv no).toArray t)) (w.heap.size + 3) 1024 (fun j => .bool false) ∧
    ((((w.alloc (.cells (bv f).toArray t)).alloc (.cells (bv g).toArray t)).alloc (.cells (bv no).toArray t)).alloc (.cells (bv no).toArray t)).heap.size = w.heap.size + 4 := by
  have s1 : (w.alloc (.cells (bv f).toArray t)).heap.size = w.heap.size + 1 := by simp
  have s2 : ((w.alloc (.cells (bv f).toArray t)).alloc (.cells (bv g).toArray t)).heap.size = w.heap.size + 2 := by simp
  have h1 := new_range w (bv f) t
  have h2 := new_range (w.alloc (.cells (bv f).toArray t)) (bv g) t
  obtain ⟨h3, h4, h5⟩ := two_new ((w.alloc (.cells (bv f).toArray t)).alloc (.cells (bv g).toArray t)) t
  rw [s1] at h2
  rw [s2] at h3 h4 h5
  exact ⟨range_keep (l := []) h1 ((((But.refl [] _).alloc _).alloc _).alloc _) (by simp), range_keep (l := []) h2 (((But.refl [] _).alloc _).alloc _) (by simp), h3, h4, h5⟩
set_option maxHeartbeats 2000000 in
theorem rof_c (a c : Int) (w : World) :
    Calls Try.prog 10 #[.int .i64 a, .int .i64 c] w fun e w' => e = .returned (.agg (bv (one a c)).toArray) ∧ But [] w w' := by
  have hz := zSet
  obtain ⟨b, hb⟩ : ∃ b, b = w.heap.size := ⟨_, rfl⟩
  obtain ⟨w1, hw1⟩ : ∃ w1, w1 = (w.alloc (.cells (bv no).toArray 36)).alloc (.cells (bv no).toArray 36) := ⟨_, rfl⟩
  have HB0 : Hid (But [] w w1) := by show But _ _ _; rw [hw1]; exact ((But.refl [] w).alloc _).alloc _
  obtain ⟨t3, t4, t5⟩ := two_new w 36
  rw [← hw1, ← hb] at t3 t4
  rw [← hw1, ← hb] at t5
  have HT3 := hid t3
  have HV4 := hid t4
  have HS1 := hid t5
  have HBW := hid hb
  clear t3 t4 t5
  go_enter Try.func10, Try.ntmps10
  go_upto_region 2 with (first
    | (refine wpList_build' rfl 36 [] rfl (bv no).toArray ?hb ?_; case hb => exact bSet)
    | (refine wpList_store_newAt rfl 36 _ _ rfl (w.heap.size + 1) (by simp) (bv no).toArray (bv no).toArray rfl rfl (iSet' _) rfl (bv_all _) ?_))
  rw [← hw1, ← hb]
  clear hw1 hb hz
  go_wp2
  go_loopg [6] 1025 (fun g0 i wx => ∃ j : Nat, j + g0 = 1025 ∧ j ≤ 1024 ∧ i = .int .i64 j ∧ Hid (VB wx (b + 1) 1024 (fun q => .bool (if q < j then one a c q else false))) ∧ Hid (But [b + 1] w1 wx))
  case atStart => exact ⟨0, by omega, by omega, rfl, HV4.out.congr (fun q _ => by rw [if_neg (by omega)]), But.refl _ _⟩
  case round =>
    obtain ⟨j, hjg, hj, rfl, HV, HB⟩ := hrel
    by_cases hlt : j < 1024
    · have hjI : (j : Int) < 1024 := by omega
      obtain ⟨hcv, hfv⟩ := HV.out j hlt
      have hv := HV.out.set (k := j) (.bool (one a c j))
      have HV1 : Hid (VB (wr.setCell ⟨b + 1, j, none⟩ (.bool (one a c j))) (b + 1) 1024 (fun q => .bool (if q < j + 1 then one a c q else false))) := hv.congr (fun q _ => by
        by_cases e : q = j
        · rw [if_pos e, if_pos (by omega), e]
        · by_cases e2 : q < j
          · rw [if_neg e, if_pos e2, if_pos (by omega)]
          · rw [if_neg e, if_neg e2, if_neg (by omega)])
      have HB1 : Hid (But [b + 1] w1 (wr.setCell ⟨b + 1, j, none⟩ (.bool (one a c j)))) := HB.out.setCell (by simp) _
      clear hv HV HB
      by_cases ha : a ≤ (j : Int)
      · have e1 : one a c j = decide ((j : Int) < c) := by unfold one; rw [decide_eq_true hlt, decide_eq_true ha]; rfl
        rw [e1] at HV1 HB1
        clear e1
        go_wp2
        go_roundg (1025 - (j + 1))
        case measure => omega
        case rel => exact ⟨j + 1, by omega, by omega, by go_num, HV1.out, HB1.out⟩
      · have e1 : one a c j = false := by unfold one; rw [decide_eq_false ha, Bool.and_false]; rfl
        rw [e1] at HV1 HB1
        have ha' : decide (a ≤ (j : Int)) = false := decide_eq_false ha
        clear e1
        go_wp2
        go_roundg (1025 - (j + 1))
        case measure => omega
        case rel => exact ⟨j + 1, by omega, by omega, by go_num, HV1.out, HB1.out⟩
    · obtain rfl : j = 1024 := by omega
      have HR : Hid (wr.rangeAt (b + 1) 0 (bv (one a c))) := VB.range HV.out _ (by rw [bv_len]; omega) (fun i hi => by rw [bv_len] at hi; rw [bv_get _ _ hi, Nat.zero_add, if_pos hi])
      have HT2 : Hid (wr.there b 0 (bv (one a c)).toArray.size) := by show World.there _ _ _ _; rw [bvs]; exact there_keep HT3.out HB.out (by have := HS1.out; omega) (by simp)
      have h64' : decide ((1024 : Int) < 1024) = false := by decide
      clear HV
      go_wp2_with (first
        | (refine wpList_load_mid rfl 36 _ rfl (b + 1) 0 rfl (bv (one a c)) _ HR.out Try.underlying36 rfl (iSet _) ?_)
        | (refine wpList_store_mid rfl 36 _ _ rfl b 0 (bv (one a c)).toArray rfl rfl ?ht (iSet' _) (bv_all _) ?_; case ht => exact HT2.out))
      refine bodyPost_ret (results_range1 rfl _ _ b 0 (bv (one a c)) _ rfl (World.rangeAt_setCells_same _ _ _ _ (by rw [bv_len]; exact there_keep HT3.out HB.out (by have := HS1.out; omega) (by simp))) Try.underlying36 rfl (iSet _)) rfl ?_
      have hbw := HBW.out
      exact ⟨rfl, but_own (but_own HB0.out HB.out (fun i hi => by simp at hi; omega)) ((But.refl [b] _).setCells (by simp) _ _) (fun i hi => by simp at hi; omega)⟩
set_option maxHeartbeats 2000000 in
theorem rlay0_c (f g : Nat → Bool) (w : World) :
    Calls Try.prog 50 #[.int .i64 0, .agg (bv f).toArray, .agg (bv g).toArray] w fun e w' => e = .returned (.agg (bv (wi f g)).toArray) ∧ But [] w w' := by
  have hz := zSet
  obtain ⟨b, hb⟩ : ∃ b, b = w.heap.size := ⟨_, rfl⟩
  obtain ⟨w1, hw1⟩ : ∃ w1, w1 = (((w.alloc (.cells (bv f).toArray 36)).alloc (.cells (bv g).toArray 36)).alloc (.cells (bv no).toArray 36)).alloc (.cells (bv no).toArray 36) := ⟨_, rfl⟩
  have HB0 : Hid (But [] w w1) := by show But _ _ _; rw [hw1]; exact ((((But.refl [] w).alloc _).alloc _).alloc _).alloc _
  obtain ⟨t1, t2, t3, t4, t5⟩ := four_new w f g 36
  rw [← hw1, ← hb] at t1 t2 t3 t4
  rw [← hw1, ← hb] at t5
  have HR1 := hid t1
  have HR2 := hid t2
  have HT3 := hid t3
  have HV4 := hid t4
  have HS1 := hid t5
  have HBW := hid hb
  clear t1 t2 t3 t4 t5
  go_enter Try.func50, Try.ntmps50
  go_upto_region 2 with (first
    | (refine wpList_build' rfl 36 [] rfl (bv no).toArray ?hb ?_; case hb => exact bSet)
    | (refine wpList_store_newAt rfl 36 _ _ rfl (w.heap.size + 3) (by simp) (bv no).toArray (bv no).toArray rfl rfl (iSet' _) rfl (bv_all _) ?_))
  rw [← hw1, ← hb]
  clear hw1 hb hz
  go_wp2
  go_loopg [8] 1025 (fun g0 i wx => ∃ j : Nat, j + g0 = 1025 ∧ j ≤ 1024 ∧ i = .int .i64 j ∧ Hid (VB wx (b + 3) 1024 (fun q => .bool (if q < j then wi f g q else false))) ∧ Hid (But [b + 3] w1 wx))
  case atStart => exact ⟨0, by omega, by omega, rfl, HV4.out.congr (fun q _ => by rw [if_neg (by omega)]), But.refl _ _⟩
  case round =>
    obtain ⟨j, hjg, hj, rfl, HV, HB⟩ := hrel
    by_cases hlt : j < 1024
    · have hjI : (j : Int) < 1024 := by omega
      have hca : wr.cell? ⟨b, j, none⟩ = some (.bool (f j)) := by
        have := cell_keep (range_cells HR1.out j _ (bv_get f j hlt)) HB.out (by simp; try omega)
        rwa [Nat.zero_add] at this
      have hcb : wr.cell? ⟨b + 1, j, none⟩ = some (.bool (g j)) := by
        have := cell_keep (range_cells HR2.out j _ (bv_get g j hlt)) HB.out (by simp; try omega)
        rwa [Nat.zero_add] at this
      obtain ⟨hcv, hfv⟩ := HV.out j hlt
      have hv := HV.out.set (k := j) (.bool (wi f g j))
      have HV1 : Hid (VB (wr.setCell ⟨b + 3, j, none⟩ (.bool (wi f g j))) (b + 3) 1024 (fun q => .bool (if q < j + 1 then wi f g q else false))) := hv.congr (fun q _ => by
        by_cases e : q = j
        · rw [if_pos e, if_pos (by omega), e]
        · by_cases e2 : q < j
          · rw [if_neg e, if_pos e2, if_pos (by omega)]
          · rw [if_neg e, if_neg e2, if_neg (by omega)])
      have HB1 : Hid (But [b + 3] w1 (wr.setCell ⟨b + 3, j, none⟩ (.bool (wi f g j)))) := HB.out.setCell (by simp) _
      rw [show wi f g j = (f j || g j) from rfl] at HV1 HB1
      clear hv HV HB
      cases hfj : f j with
      | false =>
        rw [hfj] at hca HV1 HB1
        rw [Bool.false_or] at HV1 HB1
        go_wp2
        go_roundg (1025 - (j + 1))
        case measure => omega
        case rel => exact ⟨j + 1, by omega, by omega, by go_num, HV1.out, HB1.out⟩
      | true =>
        rw [hfj] at hca HV1 HB1
        rw [Bool.true_or] at HV1 HB1
        clear hcb
        go_wp2
        go_roundg (1025 - (j + 1))
        case measure => omega
        case rel => exact ⟨j + 1, by omega, by omega, by go_num, HV1.out, HB1.out⟩
    · obtain rfl : j = 1024 := by omega
      have HR : Hid (wr.rangeAt (b + 3) 0 (bv (wi f g))) := VB.range HV.out _ (by rw [bv_len]; omega) (fun i hi => by rw [bv_len] at hi; rw [bv_get _ _ hi, Nat.zero_add, if_pos hi])
      have HT2 : Hid (wr.there (b + 2) 0 (bv (wi f g)).toArray.size) := by show World.there _ _ _ _; rw [bvs]; exact there_keep HT3.out HB.out (by have := HS1.out; omega) (by simp)
      have h64' : decide ((1024 : Int) < 1024) = false := by decide
      clear HV
      go_wp2_with (first
        | (refine wpList_load_mid rfl 36 _ rfl (b + 3) 0 rfl (bv (wi f g)) _ HR.out Try.underlying36 rfl (iSet _) ?_)
        | (refine wpList_store_mid rfl 36 _ _ rfl (b + 2) 0 (bv (wi f g)).toArray rfl rfl ?ht (iSet' _) (bv_all _) ?_; case ht => exact HT2.out))
      refine bodyPost_ret (results_range1 rfl _ _ (b + 2) 0 (bv (wi f g)) _ rfl (World.rangeAt_setCells_same _ _ _ _ (by rw [bv_len]; exact there_keep HT3.out HB.out (by have := HS1.out; omega) (by simp))) Try.underlying36 rfl (iSet _)) rfl ?_
      have hbw := HBW.out
      exact ⟨rfl, but_own (but_own HB0.out HB.out (fun i hi => by simp at hi; omega)) ((But.refl [b + 2] _).setCells (by simp) _ _) (fun i hi => by simp at hi; omega)⟩
set_option maxHeartbeats 2000000 in
theorem rlay1_c (f g : Nat → Bool) (w : World) :
    Calls Try.prog 50 #[.int .i64 1, .agg (bv f).toArray, .agg (bv g).toArray] w fun e w' => e = .returned (.agg (bv (wo f g)).toArray) ∧ But [] w w' := by
  have hz := zSet
  obtain ⟨b, hb⟩ : ∃ b, b = w.heap.size := ⟨_, rfl⟩
  obtain ⟨w1, hw1⟩ : ∃ w1, w1 = (((w.alloc (.cells (bv f).toArray 36)).alloc (.cells (bv g).toArray 36)).alloc (.cells (bv no).toArray 36)).alloc (.cells (bv no).toArray 36) := ⟨_, rfl⟩
  have HB0 : Hid (But [] w w1) := by show But _ _ _; rw [hw1]; exact ((((But.refl [] w).alloc _).alloc _).alloc _).alloc _
  obtain ⟨t1, t2, t3, t4, t5⟩ := four_new w f g 36
  rw [← hw1, ← hb] at t1 t2 t3 t4
  rw [← hw1, ← hb] at t5
  have HR1 := hid t1
  have HR2 := hid t2
  have HT3 := hid t3
  have HV4 := hid t4
  have HS1 := hid t5
  have HBW := hid hb
  clear t1 t2 t3 t4 t5
  go_enter Try.func50, Try.ntmps50
  go_upto_region 2 with (first
    | (refine wpList_build' rfl 36 [] rfl (bv no).toArray ?hb ?_; case hb => exact bSet)
    | (refine wpList_store_newAt rfl 36 _ _ rfl (w.heap.size + 3) (by simp) (bv no).toArray (bv no).toArray rfl rfl (iSet' _) rfl (bv_all _) ?_))
  rw [← hw1, ← hb]
  clear hw1 hb hz
  go_wp2
  go_loopg [8] 1025 (fun g0 i wx => ∃ j : Nat, j + g0 = 1025 ∧ j ≤ 1024 ∧ i = .int .i64 j ∧ Hid (VB wx (b + 3) 1024 (fun q => .bool (if q < j then wo f g q else false))) ∧ Hid (But [b + 3] w1 wx))
  case atStart => exact ⟨0, by omega, by omega, rfl, HV4.out.congr (fun q _ => by rw [if_neg (by omega)]), But.refl _ _⟩
  case round =>
    obtain ⟨j, hjg, hj, rfl, HV, HB⟩ := hrel
    by_cases hlt : j < 1024
    · have hjI : (j : Int) < 1024 := by omega
      have hca : wr.cell? ⟨b, j, none⟩ = some (.bool (f j)) := by
        have := cell_keep (range_cells HR1.out j _ (bv_get f j hlt)) HB.out (by simp; try omega)
        rwa [Nat.zero_add] at this
      have hcb : wr.cell? ⟨b + 1, j, none⟩ = some (.bool (g j)) := by
        have := cell_keep (range_cells HR2.out j _ (bv_get g j hlt)) HB.out (by simp; try omega)
        rwa [Nat.zero_add] at this
      obtain ⟨hcv, hfv⟩ := HV.out j hlt
      have hv := HV.out.set (k := j) (.bool (wo f g j))
      have HV1 : Hid (VB (wr.setCell ⟨b + 3, j, none⟩ (.bool (wo f g j))) (b + 3) 1024 (fun q => .bool (if q < j + 1 then wo f g q else false))) := hv.congr (fun q _ => by
        by_cases e : q = j
        · rw [if_pos e, if_pos (by omega), e]
        · by_cases e2 : q < j
          · rw [if_neg e, if_pos e2, if_pos (by omega)]
          · rw [if_neg e, if_neg e2, if_neg (by omega)])
      have HB1 : Hid (But [b + 3] w1 (wr.setCell ⟨b + 3, j, none⟩ (.bool (wo f g j)))) := HB.out.setCell (by simp) _
      rw [show wo f g j = (f j && !g j) from rfl] at HV1 HB1
      clear hv HV HB
      cases hfj : f j with
      | false =>
        rw [hfj] at hca HV1 HB1
        rw [Bool.false_and] at HV1 HB1
        clear hcb
        go_wp2
        go_roundg (1025 - (j + 1))
        case measure => omega
        case rel => exact ⟨j + 1, by omega, by omega, by go_num, HV1.out, HB1.out⟩
      | true =>
        rw [hfj] at hca HV1 HB1
        rw [Bool.true_and] at HV1 HB1
        go_wp2
        go_roundg (1025 - (j + 1))
        case measure => omega
        case rel => exact ⟨j + 1, by omega, by omega, by go_num, HV1.out, HB1.out⟩
    · obtain rfl : j = 1024 := by omega
      have HR : Hid (wr.rangeAt (b + 3) 0 (bv (wo f g))) := VB.range HV.out _ (by rw [bv_len]; omega) (fun i hi => by rw [bv_len] at hi; rw [bv_get _ _ hi, Nat.zero_add, if_pos hi])
      have HT2 : Hid (wr.there (b + 2) 0 (bv (wo f g)).toArray.size) := by show World.there _ _ _ _; rw [bvs]; exact there_keep HT3.out HB.out (by have := HS1.out; omega) (by simp)
      have h64' : decide ((1024 : Int) < 1024) = false := by decide
      clear HV
      go_wp2_with (first
        | (refine wpList_load_mid rfl 36 _ rfl (b + 3) 0 rfl (bv (wo f g)) _ HR.out Try.underlying36 rfl (iSet _) ?_)
        | (refine wpList_store_mid rfl 36 _ _ rfl (b + 2) 0 (bv (wo f g)).toArray rfl rfl ?ht (iSet' _) (bv_all _) ?_; case ht => exact HT2.out))
      refine bodyPost_ret (results_range1 rfl _ _ (b + 2) 0 (bv (wo f g)) _ rfl (World.rangeAt_setCells_same _ _ _ _ (by rw [bv_len]; exact there_keep HT3.out HB.out (by have := HS1.out; omega) (by simp))) Try.underlying36 rfl (iSet _)) rfl ?_
      have hbw := HBW.out
      exact ⟨rfl, but_own (but_own HB0.out HB.out (fun i hi => by simp at hi; omega)) ((But.refl [b + 2] _).setCells (by simp) _ _) (fun i hi => by simp at hi; omega)⟩
set_option maxHeartbeats 2000000 in
theorem rlay2_c (f g : Nat → Bool) (w : World) :
    Calls Try.prog 50 #[.int .i64 2, .agg (bv f).toArray, .agg (bv g).toArray] w fun e w' => e = .returned (.agg (bv (bo f g)).toArray) ∧ But [] w w' := by
  have hz := zSet
  obtain ⟨b, hb⟩ : ∃ b, b = w.heap.size := ⟨_, rfl⟩
  obtain ⟨w1, hw1⟩ : ∃ w1, w1 = (((w.alloc (.cells (bv f).toArray 36)).alloc (.cells (bv g).toArray 36)).alloc (.cells (bv no).toArray 36)).alloc (.cells (bv no).toArray 36) := ⟨_, rfl⟩
  have HB0 : Hid (But [] w w1) := by show But _ _ _; rw [hw1]; exact ((((But.refl [] w).alloc _).alloc _).alloc _).alloc _
  obtain ⟨t1, t2, t3, t4, t5⟩ := four_new w f g 36
  rw [← hw1, ← hb] at t1 t2 t3 t4
  rw [← hw1, ← hb] at t5
  have HR1 := hid t1
  have HR2 := hid t2
  have HT3 := hid t3
  have HV4 := hid t4
  have HS1 := hid t5
  have HBW := hid hb
  clear t1 t2 t3 t4 t5
  go_enter Try.func50, Try.ntmps50
  go_upto_region 2 with (first
    | (refine wpList_build' rfl 36 [] rfl (bv no).toArray ?hb ?_; case hb => exact bSet)
    | (refine wpList_store_newAt rfl 36 _ _ rfl (w.heap.size + 3) (by simp) (bv no).toArray (bv no).toArray rfl rfl (iSet' _) rfl (bv_all _) ?_))
  rw [← hw1, ← hb]
  clear hw1 hb hz
  go_wp2
  go_loopg [8] 1025 (fun g0 i wx => ∃ j : Nat, j + g0 = 1025 ∧ j ≤ 1024 ∧ i = .int .i64 j ∧ Hid (VB wx (b + 3) 1024 (fun q => .bool (if q < j then bo f g q else false))) ∧ Hid (But [b + 3] w1 wx))
  case atStart => exact ⟨0, by omega, by omega, rfl, HV4.out.congr (fun q _ => by rw [if_neg (by omega)]), But.refl _ _⟩
  case round =>
    obtain ⟨j, hjg, hj, rfl, HV, HB⟩ := hrel
    by_cases hlt : j < 1024
    · have hjI : (j : Int) < 1024 := by omega
      have hca : wr.cell? ⟨b, j, none⟩ = some (.bool (f j)) := by
        have := cell_keep (range_cells HR1.out j _ (bv_get f j hlt)) HB.out (by simp; try omega)
        rwa [Nat.zero_add] at this
      have hcb : wr.cell? ⟨b + 1, j, none⟩ = some (.bool (g j)) := by
        have := cell_keep (range_cells HR2.out j _ (bv_get g j hlt)) HB.out (by simp; try omega)
        rwa [Nat.zero_add] at this
      obtain ⟨hcv, hfv⟩ := HV.out j hlt
      have hv := HV.out.set (k := j) (.bool (bo f g j))
      have HV1 : Hid (VB (wr.setCell ⟨b + 3, j, none⟩ (.bool (bo f g j))) (b + 3) 1024 (fun q => .bool (if q < j + 1 then bo f g q else false))) := hv.congr (fun q _ => by
        by_cases e : q = j
        · rw [if_pos e, if_pos (by omega), e]
        · by_cases e2 : q < j
          · rw [if_neg e, if_pos e2, if_pos (by omega)]
          · rw [if_neg e, if_neg e2, if_neg (by omega)])
      have HB1 : Hid (But [b + 3] w1 (wr.setCell ⟨b + 3, j, none⟩ (.bool (bo f g j)))) := HB.out.setCell (by simp) _
      rw [show bo f g j = (f j && g j) from rfl] at HV1 HB1
      clear hv HV HB
      cases hfj : f j with
      | false =>
        rw [hfj] at hca HV1 HB1
        rw [Bool.false_and] at HV1 HB1
        clear hcb
        go_wp2
        go_roundg (1025 - (j + 1))
        case measure => omega
        case rel => exact ⟨j + 1, by omega, by omega, by go_num, HV1.out, HB1.out⟩
      | true =>
        rw [hfj] at hca HV1 HB1
        rw [Bool.true_and] at HV1 HB1
        go_wp2
        go_roundg (1025 - (j + 1))
        case measure => omega
        case rel => exact ⟨j + 1, by omega, by omega, by go_num, HV1.out, HB1.out⟩
    · obtain rfl : j = 1024 := by omega
      have HR : Hid (wr.rangeAt (b + 3) 0 (bv (bo f g))) := VB.range HV.out _ (by rw [bv_len]; omega) (fun i hi => by rw [bv_len] at hi; rw [bv_get _ _ hi, Nat.zero_add, if_pos hi])
      have HT2 : Hid (wr.there (b + 2) 0 (bv (bo f g)).toArray.size) := by show World.there _ _ _ _; rw [bvs]; exact there_keep HT3.out HB.out (by have := HS1.out; omega) (by simp)
      have h64' : decide ((1024 : Int) < 1024) = false := by decide
      clear HV
      go_wp2_with (first
        | (refine wpList_load_mid rfl 36 _ rfl (b + 3) 0 rfl (bv (bo f g)) _ HR.out Try.underlying36 rfl (iSet _) ?_)
        | (refine wpList_store_mid rfl 36 _ _ rfl (b + 2) 0 (bv (bo f g)).toArray rfl rfl ?ht (iSet' _) (bv_all _) ?_; case ht => exact HT2.out))
      refine bodyPost_ret (results_range1 rfl _ _ (b + 2) 0 (bv (bo f g)) _ rfl (World.rangeAt_setCells_same _ _ _ _ (by rw [bv_len]; exact there_keep HT3.out HB.out (by have := HS1.out; omega) (by simp))) Try.underlying36 rfl (iSet _)) rfl ?_
      have hbw := HBW.out
      exact ⟨rfl, but_own (but_own HB0.out HB.out (fun i hi => by simp at hi; omega)) ((But.refl [b + 2] _).setCells (by simp) _ _) (fun i hi => by simp at hi; omega)⟩
end Go.Proofs.Ytlppfcoclpdanaa.Sn
