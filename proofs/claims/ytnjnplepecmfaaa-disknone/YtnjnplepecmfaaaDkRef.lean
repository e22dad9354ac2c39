/-
  Layer 8 (disk): contracts of the document's own answers (New, In, Of, Read), over the translated program.
-/
import Derived.Test.YtnjnplepecmfaaaDkTwin
import Derived.Deep.LoopGhost
import Derived.Deep.CutBlock
namespace Go.Proofs.Ytnjnplepecmfaaa.Dk
open Go.ChangeShapes Go.WideShapes Go.ChangeAt Go.RowKit
set_option linter.unusedVariables false
set_option maxRecDepth 20000

/-- The store of a whole struct or array into a box that was made just ahead of it, its number said by a letter. -/
theorem wpList_store_newAt {P : Program} {ops : Array Oper} {rest : List Oper} {o : Oper} {a : Act} {w : World} {Q : Exit → Act → World → Prop} (hgd : o.guard = none) (ty : TypeId) (x y : Operand) (ho : o.op = .store ty x y) (B : Nat) (hB : w.heap.size = B)
    (z cs : Array Value) (hx : a.eval x = .pointer (some ⟨B, 0, none⟩)) (hy : a.eval y = .agg cs) (hi : (P.info? ty).map (·.size) = some cs.size) (hz : z.size = cs.size) (h1 : cs.all (·.oneCell') = true)
    (h : wpList P ops Q rest (a.put o.dst undef) (w.alloc (.cells cs ty))) : wpList P ops Q (o :: rest) a (w.alloc (.cells z ty)) := by
  subst hB
  exact wpList_store_new hgd ty x y ho z cs hx hy hi hz h1 h
/-- The type of the document's writes that wait. -/
abbrev tR : TypeId := 65
theorem zArr (w : World) : Sem.run Try.prog (zeroValue 33) w = .ok (.agg (dv d0).toArray) w := by kernel_rfl
theorem zRWrite (w : World) : Sem.run Try.prog (zeroValue 65) w = .ok (.agg (wv w0).toArray) w := by kernel_rfl
theorem szArr : (Try.prog.info? 33).map (·.size) = some 64 := by kernel_rfl
theorem szRWrite : (Try.prog.info? 65).map (·.size) = some 65 := by kernel_rfl
theorem iArr (x : Dat) : (Try.prog.info? 33).map (·.size) = some (dv x).length := by rw [dv_len]; exact szArr
theorem dvs (x : Dat) : (dv x).toArray.size = 64 := by simp [dv_len]
theorem wvs (p : Wr) : (wv p).toArray.size = 65 := by simp [wv_len]
theorem iArr' (x : Dat) : (Try.prog.info? 33).map (·.size) = some (dv x).toArray.size := by rw [dvs]; exact szArr
theorem iRWrite (p : Wr) : (Try.prog.info? 65).map (·.size) = some (wv p).length := by rw [wv_len]; exact szRWrite
theorem iRWrite' (p : Wr) : (Try.prog.info? 65).map (·.size) = some (wv p).toArray.size := by rw [wvs]; exact szRWrite
theorem infRWrite : (Try.prog.info? 65).map (fun i => (i.zero, i.size, i.bytes)) = some (some (.agg (wv w0).toArray), 65, 72) := by kernel_rfl
theorem infArr : (Try.prog.info? 33).map (fun i => (i.zero, i.size, i.bytes)) = some (some (.agg (dv d0).toArray), 64, 64) := by kernel_rfl
theorem bRWriteP (k : Nat) (x : Dat) : Try.prog.built 65 [(0, .int .i64 k), (1, .agg (dv x).toArray)] = some (wv (k, x)).toArray := by kernel_rfl
theorem lRWrite (p : Wr) (w : World) : (Instr.buildSlice 61 1 #[(0, .agg (wv p).toArray)]).run Try.prog w = .ok (.slice (some ⟨w.heap.size, 0, none⟩) 1 1) (w.alloc (.cells (wv p).toArray 65)) := by
  obtain ⟨i, hi, hz, hs, hb⟩ := info_parts infRWrite
  refine run_buildSlice w 61 65 1 _ _ i _ Try.underlying61 hi hz (by rw [hs]; decide) (by rw [hs]; decide) ?_
  rw [hs]
  kernel_rfl
theorem lArr (x : Dat) (w : World) : (Instr.buildSlice 60 1 #[(0, .agg (dv x).toArray)]).run Try.prog w = .ok (.slice (some ⟨w.heap.size, 0, none⟩) 1 1) (w.alloc (.cells (dv x).toArray 33)) := by
  obtain ⟨i, hi, hz, hs, hb⟩ := info_parts infArr
  refine run_buildSlice w 60 33 1 _ _ i _ Try.underlying60 hi hz (by rw [hs]; decide) (by rw [hs]; decide) ?_
  rw [hs]
  kernel_rfl
theorem rin_c {lo b bl cl n : Nat} {v : Value} {L : Nat → Dat} {W : List Wr} {w : World} (k : Int) (h : DkAt tR w lo b bl cl n v L W) : Calls Try.prog 13 #[.pointer (some ⟨b, 0, none⟩), .int .i64 k] w fun e w' => e = .returned (.bool (inB n k)) ∧ w = w' := by
  have hc := h.c0
  clear h
  go_enter Try.func13, Try.ntmps13
  by_cases h0 : 0 ≤ k
  · by_cases h1 : k < n
    · have HB : Hid (inB n k = true) := by show _ = _; simp [inB, h0, h1]
      go_wp2
      go_ret
      exact ⟨by rw [HB.out]; rfl, rfl⟩
    · have HB : Hid (inB n k = false) := by show _ = _; simp [inB]; omega
      have h1' : decide (k < (n : Int)) = false := decide_eq_false h1
      go_wp2
      go_ret
      exact ⟨by rw [HB.out]; rfl, rfl⟩
  · have h1 : decide (0 ≤ k) = false := decide_eq_false h0
    have HB : Hid (inB n k = false) := by show _ = _; simp [inB]; omega
    go_wp2
    go_ret
    exact ⟨by rw [HB.out]; rfl, rfl⟩
/-- Data of some bytes, noughts behind. -/
def ofD (xs : List Int) : Dat := fun j => xs.getD j 0
/-- .. as far as they are laid. -/
def ofN (xs : List Int) (i : Nat) : Dat := fun j => if j < i then xs.getD j 0 else 0
theorem dv_congr {x y : Dat} (h : ∀ j, j < 64 → x j = y j) : dv x = dv y := by
  unfold dv
  exact List.map_congr_left (fun j hj => by rw [h j (List.mem_range.1 hj)])
set_option maxHeartbeats 1000000 in
theorem of_c (A : Option Addr) (c : Nat) (xs : List Int) (w : World) (h : Rd .u8 w 0 w.heap.size A xs) (hl : xs.length ≤ 9223372036854775807) :
    Calls Try.prog 18 #[.slice A xs.length c] w fun e w' => e = .returned (.agg (dv (ofD xs)).toArray) ∧ But [] w w' := by
  obtain ⟨m, hm⟩ : ∃ m, m = xs.length := ⟨_, rfl⟩
  rw [← hm] at hl ⊢
  have HM : Hid (m = xs.length) := hm
  have H : Hid (Rd .u8 w 0 w.heap.size A xs) := h
  have hz := zArr
  obtain ⟨g, hg⟩ : ∃ g, g = w.heap.size := ⟨_, rfl⟩
  have HG : Hid (g = w.heap.size) := hg
  have hT : ((w.alloc (.cells (dv d0).toArray 33)).alloc (.cells (dv d0).toArray 33)).there w.heap.size 0 64 := by
    have h0 := there_new w (dv d0).toArray 33 64 (dvs d0)
    exact fun j hj => ⟨by rw [((But.refl [] _).alloc _).cell (p := ⟨w.heap.size, 0 + j, none⟩) (by show _ < _; simp) (by simp)]; exact (h0 j hj).1, by rw [((But.refl [] _).alloc _).frozen (p := ⟨w.heap.size, 0 + j, none⟩) (by show _ < _; simp) (by simp)]; exact (h0 j hj).2⟩
  have hV : VB ((w.alloc (.cells (dv d0).toArray 33)).alloc (.cells (dv d0).toArray 33)) (w.heap.size + 1) 64 (fun j => .int .u8 (ofN xs 0 j)) := by
    have := VB.new (w.alloc (.cells (dv d0).toArray 33)) (dv d0).toArray 33 64 (dvs d0) (fun j => .int .u8 (ofN xs 0 j)) (fun j hj => by
      have := dv_get d0 j hj
      simpa [ofN, d0] using this)
    rwa [show (w.alloc (.cells (dv d0).toArray 33)).heap.size = w.heap.size + 1 by simp] at this
  have hB0 : But [] w ((w.alloc (.cells (dv d0).toArray 33)).alloc (.cells (dv d0).toArray 33)) := ((But.refl [] w).alloc _).alloc _
  clear h hm
  go_enter Try.func18, Try.ntmps18
  go_wp2_with (refine wpList_store_newAt rfl 33 _ _ rfl (w.heap.size + 1) (by simp) (dv d0).toArray (dv d0).toArray rfl rfl (iArr' _) rfl (dv_all _) ?_)
  rw [← hg] at hT hV ⊢
  generalize (w.alloc (.cells (dv d0).toArray 33)).alloc (.cells (dv d0).toArray 33) = w1 at hT hV hB0 ⊢
  clear hg
  go_loopg [4] 64 (fun g0 i wx => ∃ j : Nat, j + g0 = 64 ∧ j ≤ m ∧ i = .int .i64 j ∧ Hid (VB wx (g + 1) 64 (fun q => .int .u8 (ofN xs j q))) ∧ Hid (wx.there g 0 64) ∧ Hid (Below g w wx))
  case atStart => exact ⟨0, by omega, Nat.zero_le _, rfl, hV, hT, hB0.below (by have := HG.out; omega) (by simp)⟩
  case round =>
    obtain ⟨j, hjg, hjm, rfl, HV, HT, HB⟩ := hrel
    by_cases hlt : j < m
    · by_cases h64 : j < 64
      · have hjx : j < xs.length := by have := HM.out; omega
        obtain ⟨gx, ox, hA, -, hgx, hcx⟩ := H.out.at_ hjx
        subst hA
        have hc1 := (HB.out.cell (p := ⟨gx, ox + j, none⟩) (by show gx < g; have := HG.out; omega)).trans (hcx j hjx)
        obtain ⟨q, hq⟩ : ∃ q, q = xs.getD j 0 := ⟨_, rfl⟩
        rw [← hq] at hc1
        have HQ : Hid (xs.getD j 0 = q) := hq.symm
        obtain ⟨hc2, hf2⟩ := HV.out j h64
        have hjm' : (j : Int) < (m : Int) := by omega
        clear hcx hq
        go_wp2
        go_roundg (64 - (j + 1))
        case measure => omega
        case rel =>
          refine ⟨j + 1, by omega, by omega, by go_num, ?_, ?_, ?_⟩
          · refine VB.congr (HV.out.set (k := j) (.int .u8 q)) (fun i hi => ?_)
            show (if i = j then _ else _) = Value.int .u8 (ofN xs (j + 1) i)
            unfold ofN
            by_cases e : i = j
            · subst e
              rw [if_pos rfl, if_pos (by omega), HQ.out]
            · rw [if_neg e]
              by_cases e2 : i < j
              · rw [if_pos e2, if_pos (by omega)]
              · rw [if_neg e2, if_neg (by omega)]
          · exact fun i hi => ⟨by rw [World.cell?_setCell_other _ _ _ _ (fun e => by injection e with e; omega)]; exact (HT.out i hi).1, by rw [World.frozen?_setCell]; exact (HT.out i hi).2⟩
          · exact HB.out.setCell (p := ⟨g + 1, j, none⟩) (by show g ≤ g + 1; omega) _
      · obtain rfl : j = 64 := by omega
        have HR : Hid (wr.rangeAt (g + 1) 0 (dv (ofN xs 64))) := VB.range HV.out _ (by rw [dv_len]; omega) (fun i hi => by rw [dv_len] at hi; rw [dv_get _ _ hi, Nat.zero_add])
        have HT2 : Hid (wr.there g 0 (dv (ofN xs 64)).toArray.size) := by show World.there _ _ _ _; rw [dvs]; exact HT.out
        have HE : Hid (dv (ofD xs) = dv (ofN xs 64)) := dv_congr (fun j hj => by unfold ofD ofN; rw [if_pos hj])
        have h64' : decide ((64 : Int) < 64) = false := by decide
        have hjm' : (64 : Int) < (m : Int) := by omega
        go_wp2_with (first
          | (refine wpList_load_mid rfl 33 _ rfl (g + 1) 0 rfl (dv (ofN xs 64)) _ HR.out Try.underlying33 rfl (iArr _) ?_)
          | (refine wpList_store_mid rfl 33 _ _ rfl g 0 (dv (ofN xs 64)).toArray rfl rfl ?ht (iArr' _) (dv_all _) ?_; case ht => exact HT2.out))
        refine bodyPost_ret (results_range1 rfl _ _ g 0 (dv (ofN xs 64)) _ rfl (World.rangeAt_setCells_same _ _ _ _ (by rw [dv_len]; exact HT.out)) Try.underlying33 rfl (iArr _)) rfl ?_
        refine ⟨by rw [HE.out], ?_⟩
        have hb := HB.out
        rw [HG.out] at hb ⊢
        exact (But.of_below hb).setCells (.inr (Nat.le_refl _)) _ _
    · obtain rfl : j = m := by omega
      have HR : Hid (wr.rangeAt (g + 1) 0 (dv (ofN xs j))) := VB.range HV.out _ (by rw [dv_len]; omega) (fun i hi => by rw [dv_len] at hi; rw [dv_get _ _ hi, Nat.zero_add])
      have HT2 : Hid (wr.there g 0 (dv (ofN xs j)).toArray.size) := by show World.there _ _ _ _; rw [dvs]; exact HT.out
      have HE : Hid (dv (ofD xs) = dv (ofN xs j)) := dv_congr (fun i hi => by
        unfold ofD ofN
        by_cases e : i < j
        · rw [if_pos e]
        · rw [if_neg e, List.getD_eq_getElem?_getD, List.getElem?_eq_none (by have := HM.out; omega)]
          rfl)
      have hjm' : decide ((j : Int) < (j : Int)) = false := by simp
      go_wp2_with (first
        | (refine wpList_load_mid rfl 33 _ rfl (g + 1) 0 rfl (dv (ofN xs j)) _ HR.out Try.underlying33 rfl (iArr _) ?_)
        | (refine wpList_store_mid rfl 33 _ _ rfl g 0 (dv (ofN xs j)).toArray rfl rfl ?ht (iArr' _) (dv_all _) ?_; case ht => exact HT2.out))
      refine bodyPost_ret (results_range1 rfl _ _ g 0 (dv (ofN xs j)) _ rfl (World.rangeAt_setCells_same _ _ _ _ (by rw [dv_len]; exact HT.out)) Try.underlying33 rfl (iArr _)) rfl ?_
      refine ⟨by rw [HE.out], ?_⟩
      have hb := HB.out
      rw [HG.out] at hb ⊢
      exact (But.of_below hb).setCells (.inr (Nat.le_refl _)) _ _
end Go.Proofs.Ytnjnplepecmfaaa.Dk
