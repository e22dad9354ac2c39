/-
  strings.SplitSeq at a line feed: the iterator gives the lines, one by one.
-/
import Derived.Test.YtpnmnokedpagmaaGreatDoorAsmStr
import Derived.Test.YtpnmnokedpagmaaGreatDoorRangeOwn
import Derived.Shelf.Abstract
import Derived.Shelf.RegionOpen
import Derived.OwnWalkIn
import Derived.TacticsInMore
import Derived.LoopNIn
import Derived.LoopIn
namespace Go.Proofs.YtpnmnokedpagmaaGreatDoor
open Go.RowKit Go.Shelf
set_option linter.unusedVariables false
set_option linter.unusedSimpArgs false
set_option maxRecDepth 20000

theorem seqMake_c (t : Bs) (w : World) : Calls Tryz.prog 15 #[.string (BA t), .string ⟨#[10]⟩] w fun e w' =>
    e = .returned (.func (.func 41) #[] #[.pointer (some ⟨w.heap.size + 1, 0, none⟩), .pointer (some ⟨w.heap.size, 0, none⟩), .pointer (some ⟨w.heap.size + 2, 0, none⟩)]) ∧
    w' = ((w.alloc (.cells #[.string (BA t)] 9)).alloc (.cells #[.string ⟨#[10]⟩] 9)).alloc (.cells #[.int .i64 0] 3) := by
  go_enter Tryz.func15, Tryz.ntmps15
  go_wp2
  go_ret
  exact ⟨rfl, rfl⟩

/-- How long the text is that is still to come. -/
def boxLen (s0 : Nat) (w : World) : Nat := match w.cell? ⟨s0, 0, none⟩ with | some (.string s) => s.size | _ => 0
theorem boxLen_eq {s0 : Nat} {w : World} {t : Bs} (h : w.cell? ⟨s0, 0, none⟩ = some (.string (BA t))) : boxLen s0 w = t.length := by unfold boxLen; rw [h]; rfl
theorem grown_set (w : World) (s0 j : Nat) (v : Value) : w.grownBy (w.setCell ⟨s0, j, none⟩ v) (some s0) :=
  ⟨rfl, rfl, rfl, by simp [World.setCell], fun k _ hk => Below.heap_setCell _ _ _ _ (fun e => hk (by rw [e]))⟩

section
attribute [local go_sem] Oper.semAt_some
set_option maxHeartbeats 2000000 in
theorem lines_own (n s0 : Nat) (txt : Bs) (hl : txt.length ≤ 4294967296) (w : World) (c0 : w.cell? ⟨s0, 0, none⟩ = some (.string (BA txt))) (z0 : w.frozen? ⟨s0, 0, none⟩ = false)
    (c1 : w.cell? ⟨s0 + 1, 0, none⟩ = some (.string ⟨#[10]⟩)) (c2 : w.cell? ⟨s0 + 2, 0, none⟩ = some (.int .i64 0)) (hn : 1 ≤ n) :
    SeqOwn Fence.wide n Tryz.prog 41 #[.pointer (some ⟨s0 + 1, 0, none⟩), .pointer (some ⟨s0, 0, none⟩), .pointer (some ⟨s0 + 2, 0, none⟩)] (fun x : Bs => #[.string (BA x)]) s0 3 (linesOf txt) w := by
  intro l J Jx W hW hJ hJx hY h0
  have d0 : W.cell? ⟨s0, 0, none⟩ = some (.string (BA txt)) := (hW.cell (p := ⟨s0, 0, none⟩) (lt_of_cell c0)).trans c0
  have y0 : W.frozen? ⟨s0, 0, none⟩ = false := (hW.frozen (p := ⟨s0, 0, none⟩) (lt_of_cell c0)).trans z0
  have d1 : W.cell? ⟨s0 + 1, 0, none⟩ = some (.string ⟨#[10]⟩) := (hW.cell (p := ⟨s0 + 1, 0, none⟩) (lt_of_cell c1)).trans c1
  have d2 : W.cell? ⟨s0 + 2, 0, none⟩ = some (.int .i64 0) := (hW.cell (p := ⟨s0 + 2, 0, none⟩) (lt_of_cell c2)).trans c2
  clear c0 c1 c2 z0 hW
  refine callsIn_of_wp Tryz.func41 rfl trivial ?_ rfl
  simp only [Tryz.ntmps41, List.size_toArray, List.length_cons, List.length_nil, Nat.reduceAdd, Nat.reduceSub, Array.replicate_succ, Array.replicate_zero, List.push_toArray, List.append_toArray, List.nil_append, List.cons_append]
  gi_wp2
  gi_loopw [7] (fun _ wr => ∃ pre rest, linesOf txt = pre ++ linesOf rest ∧ rest.length ≤ txt.length ∧ wr.cell? ⟨s0, 0, none⟩ = some (.string (BA rest)) ∧ wr.frozen? ⟨s0, 0, none⟩ = false ∧ wr.cell? ⟨s0 + 1, 0, none⟩ = some (.string ⟨#[10]⟩) ∧ wr.cell? ⟨s0 + 2, 0, none⟩ = some (.int .i64 0) ∧ J pre wr)
    (fun _ wr => boxLen s0 wr)
  case atStart => exact ⟨[], txt, rfl, Nat.le_refl _, d0, y0, d1, d2, h0⟩
  case round =>
    obtain ⟨pre, rest, hx, hr, e0, f0, e1, e2, hj⟩ := hrel
    have hix := Tryz.strings_Index_one (BA rest) 10
    rw [BA_data] at hix
    rcases (by omega : Lib.indexByte rest 10 < 0 ∨ 0 ≤ Lib.indexByte rest 10) with hneg | hpos
    · have hi : Lib.indexByte rest 10 = -1 := by have := idx_ge rest 10; omega
      rw [linesOf_none rest hi] at hx
      rw [hi] at hix
      obtain ⟨fn, tmps, assign, body, hy, hR⟩ := hY pre rest [] wr hx hj
      have HX : Hid _ := hx
      clear hY hi hneg hx
      gi_wp2_with (refine ⟨trivial, ?_⟩; gi_at_call 43; refine (callsIn_wide.2 (hix _)).mono ?_; rintro e w' ⟨rfl, rfl⟩)
      refine hR.mono ?_
      rintro e W3 (⟨rfl, hj3, hk3⟩ | ⟨rfl, hx3⟩)
      · gi_wp2
        go_end0
        exact ⟨⟨_, rfl⟩, .inl (by rw [HX.out]; exact hj3)⟩
      · gi_wp2
        go_end0
        exact ⟨⟨_, rfl⟩, .inr ⟨pre, rest, [], HX.out, hx3⟩⟩
    · obtain ⟨i, hi⟩ : ∃ i : Nat, Lib.indexByte rest 10 = i := ⟨(Lib.indexByte rest 10).toNat, by omega⟩
      rw [linesOf_some rest i hi] at hx
      rw [hi] at hix
      have hlt : i < rest.length := by
        obtain ⟨h1, -⟩ := Lib.indexByte_some hi
        exact (List.getElem?_eq_some_iff.1 h1).1
      have hsz := BA_size rest
      have k1 : (0 : Int) ≤ ↑i := by omega
      have k2 : (↑i : Int) ≤ ↑(BA rest).size := by omega
      have k3 : (0 : Int) ≤ ↑i + 1 := by omega
      have k4 : (↑i + 1 : Int) ≤ ↑(BA rest).size := by omega
      have hex : (BA rest).extract 0 i = BA (rest.take i) := by rw [BA_extract]; simp
      have hey : (BA rest).extract (i + 1) (BA rest).size = BA (rest.drop (i + 1)) := by rw [BA_extract, BA_size, List.take_of_length_le (by simp)]
      obtain ⟨fn, tmps, assign, body, hy, hR⟩ := hY pre (rest.take i) (linesOf (rest.drop (i + 1))) wr hx hj
      have HX : Hid _ := hx
      have HSZ : Hid _ := hsz
      clear hi hpos hx hsz
      gi_wp2_with (refine ⟨trivial, ?_⟩; gi_at_call 43; refine (callsIn_wide.2 (hix _)).mono ?_; rintro e w' ⟨rfl, rfl⟩)
      refine hR.mono ?_
      rintro e W3 (⟨rfl, hj3, hk3⟩ | ⟨rfl, hx3⟩)
      · have g0 := (World.cell?_of_block (a := ⟨s0, 0, none⟩) (hk3 s0 (by omega) (by omega))).trans e0
        have gz := (World.frozen?_of_block (a := ⟨s0, 0, none⟩) (hk3 s0 (by omega) (by omega))).trans f0
        have g1 := (World.cell?_of_block (a := ⟨s0 + 1, 0, none⟩) (hk3 (s0 + 1) (by omega) (by omega))).trans e1
        have g2 := (World.cell?_of_block (a := ⟨s0 + 2, 0, none⟩) (hk3 (s0 + 2) (by omega) (by omega))).trans e2
        gi_wp2
        go_roundw
        case rel =>
          refine ⟨pre ++ [rest.take i], rest.drop (i + 1), by rw [HX.out]; simp, by simp; omega, ?_, ?_, ?_, ?_, hJ _ _ _ hj3 (grown_set _ _ _ _)⟩
          · exact World.cell?_setCell_same _ _ _ g0
          · exact (frozen_setCell _ _ _ _).trans gz
          · exact (World.cell?_setCell_other _ _ _ _ (fun e => by injection e with e; omega)).trans g1
          · exact (World.cell?_setCell_other _ _ _ _ (fun e => by injection e with e; omega)).trans g2
        case measure =>
          rw [boxLen_eq e0, boxLen_eq (t := rest.drop (i + 1)) (World.cell?_setCell_same _ _ _ g0)]
          simp; omega
      · gi_wp2
        refine bodyPost_ret (results_none rfl _ _ _) rfl ?_
        exact ⟨⟨_, rfl⟩, .inr ⟨pre, rest.take i, linesOf (rest.drop (i + 1)), HX.out, hx3⟩⟩
end
end Go.Proofs.YtpnmnokedpagmaaGreatDoor
