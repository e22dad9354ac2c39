/-
  Layer 4 (frames): contracts of the document's own answers (New, At, Copy), over the translated program.
-/
import Derived.Test.YthabdcejjnhpbaaFrMore
namespace Go.Proofs.Ythabdcejjnhpbaa
open Go.ChangeShapes Go.WideShapes Go.ChangeAt Go.RowKit
set_option linter.unusedVariables false

theorem Try.infoU32 : (Try.prog.info? 28).map (fun i => (i.zero, i.size, i.bytes)) = some (some (.int .u32 0), 1, 4) := by kernel_rfl
theorem own_step {w1 : World} {B m : Nat} {e : TypeId} {k : IntKind} {f : Nat → Int} {v' : Value} {y : Int} (h : w1.ownsRow B e 1 v' (m + 1) ((tab m f).map (Value.int k) ++ [.int k y])) (hy : y = f m) :
    w1.ownsRow B e 1 v' (m + 1) ((tab (m + 1) f).map (Value.int k)) := by
  rw [tab_snoc, ← hy]; simpa using h
theorem tab_nought (n : Nat) : tab n (fun _ => 0) = List.replicate n 0 := by simp [tab, List.map_const']

set_option maxHeartbeats 1000000 in
theorem rnew_c (n : Nat) (w : World) (h0 : 0 < n) (h1 : n ≤ 256) :
    Calls Try.prog 7 #[.int .i64 n] w fun e w' => ∃ bx c, e = .returned (.slice (some ⟨bx, 0, none⟩) (16 * n) c) ∧ w.heap.size ≤ bx ∧ Blk w' bx (List.replicate (16 * n) 0) ∧ But [] w w' := by
  obtain ⟨i0, hi, hz0, hz1, hz2⟩ := info_parts Try.infoU32
  have HI : Hid (Try.prog.info? 28 = some i0) := hi
  have HZ0 : Hid (i0.zero = some (.int .u32 0)) := hz0
  have HZ1 : Hid (i0.size = 1) := hz1
  have HZ2 : Hid (i0.bytes = 4) := hz2
  clear hi hz0 hz1 hz2
  go_enter Try.func7, Try.ntmps7
  go_wp2
  go_loopw [3, 4] (fun v i wr => ∃ m : Nat, m ≤ 16 * n ∧ i = .int .i64 m ∧ wr.ownsRow w.heap.size 28 1 v m ((tab m (fun _ => 0)).map (Value.int .u32)) ∧ Below w.heap.size w wr) (fun _ i _ => 16 * n - (intOf i).toNat)
  case atStart => exact ⟨0, Nat.zero_le _, rfl, World.ownsRow_nil _ _ _ _, Below.refl _ _⟩
  case round =>
    obtain ⟨m, hmn, rfl, hown, hbel⟩ := hrel
    have hsz := hbel.size
    by_cases hlt : m < 16 * n
    · go_wp2_with (first
        | (at_builtin; refine wpList_append_own _ rfl _ _ 25 rfl w.heap.size 28 i0 (.int .u32 0) 1 4 Try.underlying25 HI.out HZ0.out HZ1.out HZ2.out rfl (by decide) _ _ _ rfl (hown.alloc _) ⟨wr.heap.size, 0, none⟩ 1 1 [.int .u32 0] rfl rfl (cell_one_new _ _ _) (one_int _ _) ?c3 ?c4 ?c5 ?_))
      case c3 => unfold maxLen; omega
      case c4 => omega
      case c5 => first | omega | (simp; omega)
      · intro v' w2 hown3 hgrow _
        have R := own_step hown3 rfl
        have B2 : Below w.heap.size w w2 := (hbel.alloc hsz _).grown hgrow (by simp; omega) (fun k h => (hown.lt k h).1)
        clear hown3 hgrow
        go_wp2
        go_roundw
        case rel => exact ⟨m + 1, by omega, by go_num, R, B2⟩
        case measure => simp [intOf] <;> omega
    · obtain rfl : m = 16 * n := by omega
      obtain ⟨g, cap, hv, hg, _, hblk⟩ := own_blk hown (by omega)
      rw [tab_nought] at hblk
      have HB : Hid (Blk wr g (List.replicate (16 * n) 0)) := hblk
      rw [hv]
      clear hown hblk hv
      go_wp2
      go_ret
      exact ⟨g, cap, rfl, hg, HB.out, But.of_below hbel⟩
theorem rnew_no (n : Int) (w : World) (h : n < 1 ∨ 256 < n) :
    Calls Try.prog 7 #[.int .i64 n] w fun e w' => e = .returned (.slice none 0 0) ∧ w = w' := by
  go_enter Try.func7, Try.ntmps7
  by_cases h1 : n < 1
  · go_wp2
    go_ret
    exact ⟨rfl, rfl⟩
  · have h2 : 256 < n := by omega
    clear h
    go_wp2
    go_ret
    exact ⟨rfl, rfl⟩

theorem at_c (A : Option Addr) (c n f a : Nat) (w : World) (hn : n ≤ 256) (hf : f < n) (ha : a < 16) :
    Calls Try.prog 20 #[.slice A (16 * n) c, .int .i64 f, .int .i64 a] w fun e w' => e = .returned (.int .i64 (16 * (f : Int) + (a : Int))) ∧ w = w' := by
  go_enter Try.func20, Try.ntmps20
  go_wp2
  go_ret
  exact ⟨rfl, rfl⟩
theorem at_no (A : Option Addr) (c n : Nat) (f a : Int) (w : World) (hn : n ≤ 256) (hw : hasW n f a = false) :
    Calls Try.prog 20 #[.slice A (16 * n) c, .int .i64 f, .int .i64 a] w fun e w' => e = .returned (.int .i64 (-1)) ∧ w = w' := by
  have HW : Hid (¬ ((0 ≤ f ∧ f < n) ∧ 0 ≤ a ∧ a < 16)) := by show ¬ _; simpa only [hasW, decide_eq_false_iff_not] using hw
  clear hw
  go_enter Try.func20, Try.ntmps20
  by_cases h1 : f < 0
  · go_wp2
    go_ret
    exact ⟨rfl, rfl⟩
  · by_cases h2 : (n : Int) ≤ f
    · go_wp2
      go_ret
      exact ⟨rfl, rfl⟩
    · by_cases h3 : a < 0
      · go_wp2
        go_ret
        exact ⟨rfl, rfl⟩
      · have h4 : 15 < a := by have := HW.out; omega
        go_wp2
        go_ret
        exact ⟨rfl, rfl⟩

set_option maxHeartbeats 1000000 in
theorem rcopy_c (bx c n t f : Nat) (xs : List Int) (w : World) (hn : n ≤ 256) (hl : xs.length = 16 * n) (hb : Blk w bx xs) (ht : t < n) (hf : f < n) :
    Calls Try.prog 21 #[.slice (some ⟨bx, 0, none⟩) (16 * n) c, .int .i64 t, .int .i64 f] w fun e w' => e = .returned (.bool true) ∧ Blk w' bx (layL xs (t * 16) (xs.drop (f * 16))) ∧ But [bx] w w' := by
  have HB : Hid (Blk w bx xs) := hb
  have HL : Hid (xs.length = 16 * n) := hl
  clear hb hl
  go_enter Try.func21, Try.ntmps21
  go_wp2_with fail
  refine (at_c _ c n t 0 _ hn ht (by omega)).mono ?_
  rintro e w1 ⟨rfl, rfl⟩
  go_wp2_with fail
  refine (at_c _ c n f 0 _ hn hf (by omega)).mono ?_
  rintro e w1 ⟨rfl, rfl⟩
  go_wp2
  go_loopw [7] (fun i wr => ∃ m : Nat, m ≤ 16 ∧ i = .int .i64 m ∧ Blk wr bx (layN xs (t * 16) (xs.drop (f * 16)) m) ∧ But [bx] w wr) (fun i _ => 16 - (intOf i).toNat)
  case atStart => exact ⟨0, Nat.zero_le _, rfl, by rw [layN_zero]; exact HB.out, But.refl _ _⟩
  case round =>
    obtain ⟨m, hm, rfl, hblk, hbut⟩ := hrel
    have HK : Hid (Blk wr bx (layN xs (t * 16) (xs.drop (f * 16)) m)) := hblk
    have HU : Hid (But [bx] w wr) := hbut
    clear hblk hbut
    by_cases hlt : m < 16
    · have htm : t * 16 + m < xs.length := by have := HL.out; omega
      have hfm : f * 16 + m < xs.length := by have := HL.out; omega
      obtain ⟨hc1, -⟩ := HK.out (f * 16 + m) (by rw [layN_len]; exact hfm)
      obtain ⟨hc2, hz2⟩ := HK.out (t * 16 + m) (by rw [layN_len]; exact htm)
      obtain ⟨q, hq⟩ : ∃ q, q = (layN xs (t * 16) (xs.drop (f * 16)) m).getD (f * 16 + m) 0 := ⟨_, rfl⟩
      obtain ⟨q2, hq2⟩ : ∃ q, q = (layN xs (t * 16) (xs.drop (f * 16)) m).getD (t * 16 + m) 0 := ⟨_, rfl⟩
      rw [← hq, Nat.mul_comm f 16] at hc1
      rw [← hq2, Nat.mul_comm t 16] at hc2
      rw [Nat.mul_comm t 16] at hz2
      have HQ : Hid (q = (xs.drop (f * 16)).getD m 0) := by
        show q = _
        rw [hq, layN_get _ _ _ _ _ hfm, if_neg (by omega)]
        simp [List.getD]
      have HS : Hid (Blk (wr.setCell ⟨bx, 16 * t + m, none⟩ (.int .u32 q)) bx (layN xs (t * 16) (xs.drop (f * 16)) (m + 1))) := by
        show Blk _ _ _
        rw [← layN_set _ _ _ _ htm, ← HQ.out, Nat.mul_comm 16 t]
        exact HK.out.set (by rw [layN_len]; exact htm) q
      have hU2 : Hid (But [bx] w (wr.setCell ⟨bx, 16 * t + m, none⟩ (.int .u32 q))) := HU.out.setCell (by simp) _
      clear hq hq2
      go_wp2
      go_roundw
      case rel => exact ⟨m + 1, by omega, by go_num, HS.out, hU2.out⟩
      case measure => simp [intOf] <;> omega
    · obtain rfl : m = 16 := by omega
      go_wp2
      go_ret
      exact ⟨rfl, HK.out, HU.out⟩
theorem rcopy_no (A : Option Addr) (c n : Nat) (t f : Int) (w : World) (hn : n ≤ 256) (hh : (hasF n t && hasF n f) = false) :
    Calls Try.prog 21 #[.slice A (16 * n) c, .int .i64 t, .int .i64 f] w fun e w' => e = .returned (.bool false) ∧ w = w' := by
  have HH : Hid ((hasF n t && hasF n f) = false) := hh
  clear hh
  go_enter Try.func21, Try.ntmps21
  cases ht : hasF n t with
  | false =>
    have HW : Hid (hasW n t 0 = false) := by
      show hasW n t 0 = false
      simp only [hasF, hasW, decide_eq_false_iff_not] at ht ⊢
      omega
    clear ht HH
    go_wp2_with fail
    refine (at_no A c n t 0 _ hn HW.out).mono ?_
    rintro e w1 ⟨rfl, rfl⟩
    go_wp2
    go_ret
    exact ⟨rfl, rfl⟩
  | true =>
    have hf : Hid (hasW n f 0 = false) := by
      show hasW n f 0 = false
      have h := HH.out
      rw [ht] at h
      simp only [Bool.true_and, hasF, hasW, decide_eq_false_iff_not] at h ⊢
      omega
    obtain ⟨t', rfl, ht'⟩ : ∃ t' : Nat, t = t' ∧ t' < n := by
      simp only [hasF, decide_eq_true_eq] at ht
      exact ⟨t.toNat, by omega, by omega⟩
    clear ht HH
    go_wp2_with fail
    refine (at_c A c n t' 0 _ hn ht' (by omega)).mono ?_
    rintro e w1 ⟨rfl, rfl⟩
    go_wp2_with fail
    refine (at_no A c n f 0 _ hn hf.out).mono ?_
    rintro e w1 ⟨rfl, rfl⟩
    go_wp2
    go_ret
    exact ⟨rfl, rfl⟩

/-- The sixteen words of a page of a word. -/
def pageL (v : Int) : List Int := (List.range 16).map fun (i : Nat) => (v + (i : Int)) % 4294967296
theorem pageL_len (v : Int) : (pageL v).length = 16 := by simp [pageL]
theorem pageL_get (v : Int) (i : Nat) (h : i < 16) : (pageL v).getD i 0 = (v + (i : Int)) % 4294967296 := by simp [pageL, List.getD, h]
/-- A result that is an array in memory. -/
theorem results_range1 {P : Program} {fn : Func} {p : Tmp} {ty : TypeId} (h : fn.results = #[.cell p ty]) (tmps : Array Value) (w : World) (b o : Nat) (cs : List Value) (d : TypeDesc)
    (hp : tmps.getD p undef = .pointer (some ⟨b, o, none⟩)) (hc : w.rangeAt b o cs) (hu : P.underlying ty = some d) (hd : d.isRow = true) (hi : (P.info? ty).map (·.size) = some cs.length) :
    (results fn tmps).run P w = .ok (.agg cs.toArray) w := by
  have hp' : tmps[p]?.getD undef = .pointer (some ⟨b, o, none⟩) := by simpa using hp
  simp [results, h, hp', asAddr, run_loadVar_mid w b o ty cs d hc hu hd hi]
theorem zero_blk (w : World) (t : TypeId) : Blk (w.alloc (.cells (Array.replicate 16 (.int .u32 0)) t)) w.heap.size (List.replicate 16 0) := fun j hj => by
  rw [List.length_replicate] at hj
  rw [cell_of_row _ _ j _ t (0, 0) (heap_alloc_last w _), frozen_of_row _ _ j _ t (heap_alloc_last w _)]
  have e : (List.replicate 16 (0 : Int)).getD j 0 = 0 := by rw [List.getD_eq_getElem?_getD, List.getElem?_replicate, if_pos hj]; rfl
  exact ⟨by rw [e, Array.getElem?_replicate, if_pos hj], rfl⟩
theorem zero_blk2 (w : World) (o : Obj) (t : TypeId) : Blk ((w.alloc o).alloc (.cells (Array.replicate 16 (.int .u32 0)) t)) (w.heap.size + 1) (List.replicate 16 0) := by
  have h := zero_blk (w.alloc o) t
  rwa [show (w.alloc o).heap.size = w.heap.size + 1 by simp] at h
set_option maxHeartbeats 1000000 in
theorem pageOf_c (v : Int) (w : World) :
    Calls Try.prog 17 #[.int .u32 v] w fun e w' => e = .returned (.agg (pgv (pageL v) 0).toArray) ∧ But [] w w' := by
  go_enter Try.func17, Try.ntmps17
  go_wp2
  go_loopw [4] (fun i wr => ∃ m : Nat, m ≤ 16 ∧ i = .int .i64 m ∧ Blk wr (w.heap.size + 1) (layN (List.replicate 16 0) 0 (pageL v) m) ∧ wr.there w.heap.size 0 16 ∧ But [] w wr) (fun i _ => 16 - (intOf i).toNat)
  case atStart =>
    refine ⟨0, Nat.zero_le _, rfl, ?_, World.there_alloc (there_new _ _ _ _ rfl) _, ((But.refl [] w).alloc _).alloc _⟩
    rw [layN_zero]
    exact zero_blk2 _ _ _
  case round =>
    obtain ⟨m, hm, rfl, hblk, hth, hbut⟩ := hrel
    have HK : Hid (Blk wr (w.heap.size + 1) (layN (List.replicate 16 0) 0 (pageL v) m)) := hblk
    have HT : Hid (wr.there w.heap.size 0 16) := hth
    have HU : Hid (But [] w wr) := hbut
    clear hblk hbut hth
    by_cases hlt : m < 16
    · obtain ⟨hc2, hz2⟩ := HK.out m (by rw [layN_len]; simpa using hlt)
      obtain ⟨q2, hq2⟩ : ∃ q, q = (layN (List.replicate 16 0) 0 (pageL v) m).getD m 0 := ⟨_, rfl⟩
      rw [← hq2] at hc2
      have HQ : Hid ((pageL v).getD m 0 = (v + (m : Int)) % 4294967296) := pageL_get v m hlt
      have HS : Hid (Blk (wr.setCell ⟨w.heap.size + 1, m, none⟩ (.int .u32 ((v + (m : Int)) % 4294967296))) (w.heap.size + 1) (layN (List.replicate 16 0) 0 (pageL v) (m + 1))) := by
        show Blk _ _ _
        have h := layN_set (List.replicate 16 0) 0 (pageL v) m (by rw [Nat.zero_add, List.length_replicate]; exact hlt)
        rw [← h, HQ.out, Nat.zero_add]
        exact HK.out.set (by rw [layN_len, List.length_replicate]; exact hlt) _
      have hU2 : Hid (But [] w (wr.setCell ⟨w.heap.size + 1, m, none⟩ (.int .u32 ((v + (m : Int)) % 4294967296)))) := HU.out.setCell (.inr (by show w.heap.size ≤ w.heap.size + 1; omega)) _
      have hT2 : Hid ((wr.setCell ⟨w.heap.size + 1, m, none⟩ (.int .u32 ((v + (m : Int)) % 4294967296))).there w.heap.size 0 16) := World.there_setCells HT.out (w.heap.size + 1) m [.int .u32 ((v + (m : Int)) % 4294967296)]
      clear hq2
      go_wp2
      go_roundw
      case rel => exact ⟨m + 1, by omega, by go_num, HS.out, hT2.out, hU2.out⟩
      case measure => simp [intOf] <;> omega
    · obtain rfl : m = 16 := by omega
      have HE : Hid (pgv (layN (List.replicate 16 0) 0 (pageL v) 16) 0 = pgv (pageL v) 0) := by
        show _ = _
        unfold pgv
        apply List.map_congr_left
        intro i hi
        have hi := List.mem_range.1 hi
        rw [layN_get _ _ _ _ _ (by rw [List.length_replicate]; omega), if_pos (by omega)]
        rfl
      have HR : Hid (wr.rangeAt (w.heap.size + 1) 0 (pgv (pageL v) 0)) := by
        show wr.rangeAt _ _ _
        rw [← HE.out]
        exact HK.out.range (by rw [layN_len, List.length_replicate]; omega)
      clear HE HK
      go_wp2_with (first
        | (refine wpList_load_mid rfl 40 _ rfl (w.heap.size + 1) 0 rfl (pgv (pageL v) 0) _ HR.out Try.underlying40 rfl (pgv_info _ _) ?_)
        | (refine wpList_store_mid rfl 40 _ _ rfl w.heap.size 0 (pgv (pageL v) 0).toArray rfl rfl (pgv_there HT.out) (pgv_info' _ _) (pgv_all _ _) ?_))
      refine bodyPost_ret (results_range1 rfl _ _ w.heap.size 0 (pgv (pageL v) 0) _ rfl (World.rangeAt_setCells_same _ _ _ _ (by rw [pgv_len]; exact HT.out)) Try.underlying40 rfl (pgv_info _ _)) rfl ?_
      exact ⟨rfl, HU.out.setCells (by simp) _ _⟩
end Go.Proofs.Ythabdcejjnhpbaa
