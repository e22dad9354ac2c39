/-
  Layer 4 (frames): contracts of the document's own answers (New, At, Copy), over the translated program.
-/
import Derived.Test.YtjlcncdhlcpklaaFrMore
namespace Go.Proofs.Ytjlcncdhlcpklaa.Fr
open Go.ChangeShapes Go.WideShapes Go.ChangeAt Go.RowKit
set_option linter.unusedVariables false
set_option maxRecDepth 20000

theorem Try.infoU32 : (Try.prog.info? 24).map (fun i => (i.zero, i.size, i.bytes)) = some (some (.int .u32 0), 1, 4) := by kernel_rfl
theorem own_step {w1 : World} {B m : Nat} {e : TypeId} {k : IntKind} {f : Nat → Int} {v' : Value} {y : Int} (h : w1.ownsRow B e 1 v' (m + 1) ((tab m f).map (Value.int k) ++ [.int k y])) (hy : y = f m) :
    w1.ownsRow B e 1 v' (m + 1) ((tab (m + 1) f).map (Value.int k)) := by
  rw [tab_snoc, ← hy]; simpa using h
theorem tab_nought (n : Nat) : tab n (fun _ => 0) = List.replicate n 0 := by simp [tab, List.map_const']

set_option maxHeartbeats 1000000 in
theorem rnew_c (n : Nat) (w : World) (h0 : 0 < n) (h1 : n ≤ 256) :
    Calls Try.prog 17 #[.int .i64 n] w fun e w' => ∃ bx c, e = .returned (.slice (some ⟨bx, 0, none⟩) (16 * n) c) ∧ w.heap.size ≤ bx ∧ Blk w' bx (List.replicate (16 * n) 0) ∧ But [] w w' := by
  obtain ⟨i0, hi, hz0, hz1, hz2⟩ := info_parts Try.infoU32
  have HI : Hid (Try.prog.info? 24 = some i0) := hi
  have HZ0 : Hid (i0.zero = some (.int .u32 0)) := hz0
  have HZ1 : Hid (i0.size = 1) := hz1
  have HZ2 : Hid (i0.bytes = 4) := hz2
  clear hi hz0 hz1 hz2
  go_enter Try.func17, Try.ntmps17
  go_wp2
  go_loopw [3, 4] (fun v i wr => ∃ m : Nat, m ≤ 16 * n ∧ i = .int .i64 m ∧ wr.ownsRow w.heap.size 24 1 v m ((tab m (fun _ => 0)).map (Value.int .u32)) ∧ Below w.heap.size w wr) (fun _ i _ => 16 * n - (intOf i).toNat)
  case atStart => exact ⟨0, Nat.zero_le _, rfl, World.ownsRow_nil _ _ _ _, Below.refl _ _⟩
  case round =>
    obtain ⟨m, hmn, rfl, hown, hbel⟩ := hrel
    have hsz := hbel.size
    by_cases hlt : m < 16 * n
    · go_wp2_with (first
        | (at_builtin; refine wpList_append_own _ rfl _ _ 22 rfl w.heap.size 24 i0 (.int .u32 0) 1 4 Try.underlying22 HI.out HZ0.out HZ1.out HZ2.out rfl (by decide) _ _ _ rfl (hown.alloc _) ⟨wr.heap.size, 0, none⟩ 1 1 [.int .u32 0] rfl rfl (cell_one_new _ _ _) (one_int _ _) ?c3 ?c4 ?c5 ?_))
      case c3 => unfold maxLen; omega
      case c4 => omega
      case c5 => first | omega | (simp; omega)
      · intro v' w2 hown3 hgrow _
        have R := own_step hown3 rfl
        have B2 : Below w.heap.size w w2 := (hbel.alloc hsz _).grown hgrow (by simp; omega) (fun k h => (hown.lt k h).1)
        clear hown3 hgrow
        go_wp2
        go_roundw
        case rel => exact ⟨m + 1, by omega, by go_num, R, B2⟩
        case measure => simp [intOf] <;> omega
    · obtain rfl : m = 16 * n := by omega
      obtain ⟨g, cap, hv, hg, _, hblk⟩ := own_blk hown (by omega)
      rw [tab_nought] at hblk
      have HB : Hid (Blk wr g (List.replicate (16 * n) 0)) := hblk
      rw [hv]
      clear hown hblk hv
      go_wp2
      go_ret
      exact ⟨g, cap, rfl, hg, HB.out, But.of_below hbel⟩
theorem rnew_no (n : Int) (w : World) (h : n < 1 ∨ 256 < n) :
    Calls Try.prog 17 #[.int .i64 n] w fun e w' => e = .returned (.slice none 0 0) ∧ w = w' := by
  go_enter Try.func17, Try.ntmps17
  by_cases h1 : n < 1
  · go_wp2
    go_ret
    exact ⟨rfl, rfl⟩
  · have h2 : 256 < n := by omega
    clear h
    go_wp2
    go_ret
    exact ⟨rfl, rfl⟩

/-- The sixteen words of a page of a word. -/
def pageL (v : Int) : List Int := (List.range 16).map fun (i : Nat) => (v + (i : Int)) % 4294967296
theorem pageL_len (v : Int) : (pageL v).length = 16 := by simp [pageL]
theorem pageL_get (v : Int) (i : Nat) (h : i < 16) : (pageL v).getD i 0 = (v + (i : Int)) % 4294967296 := by simp [pageL, List.getD, h]
theorem zero_blk (w : World) (t : TypeId) : Blk (w.alloc (.cells (Array.replicate 16 (.int .u32 0)) t)) w.heap.size (List.replicate 16 0) := fun j hj => by
  rw [List.length_replicate] at hj
  rw [cell_of_row _ _ j _ t (0, 0) (heap_alloc_last w _), frozen_of_row _ _ j _ t (heap_alloc_last w _)]
  have e : (List.replicate 16 (0 : Int)).getD j 0 = 0 := by rw [List.getD_eq_getElem?_getD, List.getElem?_replicate, if_pos hj]; rfl
  exact ⟨by rw [e, Array.getElem?_replicate, if_pos hj], rfl⟩
theorem zero_blk2 (w : World) (o : Obj) (t : TypeId) : Blk ((w.alloc o).alloc (.cells (Array.replicate 16 (.int .u32 0)) t)) (w.heap.size + 1) (List.replicate 16 0) := by
  have h := zero_blk (w.alloc o) t
  rwa [show (w.alloc o).heap.size = w.heap.size + 1 by simp] at h
end Go.Proofs.Ytjlcncdhlcpklaa.Fr
