/-
  Layer 4 (frames): contracts of Get, Put, Page, Lay, Copy, over the translated program.
-/
import Derived.Test.YtjlcncdhlcpklaaFrBase
import Derived.Deep.MidRow
import Derived.Laws.ResultCell
import Derived.Deep.WholeRow
import Derived.StillTailTactics
import Derived.Outline
namespace Go.Proofs.Ytjlcncdhlcpklaa.Fr
open Go.ChangeShapes Go.WideShapes Go.ChangeAt Go.RowKit
set_option linter.unusedVariables false
set_option maxRecDepth 20000

theorem get_c (bm bp n f a : Nat) (xs : List Int) (w : World) (h : MemAt w bm bp n xs) (hf : f < n) (ha : a < 16) :
    Calls Try.prog 31 #[.pointer (some ⟨bm, 0, none⟩), .int .i64 f, .int .i64 a] w fun e w' => e = .returned (.tuple #[.int .u32 (xs.getD (f * 16 + a) 0), .bool true]) ∧ w = w' := by
  obtain ⟨cap, hc⟩ := h.head
  have hn := h.most
  obtain ⟨hcell, -⟩ := h.blk (f * 16 + a) (by have := h.len; omega)
  have H : Hid (MemAt w bm bp n xs) := h
  have HW : Hid (hasW n f a = true) := by show hasW n f a = true; simp [hasW]; omega
  clear h
  go_enter Try.func31, Try.ntmps31
  go_wp2_with fail
  refine (hasWord_c bm bp n xs _ _ _ H.out).mono ?_
  rintro e w1 ⟨rfl, rfl⟩
  rw [HW.out]
  go_wp2
  go_ret2
  exact ⟨rfl, rfl⟩
theorem get_nil (f a : Int) (w : World) :
    Calls Try.prog 31 #[.pointer none, .int .i64 f, .int .i64 a] w fun e w' => e = .returned (.tuple #[.int .u32 0, .bool false]) ∧ w = w' := by
  go_enter Try.func31, Try.ntmps31
  go_wp2_with fail
  refine (hasWord_nil _ _ _).mono ?_
  rintro e w1 ⟨rfl, rfl⟩
  go_wp2
  go_ret2
  exact ⟨rfl, rfl⟩

theorem set_get (xs : List Int) (p j : Nat) (b : Int) (hp : p < xs.length) : (xs.set p b).getD j 0 = if j = p then b else xs.getD j 0 := by
  by_cases h : j = p
  · subst h; simp [List.getD, hp]
  · rw [if_neg h, List.getD_eq_getElem?_getD, List.getElem?_set_ne (by omega), List.getD_eq_getElem?_getD]
theorem Blk.set {w : World} {b k : Nat} {xs : List Int} (h : Blk w b xs) (hk : k < xs.length) (v : Int) : Blk (w.setCell ⟨b, k, none⟩ (.int .u32 v)) b (xs.set k v) := fun j hj => by
  rw [List.length_set] at hj
  obtain ⟨h1, h2⟩ := h j hj
  refine ⟨?_, by rw [show (w.setCell ⟨b, k, none⟩ (.int .u32 v)).frozen? ⟨b, j, none⟩ = w.frozen? ⟨b, j, none⟩ by simp]; exact h2⟩
  rw [set_get _ _ _ _ hk]
  by_cases e : j = k
  · subst e
    rw [if_pos rfl]
    exact World.cell?_setCell_same _ _ _ h1
  · rw [if_neg e, World.cell?_setCell_other _ _ _ _ (by intro e'; injection e' with e1 e2; exact e e2.symm)]
    exact h1
theorem MemAt.set {w : World} {bm bp n k : Nat} {xs : List Int} (h : MemAt w bm bp n xs) (hk : k < xs.length) (v : Int) : MemAt (w.setCell ⟨bp, k, none⟩ (.int .u32 v)) bm bp n (xs.set k v) :=
  ⟨by
    obtain ⟨c, hc⟩ := h.head
    exact ⟨c, (World.cell?_setCell_other _ _ _ _ (by intro e; injection e with e1 e2; exact h.apart e1.symm)).trans hc⟩, h.apart, by rw [List.length_set]; exact h.len, h.pos, h.most, h.blk.set hk v⟩

theorem put_c (bm bp n f a : Nat) (v : Int) (xs : List Int) (w : World) (h : MemAt w bm bp n xs) (hf : f < n) (ha : a < 16) :
    Calls Try.prog 18 #[.pointer (some ⟨bm, 0, none⟩), .int .i64 f, .int .i64 a, .int .u32 v] w fun e w' => e = .returned (.bool true) ∧ MemAt w' bm bp n (xs.set (f * 16 + a) v) ∧ But [bp] w w' := by
  obtain ⟨cap, hc⟩ := h.head
  have hn := h.most
  have hk : f * 16 + a < xs.length := by have := h.len; omega
  obtain ⟨hcell, hfz⟩ := h.blk (f * 16 + a) hk
  have H : Hid (MemAt w bm bp n xs) := h
  have HW : Hid (hasW n f a = true) := by show hasW n f a = true; simp [hasW]; omega
  clear h
  go_enter Try.func18, Try.ntmps18
  go_wp2_with fail
  refine (hasWord_c bm bp n xs _ _ _ H.out).mono ?_
  rintro e w1 ⟨rfl, rfl⟩
  rw [HW.out]
  go_wp2
  go_ret
  exact ⟨rfl, H.out.set hk v, (But.refl _ _).setCell (by simp) _⟩
theorem put_no (bm bp n : Nat) (f a v : Int) (xs : List Int) (w : World) (h : MemAt w bm bp n xs) (hn : hasW n f a = false) :
    Calls Try.prog 18 #[.pointer (some ⟨bm, 0, none⟩), .int .i64 f, .int .i64 a, .int .u32 v] w fun e w' => e = .returned (.bool false) ∧ w = w' := by
  have H : Hid (MemAt w bm bp n xs) := h
  have HW : Hid (hasW n f a = false) := hn
  clear h hn
  go_enter Try.func18, Try.ntmps18
  go_wp2_with fail
  refine (hasWord_c bm bp n xs _ _ _ H.out).mono ?_
  rintro e w1 ⟨rfl, rfl⟩
  rw [HW.out]
  go_wp2
  go_ret
  exact ⟨rfl, rfl⟩
theorem put_nil (f a v : Int) (w : World) :
    Calls Try.prog 18 #[.pointer none, .int .i64 f, .int .i64 a, .int .u32 v] w fun e w' => e = .returned (.bool false) ∧ w = w' := by
  go_enter Try.func18, Try.ntmps18
  go_wp2_with fail
  refine (hasWord_nil _ _ _).mono ?_
  rintro e w1 ⟨rfl, rfl⟩
  go_wp2
  go_ret
  exact ⟨rfl, rfl⟩

/-- The sixteen words from place k on, as cells. -/
def pgv (xs : List Int) (k : Nat) : List Value := (List.range 16).map fun i => Value.int .u32 (xs.getD (k + i) 0)
theorem pgv_len (xs : List Int) (k : Nat) : (pgv xs k).length = 16 := by simp [pgv]
theorem pgv_get (xs : List Int) (k i : Nat) (h : i < 16) : (pgv xs k)[i]? = some (.int .u32 (xs.getD (k + i) 0)) := by simp [pgv, h]
theorem pgv_one (xs : List Int) (k : Nat) : ∀ v ∈ pgv xs k, v.oneCell' = true := by
  intro v hv
  simp only [pgv, List.mem_map] at hv
  obtain ⟨i, _, rfl⟩ := hv
  rfl
theorem Blk.range {w : World} {b k : Nat} {xs : List Int} (h : Blk w b xs) (hk : k + 16 ≤ xs.length) : w.rangeAt b k (pgv xs k) := fun j v hv => by
  have hj : j < 16 := by have := (List.getElem?_eq_some_iff.1 hv).1; rwa [pgv_len] at this
  rw [pgv_get _ _ _ hj] at hv
  obtain rfl := Option.some.inj hv
  exact (h (k + j) (by omega)).1
theorem Blk.there {w : World} {b k : Nat} {xs : List Int} (h : Blk w b xs) (hk : k + 16 ≤ xs.length) : w.there b k 16 := fun j hj => by
  obtain ⟨h1, h2⟩ := h (k + j) (by omega)
  exact ⟨by rw [h1]; rfl, h2⟩
theorem Try.infoPage : (Try.prog.info? 50).map (·.size) = some 16 := by kernel_rfl
theorem pgv_info (xs : List Int) (k : Nat) : (Try.prog.info? 50).map (·.size) = some (pgv xs k).length := by rw [pgv_len]; exact Try.infoPage
theorem pgv_info' (xs : List Int) (k : Nat) : (Try.prog.info? 50).map (·.size) = some (pgv xs k).toArray.size := by rw [List.size_toArray, pgv_len]; exact Try.infoPage
theorem pgv_there {w : World} {b o : Nat} {xs : List Int} {k : Nat} (h : w.there b o 16) : w.there b o (pgv xs k).toArray.size := by rw [List.size_toArray, pgv_len]; exact h
theorem pgv_all (xs : List Int) (k : Nat) : (pgv xs k).toArray.all (·.oneCell') = true := all_oneCell_toArray (pgv_one xs k)
theorem page_c (bm bp n f : Nat) (xs : List Int) (w : World) (h : MemAt w bm bp n xs) (hf : f < n) :
    Calls Try.prog 14 #[.pointer (some ⟨bm, 0, none⟩), .int .i64 f] w fun e w' => e = .returned (.tuple #[.agg (pgv xs (f * 16)).toArray, .bool true]) ∧ But [] w w' := by
  obtain ⟨cap, hc⟩ := h.head
  have hn := h.most
  have H : Hid (MemAt w bm bp n xs) := h
  have HW : Hid (hasF n f = true) := by show hasF n f = true; simp [hasF]; omega
  clear h
  go_enter Try.func14, Try.ntmps14
  go_wp2_with fail
  refine (has_c bm bp n xs _ _ (H.out.keep ((But.refl [] w).alloc _) (by simp) (by simp))).mono ?_
  rintro e w1 ⟨rfl, hw⟩
  rw [HW.out]
  have H1 : Hid (MemAt w1 bm bp n xs) := by show MemAt w1 bm bp n xs; rw [← hw]; exact H.out.keep ((But.refl [] w).alloc _) (by simp) (by simp)
  have hT : Hid (w1.there w.heap.size 0 16) := by show w1.there w.heap.size 0 16; rw [← hw]; exact there_new _ _ _ _ rfl
  have hB : Hid (But [] w w1) := by show But [] w w1; rw [← hw]; exact (But.refl [] w).alloc _
  have hc1 : w1.cell? ⟨bm, 0, none⟩ = some (.slice (some ⟨bp, 0, none⟩) n cap) := (hB.out.cell (p := ⟨bm, 0, none⟩) (lt_of_cell hc) (by simp)).trans hc
  clear hw hc
  have hk : f * 16 + 16 ≤ xs.length := by have := H.out.len; omega
  go_wp2_with (first
    | (refine wpList_load_mid rfl 50 _ rfl bp (f * 16) rfl (pgv xs (f * 16)) _ (H1.out.blk.range hk) Try.underlying50 rfl (pgv_info _ _) ?_)
    | (refine wpList_store_mid rfl 50 _ _ rfl w.heap.size 0 (pgv xs (f * 16)).toArray rfl rfl (pgv_there hT.out) (pgv_info' _ _) (pgv_all _ _) ?_))
  refine bodyPost_ret (results_range rfl _ _ w.heap.size 0 (pgv xs (f * 16)) _ rfl (World.rangeAt_setCells_same _ _ _ _ (by rw [pgv_len]; exact hT.out)) Try.underlying50 rfl (pgv_info _ _)) rfl ?_
  exact ⟨rfl, hB.out.setCells (by simp) _ _⟩

theorem page_nil (f : Int) (w : World) :
    Calls Try.prog 14 #[.pointer none, .int .i64 f] w fun e w' => e = .returned (.tuple #[.agg (pgv [] 0).toArray, .bool false]) ∧ But [] w w' := by
  go_enter Try.func14, Try.ntmps14
  go_wp2_with fail
  refine (has_nil _ _).mono ?_
  rintro e w1 ⟨rfl, hw⟩
  have hT : Hid (w1.there w.heap.size 0 16) := by show w1.there w.heap.size 0 16; rw [← hw]; exact there_new _ _ _ _ rfl
  have hB : Hid (But [] w w1) := by show But [] w w1; rw [← hw]; exact (But.refl [] w).alloc _
  clear hw
  go_wp2_with (first
    | (refine wpList_store_mid rfl 50 _ _ rfl w.heap.size 0 (pgv [] 0).toArray rfl rfl (pgv_there hT.out) (pgv_info' _ _) (pgv_all _ _) ?_))
  refine bodyPost_ret (results_range rfl _ _ w.heap.size 0 (pgv [] 0) _ rfl (World.rangeAt_setCells_same _ _ _ _ (by rw [pgv_len]; exact hT.out)) Try.underlying50 rfl (pgv_info _ _)) rfl ?_
  exact ⟨rfl, hB.out.setCells (by simp) _ _⟩

/-- The first m of the words ys in the place of those from k on. -/
def layN (xs : List Int) (k : Nat) (ys : List Int) (m : Nat) : List Int := (List.range xs.length).map fun j => if k ≤ j ∧ j < k + m then ys.getD (j - k) 0 else xs.getD j 0
theorem layN_len (xs : List Int) (k : Nat) (ys : List Int) (m : Nat) : (layN xs k ys m).length = xs.length := by simp [layN]
theorem layN_get (xs : List Int) (k : Nat) (ys : List Int) (m j : Nat) (hj : j < xs.length) : (layN xs k ys m).getD j 0 = if k ≤ j ∧ j < k + m then ys.getD (j - k) 0 else xs.getD j 0 := by
  simp [layN, List.getD, hj]
theorem list_ext' {xs ys : List Int} (hl : xs.length = ys.length) (h : ∀ j, j < xs.length → xs.getD j 0 = ys.getD j 0) : xs = ys := by
  apply List.ext_getElem hl
  intro j h1 h2
  have := h j h1
  simpa [List.getD, h1, h2] using this
theorem layN_zero (xs : List Int) (k : Nat) (ys : List Int) : layN xs k ys 0 = xs :=
  list_ext' (layN_len _ _ _ _) (fun j hj => by rw [layN_len] at hj; rw [layN_get _ _ _ _ _ hj, if_neg (by omega)])
theorem layN_set (xs : List Int) (k : Nat) (ys : List Int) (m : Nat) (hm : k + m < xs.length) : (layN xs k ys m).set (k + m) (ys.getD m 0) = layN xs k ys (m + 1) :=
  list_ext' (by rw [List.length_set, layN_len, layN_len]) (fun j hj => by
    rw [List.length_set, layN_len] at hj
    rw [set_get _ _ _ _ (by rw [layN_len]; exact hm), layN_get _ _ _ _ _ hj, layN_get _ _ _ _ _ hj]
    by_cases e : j = k + m
    · subst e
      rw [if_pos rfl, if_pos (by omega), Nat.add_sub_cancel_left]
    · rw [if_neg e]
      by_cases e2 : k ≤ j ∧ j < k + m
      · rw [if_pos e2, if_pos (by omega)]
      · rw [if_neg e2, if_neg (by omega)])
/-- The words ys in the place of the sixteen from k on. -/
def layL (xs : List Int) (k : Nat) (ys : List Int) : List Int := layN xs k ys 16
theorem layL_len (xs : List Int) (k : Nat) (ys : List Int) : (layL xs k ys).length = xs.length := layN_len _ _ _ _
theorem layL_get (xs : List Int) (k : Nat) (ys : List Int) (j : Nat) (hj : j < xs.length) : (layL xs k ys).getD j 0 = if k ≤ j ∧ j < k + 16 then ys.getD (j - k) 0 else xs.getD j 0 := layN_get _ _ _ _ _ hj
theorem Blk.lay {w : World} {b k : Nat} {xs : List Int} (h : Blk w b xs) (hk : k + 16 ≤ xs.length) (ys : List Int) : Blk (w.setCells b k (pgv ys 0).toArray.toList) b (layL xs k ys) := fun j hj => by
  rw [layL_len] at hj
  obtain ⟨h1, h2⟩ := h j hj
  refine ⟨?_, by rw [World.frozen?_setCells]; exact h2⟩
  rw [layL_get _ _ _ _ hj]
  have hl : (pgv ys 0).toArray.toList = pgv ys 0 := by simp
  rw [hl]
  by_cases e : k ≤ j ∧ j < k + 16
  · rw [if_pos e]
    obtain ⟨i, rfl⟩ : ∃ i, j = k + i := ⟨j - k, by omega⟩
    have hi : i < (pgv ys 0).length := by rw [pgv_len]; omega
    rw [World.cell?_setCells_in b (pgv ys 0) k w (fun i hi' => (h.there hk i (by rw [pgv_len] at hi'; exact hi')).1) i hi]
    have := pgv_get ys 0 i (by omega)
    rw [List.getElem?_eq_getElem hi] at this
    rw [this]
    simp
  · rw [if_neg e, World.cell?_setCells_out b (pgv ys 0) k w ⟨b, j, none⟩ (fun _ _ => by rw [pgv_len]; show j < k ∨ k + 16 ≤ j; omega)]
    exact h1
theorem MemAt.lay {w : World} {bm bp n k : Nat} {xs : List Int} (h : MemAt w bm bp n xs) (hk : k + 16 ≤ xs.length) (ys : List Int) : MemAt (w.setCells bp k (pgv ys 0).toArray.toList) bm bp n (layL xs k ys) :=
  ⟨by
    obtain ⟨c, hc⟩ := h.head
    exact ⟨c, (World.cell?_setCells_out _ _ _ _ _ (fun e _ => absurd e (fun e' => h.apart e'))).trans hc⟩, h.apart, by rw [layL_len]; exact h.len, h.pos, h.most, h.blk.lay hk ys⟩

theorem pgv_drop (xs : List Int) (k : Nat) : pgv xs k = pgv (xs.drop k) 0 := by
  unfold pgv
  apply List.map_congr_left
  intro i _
  simp [List.getD]
end Go.Proofs.Ytjlcncdhlcpklaa.Fr
