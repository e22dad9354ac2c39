/-
  Contracts of the document's own words for layer 2 (Encode, Decode), of the statements' helpers, and of a table that is made.
-/
import Derived.Test.YteacdjakdkdbnaaGreatDoorIsaRef
import Derived.Laws.StructEq
namespace Go.Proofs.YteacdjakdkdbnaaGreatDoor
open Go.ChangeShapes Go.WideShapes Go.ChangeAt Go.RowKit
set_option linter.unusedVariables false
set_option maxRecDepth 20000

set_option maxHeartbeats 1000000 in
theorem rencode_c (op a b i : Int) (w : World) :
    Calls Tryz.prog 36 #[.agg #[.int .i64 op, .int .i64 a, .int .i64 b, .int .i64 i]] w fun e w' => e = .returned (.tuple #[.int .u32 (encR op a b i), .bool (vldB op a b i)]) ∧ Below w.heap.size w w' := by
  cases hv : vldB op a b i
  · have HE : Hid (encR op a b i = 0) := by show _ = _; simp [encR, hv]
    have HV : Hid (vldB op a b i = false) := hv
    clear hv
    go_enter Tryz.func36, Tryz.ntmps36
    go_wp2_with fail
    refine (rvalid_c _ _ _ _ _).mono ?_
    rintro e w1 ⟨rfl, q1⟩
    rw [HV.out]
    have q2 : Below w.heap.size w w1 := ((Below.refl _ _).alloc (Nat.le_refl _) _).trans (q1.mono (by simp))
    go_wp2
    go_ret2
    exact ⟨by rw [HE.out]; rfl, q2⟩
  · obtain ⟨⟨p1, p2⟩, ⟨p3, p4⟩, ⟨p5, p6⟩, p7, p8⟩ := vld_bounds hv
    have HE : Hid (encR op a b i = encI op a b i) := by show _ = _; simp [encR, hv]
    have HV : Hid (vldB op a b i = true) := hv
    clear hv
    by_cases hi : i < 0
    · have HI : Hid (encI op a b i = ((op * 16 + a) * 16 + b) * 65536 + (i + 65536)) := by show _ = _; unfold encI; omega
      go_enter Tryz.func36, Tryz.ntmps36
      go_wp2_with fail
      refine (rvalid_c _ _ _ _ _).mono ?_
      rintro e w1 ⟨rfl, q1⟩
      rw [HV.out]
      have hs : w.heap.size < w1.heap.size := by have := q1.size; simp at this; omega
      have hnew : w1.heap[w.heap.size]? = some (.cells #[.int .i64 op, .int .i64 a, .int .i64 b, .int .i64 i] 86) := (q1.block w.heap.size (by simp)).trans (heap_alloc_new w _)
      have k0 : w1.cell? ⟨w.heap.size, 0, none⟩ = some (.int .i64 op) := by simp [World.cell?, hnew]
      have k1 : w1.cell? ⟨w.heap.size, 1, none⟩ = some (.int .i64 a) := by simp [World.cell?, hnew]
      have k2 : w1.cell? ⟨w.heap.size, 2, none⟩ = some (.int .i64 b) := by simp [World.cell?, hnew]
      have k3 : w1.cell? ⟨w.heap.size, 3, none⟩ = some (.int .i64 i) := by simp [World.cell?, hnew]
      have q2 : Below w.heap.size w w1 := ((Below.refl _ _).alloc (Nat.le_refl _) _).trans (q1.mono (by simp))
      clear hnew
      go_wp2
      go_ret2
      exact ⟨by rw [HE.out, HI.out]; rfl, q2⟩
    · have HI : Hid (encI op a b i = ((op * 16 + a) * 16 + b) * 65536 + i) := by show _ = _; unfold encI; omega
      go_enter Tryz.func36, Tryz.ntmps36
      go_wp2_with fail
      refine (rvalid_c _ _ _ _ _).mono ?_
      rintro e w1 ⟨rfl, q1⟩
      rw [HV.out]
      have hs : w.heap.size < w1.heap.size := by have := q1.size; simp at this; omega
      have hnew : w1.heap[w.heap.size]? = some (.cells #[.int .i64 op, .int .i64 a, .int .i64 b, .int .i64 i] 86) := (q1.block w.heap.size (by simp)).trans (heap_alloc_new w _)
      have k0 : w1.cell? ⟨w.heap.size, 0, none⟩ = some (.int .i64 op) := by simp [World.cell?, hnew]
      have k1 : w1.cell? ⟨w.heap.size, 1, none⟩ = some (.int .i64 a) := by simp [World.cell?, hnew]
      have k2 : w1.cell? ⟨w.heap.size, 2, none⟩ = some (.int .i64 b) := by simp [World.cell?, hnew]
      have k3 : w1.cell? ⟨w.heap.size, 3, none⟩ = some (.int .i64 i) := by simp [World.cell?, hnew]
      have q2 : Below w.heap.size w w1 := ((Below.refl _ _).alloc (Nat.le_refl _) _).trans (q1.mono (by simp))
      clear hnew
      go_wp2
      go_ret2
      exact ⟨by rw [HE.out, HI.out]; rfl, q2⟩
set_option maxHeartbeats 1000000 in
theorem rdecode_yes (x : Int) (w : World) (h0 : 0 ≤ x) (h1 : x ≤ 4294967295) (hv : vldB (dopI x) (daI x) (dbI x) (diI x) = true) :
    Calls Tryz.prog 25 #[.int .u32 x] w fun e w' => e = .returned (.tuple #[.agg #[.int .i64 (dopI x), .int .i64 (daI x), .int .i64 (dbI x), .int .i64 (diI x)], .bool true]) ∧ Below w.heap.size w w' := by
  have HV : Hid (vldB (dopI x) (daI x) (dbI x) (diI x) = true) := hv
  clear hv
  have HO : Hid (x / 16777216 = dopI x) := rfl
  have HA : Hid (x / 1048576 % 16 = daI x) := rfl
  have HB : Hid (x / 65536 % 16 = dbI x) := rfl
  by_cases hi : 32768 ≤ x % 65536
  · have HI : Hid (x % 65536 - 65536 = diI x) := by show _ = _; unfold diI; rw [if_pos hi]
    go_enter Tryz.func25, Tryz.ntmps25
    go_wp2_with fail
    rw [HI.out, HO.out, HA.out, HB.out]
    refine (rvalid_c _ _ _ _ _).mono ?_
    rintro e w1 ⟨rfl, q1⟩
    rw [HV.out]
    have hs : w.heap.size + 1 < w1.heap.size := by have := q1.size; simp at this; omega
    have hb1 : Below w.heap.size w w1 := (((Below.refl _ _).alloc (Nat.le_refl _) _).alloc (by simp) _).trans (q1.mono (by simp; omega))
    have hnew : w1.heap[w.heap.size]? = some (.cells #[.int .i64 0, .int .i64 0, .int .i64 0, .int .i64 0] 86) := (q1.block w.heap.size (by simp; omega)).trans ((Below.heap_alloc _ _ _ (by simp)).trans (heap_alloc_new w _))
    have hold := (q1.block (w.heap.size + 1) (by simp))
    have hol2 := heap_alloc_new (w.alloc (.cells #[.int .i64 0, .int .i64 0, .int .i64 0, .int .i64 0] 86)) (.cells #[.int .i64 (dopI x), .int .i64 (daI x), .int .i64 (dbI x), .int .i64 (diI x)] 86)
    rw [show (w.alloc (.cells #[.int .i64 0, .int .i64 0, .int .i64 0, .int .i64 0] 86)).heap.size = w.heap.size + 1 by simp] at hol2
    replace hold := hold.trans hol2
    clear hol2
    have z0 : ∀ j, w1.frozen? ⟨w.heap.size, j, none⟩ = false := fun j => by simp [World.frozen?, hnew]
    have k0 : w1.cell? ⟨w.heap.size, 0, none⟩ = some (.int .i64 0) := by simp [World.cell?, hnew]
    have k1 : w1.cell? ⟨w.heap.size, 1, none⟩ = some (.int .i64 0) := by simp [World.cell?, hnew]
    have k2 : w1.cell? ⟨w.heap.size, 2, none⟩ = some (.int .i64 0) := by simp [World.cell?, hnew]
    have k3 : w1.cell? ⟨w.heap.size, 3, none⟩ = some (.int .i64 0) := by simp [World.cell?, hnew]
    have c0 : w1.cell? ⟨w.heap.size + 1, 0, none⟩ = some (.int .i64 (dopI x)) := by simp [World.cell?, hold]
    have c1 : w1.cell? ⟨w.heap.size + 1, 1, none⟩ = some (.int .i64 (daI x)) := by simp [World.cell?, hold]
    have c2 : w1.cell? ⟨w.heap.size + 1, 2, none⟩ = some (.int .i64 (dbI x)) := by simp [World.cell?, hold]
    have c3 : w1.cell? ⟨w.heap.size + 1, 3, none⟩ = some (.int .i64 (diI x)) := by simp [World.cell?, hold]
    clear hnew hold
    go_wp2
    exact bodyPost_ret (v := .tuple #[.agg #[.int .i64 (dopI x), .int .i64 (daI x), .int .i64 (dbI x), .int .i64 (diI x)], .bool true]) (by simp [results, Tryz.results25, go_sem, k0, k1, k2, k3]) rfl ⟨rfl, (((hb1.setCell (Nat.le_refl _) _).setCell (Nat.le_refl _) _).setCell (Nat.le_refl _) _).setCell (Nat.le_refl _) _⟩
  · have HI : Hid (x % 65536 = diI x) := by show _ = _; unfold diI; rw [if_neg hi]
    go_enter Tryz.func25, Tryz.ntmps25
    go_wp2_with fail
    rw [HI.out, HO.out, HA.out, HB.out]
    refine (rvalid_c _ _ _ _ _).mono ?_
    rintro e w1 ⟨rfl, q1⟩
    rw [HV.out]
    have hs : w.heap.size + 1 < w1.heap.size := by have := q1.size; simp at this; omega
    have hb1 : Below w.heap.size w w1 := (((Below.refl _ _).alloc (Nat.le_refl _) _).alloc (by simp) _).trans (q1.mono (by simp; omega))
    have hnew : w1.heap[w.heap.size]? = some (.cells #[.int .i64 0, .int .i64 0, .int .i64 0, .int .i64 0] 86) := (q1.block w.heap.size (by simp; omega)).trans ((Below.heap_alloc _ _ _ (by simp)).trans (heap_alloc_new w _))
    have hold := (q1.block (w.heap.size + 1) (by simp))
    have hol2 := heap_alloc_new (w.alloc (.cells #[.int .i64 0, .int .i64 0, .int .i64 0, .int .i64 0] 86)) (.cells #[.int .i64 (dopI x), .int .i64 (daI x), .int .i64 (dbI x), .int .i64 (diI x)] 86)
    rw [show (w.alloc (.cells #[.int .i64 0, .int .i64 0, .int .i64 0, .int .i64 0] 86)).heap.size = w.heap.size + 1 by simp] at hol2
    replace hold := hold.trans hol2
    clear hol2
    have z0 : ∀ j, w1.frozen? ⟨w.heap.size, j, none⟩ = false := fun j => by simp [World.frozen?, hnew]
    have k0 : w1.cell? ⟨w.heap.size, 0, none⟩ = some (.int .i64 0) := by simp [World.cell?, hnew]
    have k1 : w1.cell? ⟨w.heap.size, 1, none⟩ = some (.int .i64 0) := by simp [World.cell?, hnew]
    have k2 : w1.cell? ⟨w.heap.size, 2, none⟩ = some (.int .i64 0) := by simp [World.cell?, hnew]
    have k3 : w1.cell? ⟨w.heap.size, 3, none⟩ = some (.int .i64 0) := by simp [World.cell?, hnew]
    have c0 : w1.cell? ⟨w.heap.size + 1, 0, none⟩ = some (.int .i64 (dopI x)) := by simp [World.cell?, hold]
    have c1 : w1.cell? ⟨w.heap.size + 1, 1, none⟩ = some (.int .i64 (daI x)) := by simp [World.cell?, hold]
    have c2 : w1.cell? ⟨w.heap.size + 1, 2, none⟩ = some (.int .i64 (dbI x)) := by simp [World.cell?, hold]
    have c3 : w1.cell? ⟨w.heap.size + 1, 3, none⟩ = some (.int .i64 (diI x)) := by simp [World.cell?, hold]
    clear hnew hold
    go_wp2
    exact bodyPost_ret (v := .tuple #[.agg #[.int .i64 (dopI x), .int .i64 (daI x), .int .i64 (dbI x), .int .i64 (diI x)], .bool true]) (by simp [results, Tryz.results25, go_sem, k0, k1, k2, k3]) rfl ⟨rfl, (((hb1.setCell (Nat.le_refl _) _).setCell (Nat.le_refl _) _).setCell (Nat.le_refl _) _).setCell (Nat.le_refl _) _⟩
set_option maxHeartbeats 1000000 in
theorem rdecode_no (x : Int) (w : World) (h0 : 0 ≤ x) (h1 : x ≤ 4294967295) (hv : vldB (dopI x) (daI x) (dbI x) (diI x) = false) :
    Calls Tryz.prog 25 #[.int .u32 x] w fun e w' => e = .returned (.tuple #[.agg #[.int .i64 0, .int .i64 0, .int .i64 0, .int .i64 0], .bool false]) ∧ Below w.heap.size w w' := by
  have HV : Hid (vldB (dopI x) (daI x) (dbI x) (diI x) = false) := hv
  clear hv
  have HO : Hid (x / 16777216 = dopI x) := rfl
  have HA : Hid (x / 1048576 % 16 = daI x) := rfl
  have HB : Hid (x / 65536 % 16 = dbI x) := rfl
  by_cases hi : 32768 ≤ x % 65536
  · have HI : Hid (x % 65536 - 65536 = diI x) := by show _ = _; unfold diI; rw [if_pos hi]
    go_enter Tryz.func25, Tryz.ntmps25
    go_wp2_with fail
    rw [HI.out, HO.out, HA.out, HB.out]
    refine (rvalid_c _ _ _ _ _).mono ?_
    rintro e w1 ⟨rfl, q1⟩
    rw [HV.out]
    have hs : w.heap.size + 1 < w1.heap.size := by have := q1.size; simp at this; omega
    have hb1 : Below w.heap.size w w1 := (((Below.refl _ _).alloc (Nat.le_refl _) _).alloc (by simp) _).trans (q1.mono (by simp; omega))
    have hnew : w1.heap[w.heap.size]? = some (.cells #[.int .i64 0, .int .i64 0, .int .i64 0, .int .i64 0] 86) := (q1.block w.heap.size (by simp; omega)).trans ((Below.heap_alloc _ _ _ (by simp)).trans (heap_alloc_new w _))
    have hold := (q1.block (w.heap.size + 1) (by simp))
    have hol2 := heap_alloc_new (w.alloc (.cells #[.int .i64 0, .int .i64 0, .int .i64 0, .int .i64 0] 86)) (.cells #[.int .i64 (dopI x), .int .i64 (daI x), .int .i64 (dbI x), .int .i64 (diI x)] 86)
    rw [show (w.alloc (.cells #[.int .i64 0, .int .i64 0, .int .i64 0, .int .i64 0] 86)).heap.size = w.heap.size + 1 by simp] at hol2
    replace hold := hold.trans hol2
    clear hol2
    have z0 : ∀ j, w1.frozen? ⟨w.heap.size, j, none⟩ = false := fun j => by simp [World.frozen?, hnew]
    have k0 : w1.cell? ⟨w.heap.size, 0, none⟩ = some (.int .i64 0) := by simp [World.cell?, hnew]
    have k1 : w1.cell? ⟨w.heap.size, 1, none⟩ = some (.int .i64 0) := by simp [World.cell?, hnew]
    have k2 : w1.cell? ⟨w.heap.size, 2, none⟩ = some (.int .i64 0) := by simp [World.cell?, hnew]
    have k3 : w1.cell? ⟨w.heap.size, 3, none⟩ = some (.int .i64 0) := by simp [World.cell?, hnew]
    have c0 : w1.cell? ⟨w.heap.size + 1, 0, none⟩ = some (.int .i64 (dopI x)) := by simp [World.cell?, hold]
    have c1 : w1.cell? ⟨w.heap.size + 1, 1, none⟩ = some (.int .i64 (daI x)) := by simp [World.cell?, hold]
    have c2 : w1.cell? ⟨w.heap.size + 1, 2, none⟩ = some (.int .i64 (dbI x)) := by simp [World.cell?, hold]
    have c3 : w1.cell? ⟨w.heap.size + 1, 3, none⟩ = some (.int .i64 (diI x)) := by simp [World.cell?, hold]
    clear hnew hold
    go_wp2
    exact bodyPost_ret (v := .tuple #[.agg #[.int .i64 0, .int .i64 0, .int .i64 0, .int .i64 0], .bool false]) (by simp [results, Tryz.results25, go_sem, k0, k1, k2, k3]) rfl ⟨rfl, (((hb1.setCell (Nat.le_refl _) _).setCell (Nat.le_refl _) _).setCell (Nat.le_refl _) _).setCell (Nat.le_refl _) _⟩
  · have HI : Hid (x % 65536 = diI x) := by show _ = _; unfold diI; rw [if_neg hi]
    go_enter Tryz.func25, Tryz.ntmps25
    go_wp2_with fail
    rw [HI.out, HO.out, HA.out, HB.out]
    refine (rvalid_c _ _ _ _ _).mono ?_
    rintro e w1 ⟨rfl, q1⟩
    rw [HV.out]
    have hs : w.heap.size + 1 < w1.heap.size := by have := q1.size; simp at this; omega
    have hb1 : Below w.heap.size w w1 := (((Below.refl _ _).alloc (Nat.le_refl _) _).alloc (by simp) _).trans (q1.mono (by simp; omega))
    have hnew : w1.heap[w.heap.size]? = some (.cells #[.int .i64 0, .int .i64 0, .int .i64 0, .int .i64 0] 86) := (q1.block w.heap.size (by simp; omega)).trans ((Below.heap_alloc _ _ _ (by simp)).trans (heap_alloc_new w _))
    have hold := (q1.block (w.heap.size + 1) (by simp))
    have hol2 := heap_alloc_new (w.alloc (.cells #[.int .i64 0, .int .i64 0, .int .i64 0, .int .i64 0] 86)) (.cells #[.int .i64 (dopI x), .int .i64 (daI x), .int .i64 (dbI x), .int .i64 (diI x)] 86)
    rw [show (w.alloc (.cells #[.int .i64 0, .int .i64 0, .int .i64 0, .int .i64 0] 86)).heap.size = w.heap.size + 1 by simp] at hol2
    replace hold := hold.trans hol2
    clear hol2
    have z0 : ∀ j, w1.frozen? ⟨w.heap.size, j, none⟩ = false := fun j => by simp [World.frozen?, hnew]
    have k0 : w1.cell? ⟨w.heap.size, 0, none⟩ = some (.int .i64 0) := by simp [World.cell?, hnew]
    have k1 : w1.cell? ⟨w.heap.size, 1, none⟩ = some (.int .i64 0) := by simp [World.cell?, hnew]
    have k2 : w1.cell? ⟨w.heap.size, 2, none⟩ = some (.int .i64 0) := by simp [World.cell?, hnew]
    have k3 : w1.cell? ⟨w.heap.size, 3, none⟩ = some (.int .i64 0) := by simp [World.cell?, hnew]
    have c0 : w1.cell? ⟨w.heap.size + 1, 0, none⟩ = some (.int .i64 (dopI x)) := by simp [World.cell?, hold]
    have c1 : w1.cell? ⟨w.heap.size + 1, 1, none⟩ = some (.int .i64 (daI x)) := by simp [World.cell?, hold]
    have c2 : w1.cell? ⟨w.heap.size + 1, 2, none⟩ = some (.int .i64 (dbI x)) := by simp [World.cell?, hold]
    have c3 : w1.cell? ⟨w.heap.size + 1, 3, none⟩ = some (.int .i64 (diI x)) := by simp [World.cell?, hold]
    clear hnew hold
    go_wp2
    exact bodyPost_ret (v := .tuple #[.agg #[.int .i64 0, .int .i64 0, .int .i64 0, .int .i64 0], .bool false]) (by simp [results, Tryz.results25, go_sem, k0, k1, k2, k3]) rfl ⟨rfl, (((hb1.setCell (Nat.le_refl _) _).setCell (Nat.le_refl _) _).setCell (Nat.le_refl _) _).setCell (Nat.le_refl _) _⟩
/-- What a word is decoded as: the instruction, or the zero one. -/
def vldD (x : Int) : Bool := vldB (dopI x) (daI x) (dbI x) (diI x)
def doR (x : Int) : Int := if vldD x then dopI x else 0
def daR (x : Int) : Int := if vldD x then daI x else 0
def dbR (x : Int) : Int := if vldD x then dbI x else 0
def diR (x : Int) : Int := if vldD x then diI x else 0
theorem decode_c (b off : Nat) (x : Int) (w : World) (ht : TabOk w b off) (h0 : 0 ≤ x) (h1 : x ≤ 4294967295) :
    Calls Tryz.prog 39 #[.pointer (some ⟨b, off, none⟩), .int .u32 x] w fun e w' =>
      e = .returned (.tuple #[.agg #[.int .i64 (doR x), .int .i64 (daR x), .int .i64 (dbR x), .int .i64 (diR x)], .bool (vldD x)]) ∧ TabOk w' b off ∧ Keep b off (off + 103) w w' := by
  cases hv : vldD x
  · rw [show doR x = 0 by simp [doR, hv], show daR x = 0 by simp [daR, hv], show dbR x = 0 by simp [dbR, hv], show diR x = 0 by simp [diR, hv]]
    exact decode_no b off x w ht h0 h1 hv
  · rw [show doR x = dopI x by simp [doR, hv], show daR x = daI x by simp [daR, hv], show dbR x = dbI x by simp [dbR, hv], show diR x = diI x by simp [diR, hv]]
    exact decode_yes b off x w ht h0 h1 hv
theorem rdecode_c (x : Int) (w : World) (h0 : 0 ≤ x) (h1 : x ≤ 4294967295) :
    Calls Tryz.prog 25 #[.int .u32 x] w fun e w' =>
      e = .returned (.tuple #[.agg #[.int .i64 (doR x), .int .i64 (daR x), .int .i64 (dbR x), .int .i64 (diR x)], .bool (vldD x)]) ∧ Below w.heap.size w w' := by
  cases hv : vldD x
  · rw [show doR x = 0 by simp [doR, hv], show daR x = 0 by simp [daR, hv], show dbR x = 0 by simp [dbR, hv], show diR x = 0 by simp [diR, hv]]
    exact rdecode_no x w h0 h1 hv
  · rw [show doR x = dopI x by simp [doR, hv], show daR x = daI x by simp [daR, hv], show dbR x = dbI x by simp [dbR, hv], show diR x = diI x by simp [diR, hv]]
    exact rdecode_yes x w h0 h1 hv
theorem vldD_bounds (x : Int) : vldB (doR x) (daR x) (dbR x) (diR x) = vldD x := by
  cases hv : vldD x
  · rw [show doR x = 0 by simp [doR, hv], show daR x = 0 by simp [daR, hv], show dbR x = 0 by simp [dbR, hv], show diR x = 0 by simp [diR, hv]]
    decide
  · rw [show doR x = dopI x by simp [doR, hv], show daR x = daI x by simp [daR, hv], show dbR x = dbI x by simp [dbR, hv], show diR x = diI x by simp [diR, hv]]
    exact hv
theorem encR_dec (x : Int) (h0 : 0 ≤ x) (h1 : x ≤ 4294967295) (hv : vldD x = true) : encR (doR x) (daR x) (dbR x) (diR x) = x := by
  unfold encR
  rw [vldD_bounds, if_pos hv, show doR x = dopI x by simp [doR, hv], show daR x = daI x by simp [daR, hv], show dbR x = dbI x by simp [dbR, hv], show diR x = diI x by simp [diR, hv]]
  exact enc_dec x h0 h1
end Go.Proofs.YteacdjakdkdbnaaGreatDoor
