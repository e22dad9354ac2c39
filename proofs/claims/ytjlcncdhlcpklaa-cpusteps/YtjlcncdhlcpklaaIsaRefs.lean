/-
  Contracts of the document's own words for layer 2 (Encode, Decode), of the statements' helpers, and of a table that is made.
-/
import Derived.Test.YtjlcncdhlcpklaaIsaRef
import Derived.Laws.StructEq
namespace Go.Proofs.Ytjlcncdhlcpklaa
open Go.ChangeShapes Go.WideShapes Go.ChangeAt Go.RowKit
set_option linter.unusedVariables false
set_option maxRecDepth 20000

set_option maxHeartbeats 1000000 in
theorem rdecode_yes (x : Int) (w : World) (h0 : 0 ≤ x) (h1 : x ≤ 4294967295) (hv : vldB (dopI x) (daI x) (dbI x) (diI x) = true) :
    Calls Try.prog 25 #[.int .u32 x] w fun e w' => e = .returned (.tuple #[.agg #[.int .i64 (dopI x), .int .i64 (daI x), .int .i64 (dbI x), .int .i64 (diI x)], .bool true]) ∧ Below w.heap.size w w' := by
  have HV : Hid (vldB (dopI x) (daI x) (dbI x) (diI x) = true) := hv
  clear hv
  have HO : Hid (x / 16777216 = dopI x) := rfl
  have HA : Hid (x / 1048576 % 16 = daI x) := rfl
  have HB : Hid (x / 65536 % 16 = dbI x) := rfl
  by_cases hi : 32768 ≤ x % 65536
  · have HI : Hid (x % 65536 - 65536 = diI x) := by show _ = _; unfold diI; rw [if_pos hi]
    go_enter Try.func25, Try.ntmps25
    go_wp2_with fail
    rw [HI.out, HO.out, HA.out, HB.out]
    refine (rvalid_c _ _ _ _ _).mono ?_
    rintro e w1 ⟨rfl, q1⟩
    rw [HV.out]
    have hs : w.heap.size + 1 < w1.heap.size := by have := q1.size; simp at this; omega
    have hb1 : Below w.heap.size w w1 := (((Below.refl _ _).alloc (Nat.le_refl _) _).alloc (by simp) _).trans (q1.mono (by simp; omega))
    have hnew : w1.heap[w.heap.size]? = some (.cells #[.int .i64 0, .int .i64 0, .int .i64 0, .int .i64 0] 75) := (q1.block w.heap.size (by simp; omega)).trans ((Below.heap_alloc _ _ _ (by simp)).trans (heap_alloc_new w _))
    have hold := (q1.block (w.heap.size + 1) (by simp))
    have hol2 := heap_alloc_new (w.alloc (.cells #[.int .i64 0, .int .i64 0, .int .i64 0, .int .i64 0] 75)) (.cells #[.int .i64 (dopI x), .int .i64 (daI x), .int .i64 (dbI x), .int .i64 (diI x)] 75)
    rw [show (w.alloc (.cells #[.int .i64 0, .int .i64 0, .int .i64 0, .int .i64 0] 75)).heap.size = w.heap.size + 1 by simp] at hol2
    replace hold := hold.trans hol2
    clear hol2
    have z0 : ∀ j, w1.frozen? ⟨w.heap.size, j, none⟩ = false := fun j => by simp [World.frozen?, hnew]
    have k0 : w1.cell? ⟨w.heap.size, 0, none⟩ = some (.int .i64 0) := by simp [World.cell?, hnew]
    have k1 : w1.cell? ⟨w.heap.size, 1, none⟩ = some (.int .i64 0) := by simp [World.cell?, hnew]
    have k2 : w1.cell? ⟨w.heap.size, 2, none⟩ = some (.int .i64 0) := by simp [World.cell?, hnew]
    have k3 : w1.cell? ⟨w.heap.size, 3, none⟩ = some (.int .i64 0) := by simp [World.cell?, hnew]
    have c0 : w1.cell? ⟨w.heap.size + 1, 0, none⟩ = some (.int .i64 (dopI x)) := by simp [World.cell?, hold]
    have c1 : w1.cell? ⟨w.heap.size + 1, 1, none⟩ = some (.int .i64 (daI x)) := by simp [World.cell?, hold]
    have c2 : w1.cell? ⟨w.heap.size + 1, 2, none⟩ = some (.int .i64 (dbI x)) := by simp [World.cell?, hold]
    have c3 : w1.cell? ⟨w.heap.size + 1, 3, none⟩ = some (.int .i64 (diI x)) := by simp [World.cell?, hold]
    clear hnew hold
    go_wp2
    exact bodyPost_ret (v := .tuple #[.agg #[.int .i64 (dopI x), .int .i64 (daI x), .int .i64 (dbI x), .int .i64 (diI x)], .bool true]) (by simp [results, Try.results25, go_sem, k0, k1, k2, k3]) rfl ⟨rfl, (((hb1.setCell (Nat.le_refl _) _).setCell (Nat.le_refl _) _).setCell (Nat.le_refl _) _).setCell (Nat.le_refl _) _⟩
  · have HI : Hid (x % 65536 = diI x) := by show _ = _; unfold diI; rw [if_neg hi]
    go_enter Try.func25, Try.ntmps25
    go_wp2_with fail
    rw [HI.out, HO.out, HA.out, HB.out]
    refine (rvalid_c _ _ _ _ _).mono ?_
    rintro e w1 ⟨rfl, q1⟩
    rw [HV.out]
    have hs : w.heap.size + 1 < w1.heap.size := by have := q1.size; simp at this; omega
    have hb1 : Below w.heap.size w w1 := (((Below.refl _ _).alloc (Nat.le_refl _) _).alloc (by simp) _).trans (q1.mono (by simp; omega))
    have hnew : w1.heap[w.heap.size]? = some (.cells #[.int .i64 0, .int .i64 0, .int .i64 0, .int .i64 0] 75) := (q1.block w.heap.size (by simp; omega)).trans ((Below.heap_alloc _ _ _ (by simp)).trans (heap_alloc_new w _))
    have hold := (q1.block (w.heap.size + 1) (by simp))
    have hol2 := heap_alloc_new (w.alloc (.cells #[.int .i64 0, .int .i64 0, .int .i64 0, .int .i64 0] 75)) (.cells #[.int .i64 (dopI x), .int .i64 (daI x), .int .i64 (dbI x), .int .i64 (diI x)] 75)
    rw [show (w.alloc (.cells #[.int .i64 0, .int .i64 0, .int .i64 0, .int .i64 0] 75)).heap.size = w.heap.size + 1 by simp] at hol2
    replace hold := hold.trans hol2
    clear hol2
    have z0 : ∀ j, w1.frozen? ⟨w.heap.size, j, none⟩ = false := fun j => by simp [World.frozen?, hnew]
    have k0 : w1.cell? ⟨w.heap.size, 0, none⟩ = some (.int .i64 0) := by simp [World.cell?, hnew]
    have k1 : w1.cell? ⟨w.heap.size, 1, none⟩ = some (.int .i64 0) := by simp [World.cell?, hnew]
    have k2 : w1.cell? ⟨w.heap.size, 2, none⟩ = some (.int .i64 0) := by simp [World.cell?, hnew]
    have k3 : w1.cell? ⟨w.heap.size, 3, none⟩ = some (.int .i64 0) := by simp [World.cell?, hnew]
    have c0 : w1.cell? ⟨w.heap.size + 1, 0, none⟩ = some (.int .i64 (dopI x)) := by simp [World.cell?, hold]
    have c1 : w1.cell? ⟨w.heap.size + 1, 1, none⟩ = some (.int .i64 (daI x)) := by simp [World.cell?, hold]
    have c2 : w1.cell? ⟨w.heap.size + 1, 2, none⟩ = some (.int .i64 (dbI x)) := by simp [World.cell?, hold]
    have c3 : w1.cell? ⟨w.heap.size + 1, 3, none⟩ = some (.int .i64 (diI x)) := by simp [World.cell?, hold]
    clear hnew hold
    go_wp2
    exact bodyPost_ret (v := .tuple #[.agg #[.int .i64 (dopI x), .int .i64 (daI x), .int .i64 (dbI x), .int .i64 (diI x)], .bool true]) (by simp [results, Try.results25, go_sem, k0, k1, k2, k3]) rfl ⟨rfl, (((hb1.setCell (Nat.le_refl _) _).setCell (Nat.le_refl _) _).setCell (Nat.le_refl _) _).setCell (Nat.le_refl _) _⟩
set_option maxHeartbeats 1000000 in
theorem rdecode_no (x : Int) (w : World) (h0 : 0 ≤ x) (h1 : x ≤ 4294967295) (hv : vldB (dopI x) (daI x) (dbI x) (diI x) = false) :
    Calls Try.prog 25 #[.int .u32 x] w fun e w' => e = .returned (.tuple #[.agg #[.int .i64 0, .int .i64 0, .int .i64 0, .int .i64 0], .bool false]) ∧ Below w.heap.size w w' := by
  have HV : Hid (vldB (dopI x) (daI x) (dbI x) (diI x) = false) := hv
  clear hv
  have HO : Hid (x / 16777216 = dopI x) := rfl
  have HA : Hid (x / 1048576 % 16 = daI x) := rfl
  have HB : Hid (x / 65536 % 16 = dbI x) := rfl
  by_cases hi : 32768 ≤ x % 65536
  · have HI : Hid (x % 65536 - 65536 = diI x) := by show _ = _; unfold diI; rw [if_pos hi]
    go_enter Try.func25, Try.ntmps25
    go_wp2_with fail
    rw [HI.out, HO.out, HA.out, HB.out]
    refine (rvalid_c _ _ _ _ _).mono ?_
    rintro e w1 ⟨rfl, q1⟩
    rw [HV.out]
    have hs : w.heap.size + 1 < w1.heap.size := by have := q1.size; simp at this; omega
    have hb1 : Below w.heap.size w w1 := (((Below.refl _ _).alloc (Nat.le_refl _) _).alloc (by simp) _).trans (q1.mono (by simp; omega))
    have hnew : w1.heap[w.heap.size]? = some (.cells #[.int .i64 0, .int .i64 0, .int .i64 0, .int .i64 0] 75) := (q1.block w.heap.size (by simp; omega)).trans ((Below.heap_alloc _ _ _ (by simp)).trans (heap_alloc_new w _))
    have hold := (q1.block (w.heap.size + 1) (by simp))
    have hol2 := heap_alloc_new (w.alloc (.cells #[.int .i64 0, .int .i64 0, .int .i64 0, .int .i64 0] 75)) (.cells #[.int .i64 (dopI x), .int .i64 (daI x), .int .i64 (dbI x), .int .i64 (diI x)] 75)
    rw [show (w.alloc (.cells #[.int .i64 0, .int .i64 0, .int .i64 0, .int .i64 0] 75)).heap.size = w.heap.size + 1 by simp] at hol2
    replace hold := hold.trans hol2
    clear hol2
    have z0 : ∀ j, w1.frozen? ⟨w.heap.size, j, none⟩ = false := fun j => by simp [World.frozen?, hnew]
    have k0 : w1.cell? ⟨w.heap.size, 0, none⟩ = some (.int .i64 0) := by simp [World.cell?, hnew]
    have k1 : w1.cell? ⟨w.heap.size, 1, none⟩ = some (.int .i64 0) := by simp [World.cell?, hnew]
    have k2 : w1.cell? ⟨w.heap.size, 2, none⟩ = some (.int .i64 0) := by simp [World.cell?, hnew]
    have k3 : w1.cell? ⟨w.heap.size, 3, none⟩ = some (.int .i64 0) := by simp [World.cell?, hnew]
    have c0 : w1.cell? ⟨w.heap.size + 1, 0, none⟩ = some (.int .i64 (dopI x)) := by simp [World.cell?, hold]
    have c1 : w1.cell? ⟨w.heap.size + 1, 1, none⟩ = some (.int .i64 (daI x)) := by simp [World.cell?, hold]
    have c2 : w1.cell? ⟨w.heap.size + 1, 2, none⟩ = some (.int .i64 (dbI x)) := by simp [World.cell?, hold]
    have c3 : w1.cell? ⟨w.heap.size + 1, 3, none⟩ = some (.int .i64 (diI x)) := by simp [World.cell?, hold]
    clear hnew hold
    go_wp2
    exact bodyPost_ret (v := .tuple #[.agg #[.int .i64 0, .int .i64 0, .int .i64 0, .int .i64 0], .bool false]) (by simp [results, Try.results25, go_sem, k0, k1, k2, k3]) rfl ⟨rfl, (((hb1.setCell (Nat.le_refl _) _).setCell (Nat.le_refl _) _).setCell (Nat.le_refl _) _).setCell (Nat.le_refl _) _⟩
  · have HI : Hid (x % 65536 = diI x) := by show _ = _; unfold diI; rw [if_neg hi]
    go_enter Try.func25, Try.ntmps25
    go_wp2_with fail
    rw [HI.out, HO.out, HA.out, HB.out]
    refine (rvalid_c _ _ _ _ _).mono ?_
    rintro e w1 ⟨rfl, q1⟩
    rw [HV.out]
    have hs : w.heap.size + 1 < w1.heap.size := by have := q1.size; simp at this; omega
    have hb1 : Below w.heap.size w w1 := (((Below.refl _ _).alloc (Nat.le_refl _) _).alloc (by simp) _).trans (q1.mono (by simp; omega))
    have hnew : w1.heap[w.heap.size]? = some (.cells #[.int .i64 0, .int .i64 0, .int .i64 0, .int .i64 0] 75) := (q1.block w.heap.size (by simp; omega)).trans ((Below.heap_alloc _ _ _ (by simp)).trans (heap_alloc_new w _))
    have hold := (q1.block (w.heap.size + 1) (by simp))
    have hol2 := heap_alloc_new (w.alloc (.cells #[.int .i64 0, .int .i64 0, .int .i64 0, .int .i64 0] 75)) (.cells #[.int .i64 (dopI x), .int .i64 (daI x), .int .i64 (dbI x), .int .i64 (diI x)] 75)
    rw [show (w.alloc (.cells #[.int .i64 0, .int .i64 0, .int .i64 0, .int .i64 0] 75)).heap.size = w.heap.size + 1 by simp] at hol2
    replace hold := hold.trans hol2
    clear hol2
    have z0 : ∀ j, w1.frozen? ⟨w.heap.size, j, none⟩ = false := fun j => by simp [World.frozen?, hnew]
    have k0 : w1.cell? ⟨w.heap.size, 0, none⟩ = some (.int .i64 0) := by simp [World.cell?, hnew]
    have k1 : w1.cell? ⟨w.heap.size, 1, none⟩ = some (.int .i64 0) := by simp [World.cell?, hnew]
    have k2 : w1.cell? ⟨w.heap.size, 2, none⟩ = some (.int .i64 0) := by simp [World.cell?, hnew]
    have k3 : w1.cell? ⟨w.heap.size, 3, none⟩ = some (.int .i64 0) := by simp [World.cell?, hnew]
    have c0 : w1.cell? ⟨w.heap.size + 1, 0, none⟩ = some (.int .i64 (dopI x)) := by simp [World.cell?, hold]
    have c1 : w1.cell? ⟨w.heap.size + 1, 1, none⟩ = some (.int .i64 (daI x)) := by simp [World.cell?, hold]
    have c2 : w1.cell? ⟨w.heap.size + 1, 2, none⟩ = some (.int .i64 (dbI x)) := by simp [World.cell?, hold]
    have c3 : w1.cell? ⟨w.heap.size + 1, 3, none⟩ = some (.int .i64 (diI x)) := by simp [World.cell?, hold]
    clear hnew hold
    go_wp2
    exact bodyPost_ret (v := .tuple #[.agg #[.int .i64 0, .int .i64 0, .int .i64 0, .int .i64 0], .bool false]) (by simp [results, Try.results25, go_sem, k0, k1, k2, k3]) rfl ⟨rfl, (((hb1.setCell (Nat.le_refl _) _).setCell (Nat.le_refl _) _).setCell (Nat.le_refl _) _).setCell (Nat.le_refl _) _⟩
/-- What a word is decoded as: the instruction, or the zero one. -/
def vldD (x : Int) : Bool := vldB (dopI x) (daI x) (dbI x) (diI x)
def doR (x : Int) : Int := if vldD x then dopI x else 0
def daR (x : Int) : Int := if vldD x then daI x else 0
def dbR (x : Int) : Int := if vldD x then dbI x else 0
def diR (x : Int) : Int := if vldD x then diI x else 0
theorem decode_c (b off : Nat) (x : Int) (w : World) (ht : TabOk w b off) (h0 : 0 ≤ x) (h1 : x ≤ 4294967295) :
    Calls Try.prog 39 #[.pointer (some ⟨b, off, none⟩), .int .u32 x] w fun e w' =>
      e = .returned (.tuple #[.agg #[.int .i64 (doR x), .int .i64 (daR x), .int .i64 (dbR x), .int .i64 (diR x)], .bool (vldD x)]) ∧ TabOk w' b off ∧ Keep b off (off + 103) w w' := by
  cases hv : vldD x
  · rw [show doR x = 0 by simp [doR, hv], show daR x = 0 by simp [daR, hv], show dbR x = 0 by simp [dbR, hv], show diR x = 0 by simp [diR, hv]]
    exact decode_no b off x w ht h0 h1 hv
  · rw [show doR x = dopI x by simp [doR, hv], show daR x = daI x by simp [daR, hv], show dbR x = dbI x by simp [dbR, hv], show diR x = diI x by simp [diR, hv]]
    exact decode_yes b off x w ht h0 h1 hv
theorem rdecode_c (x : Int) (w : World) (h0 : 0 ≤ x) (h1 : x ≤ 4294967295) :
    Calls Try.prog 25 #[.int .u32 x] w fun e w' =>
      e = .returned (.tuple #[.agg #[.int .i64 (doR x), .int .i64 (daR x), .int .i64 (dbR x), .int .i64 (diR x)], .bool (vldD x)]) ∧ Below w.heap.size w w' := by
  cases hv : vldD x
  · rw [show doR x = 0 by simp [doR, hv], show daR x = 0 by simp [daR, hv], show dbR x = 0 by simp [dbR, hv], show diR x = 0 by simp [diR, hv]]
    exact rdecode_no x w h0 h1 hv
  · rw [show doR x = dopI x by simp [doR, hv], show daR x = daI x by simp [daR, hv], show dbR x = dbI x by simp [dbR, hv], show diR x = diI x by simp [diR, hv]]
    exact rdecode_yes x w h0 h1 hv
theorem vldD_bounds (x : Int) : vldB (doR x) (daR x) (dbR x) (diR x) = vldD x := by
  cases hv : vldD x
  · rw [show doR x = 0 by simp [doR, hv], show daR x = 0 by simp [daR, hv], show dbR x = 0 by simp [dbR, hv], show diR x = 0 by simp [diR, hv]]
    decide
  · rw [show doR x = dopI x by simp [doR, hv], show daR x = daI x by simp [daR, hv], show dbR x = dbI x by simp [dbR, hv], show diR x = diI x by simp [diR, hv]]
    exact hv
theorem encR_dec (x : Int) (h0 : 0 ≤ x) (h1 : x ≤ 4294967295) (hv : vldD x = true) : encR (doR x) (daR x) (dbR x) (diR x) = x := by
  unfold encR
  rw [vldD_bounds, if_pos hv, show doR x = dopI x by simp [doR, hv], show daR x = daI x by simp [daR, hv], show dbR x = dbI x by simp [dbR, hv], show diR x = diI x by simp [diR, hv]]
  exact enc_dec x h0 h1
/-- The hundred and three cells of a table that is new. -/
def ztab : Array Value := #[.int .u32 0, .int .i32 0, .int .u32 0] ++ Array.replicate 100 (.bool false)
theorem ztab_zero (w : World) : Sem.run Try.prog (zeroValue 110) w = .ok (.agg ztab) w := by kernel_rfl
theorem tab_new (w : World) : TabOk (w.alloc (.cells ztab 110)) w.heap.size 0 := by
  have h : (w.alloc (.cells ztab 110)).heap[w.heap.size]? = some (.cells ztab 110) := heap_alloc_new w _
  have hc : ∀ j, (w.alloc (.cells ztab 110)).cell? ⟨w.heap.size, j, none⟩ = ztab[j]? := fun j => by unfold World.cell?; rw [h]; rfl
  have hz : ∀ j, (w.alloc (.cells ztab 110)).frozen? ⟨w.heap.size, j, none⟩ = false := fun j => by unfold World.frozen?; rw [h]; simp
  refine .inl ⟨(hc 0).trans rfl, (hc 1).trans rfl, hz _, hz _, fun k hk => ⟨(hc _).trans ?_, hz _⟩⟩
  unfold ztab
  rw [Array.getElem?_append_right (by simp), Array.getElem?_replicate, if_pos (by simp; omega)]
end Go.Proofs.Ytjlcncdhlcpklaa
