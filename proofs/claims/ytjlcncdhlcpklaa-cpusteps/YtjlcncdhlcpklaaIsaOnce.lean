/-
  sync.Once in one goroutine, at layer 2's table: the two calls that its slow road defers, its lock, the slow road, Do: first, and again.
-/
import Derived.Test.YtjlcncdhlcpklaaIsaLay
import Derived.Tactics
import Derived.Tactics2
import Derived.Defers
import Derived.Laws.Pointers
import Derived.Laws.LoneSync
import Derived.RegionCalls
namespace Go.Proofs.Ytjlcncdhlcpklaa
open Go.ChangeShapes Go.WideShapes Go.ChangeAt Go.RowKit
set_option linter.unusedVariables false
set_option maxRecDepth 20000

theorem once_store (a : Addr) (x : Value) (u : FrameMode) (w : World) (hc : w.cell? a = some x) (hz : w.frozen? a = false) :
    CallsD Try.prog 84 #[.pointer (some a), .bool true] u w fun e u' w' => u' = u ∧ (e = .returned (.tuple #[]) ∧ w' = w.drew.setCell a (.int .u32 1)) := by
  have hc' : w.drew.cell? a = some x := by go_simp
  have hz' : w.drew.frozen? a = false := by go_simp
  have hst := run_call_store (P := Try.prog) Try.func87 (by kernel_rfl) (by kernel_rfl) (by kernel_rfl) (by kernel_rfl) (k := .u32) (y := 1) hc' hz'
  go_enter_d Try.func84, Try.ntmps84
  go_wp2
  go_region_calls
  all_goals (go_end0; exact ⟨rfl, rfl⟩)
theorem once_unlock (a : Addr) (u : FrameMode) (w : World) (hc : w.cell? a = some (.int .i32 1)) (hz : w.frozen? a = false) :
    CallsD Try.prog 83 #[.pointer (some a)] u w fun e u' w' => u' = u ∧ (e = .returned (.tuple #[]) ∧ w' = w.setCell a (.int .i32 0)) := by
  have hd := fun w => run_call_mark0 (P := Try.prog) Try.func89 (by kernel_rfl) (by kernel_rfl) (by kernel_rfl) .disable (by kernel_rfl) w
  have he := fun w => run_call_mark0 (P := Try.prog) Try.func91 (by kernel_rfl) (by kernel_rfl) (by kernel_rfl) .enable (by kernel_rfl) w
  have hr := fun a w => run_call_marked (P := Try.prog) Try.func94 (by kernel_rfl) (by kernel_rfl) (by kernel_rfl) .releaseMerge (by kernel_rfl) a w
  have hadd := run_call_add (P := Try.prog) Try.func95 (by kernel_rfl) (by kernel_rfl) (by kernel_rfl) .i32 (by kernel_rfl) (y := -1) (s := 0) hc hz (by simp [go_sem]; rfl)
  have hcv := run_convert_to_unsafe (P := Try.prog) (src := 162) (dst := 166) Try.underlying162 Try.underlying166 (by kernel_rfl) hc
  go_enter_d Try.func83, Try.ntmps83
  go_wp2
  go_end0
  go_wp2
  go_end0
  exact ⟨rfl, rfl⟩
theorem once_lock (a : Addr) (w : World) (hc : w.cell? a = some (.int .i32 0)) (hz : w.frozen? a = false) :
    Calls Try.prog 82 #[.pointer (some a)] w fun e w' => e = .returned (.tuple #[]) ∧ w' = w.setCell a (.int .i32 1) := by
  have hd := fun w => run_call_mark0 (P := Try.prog) Try.func89 (by kernel_rfl) (by kernel_rfl) (by kernel_rfl) .disable (by kernel_rfl) w
  have he := fun w => run_call_mark0 (P := Try.prog) Try.func91 (by kernel_rfl) (by kernel_rfl) (by kernel_rfl) .enable (by kernel_rfl) w
  have ha := fun a w => run_call_marked (P := Try.prog) Try.func92 (by kernel_rfl) (by kernel_rfl) (by kernel_rfl) .acquire (by kernel_rfl) a w
  have hcas := run_call_cas_hit (P := Try.prog) Try.func90 (by kernel_rfl) (by kernel_rfl) (by kernel_rfl) .i32 (by kernel_rfl) (y := 1) hc hz
  have hc' : (w.setCell a (.int .i32 1)).cell? a = some (.int .i32 1) := World.cell?_setCell_same w a _ hc
  have hcv := run_convert_to_unsafe (P := Try.prog) (src := 162) (dst := 166) Try.underlying162 Try.underlying166 (by kernel_rfl) hc'
  go_enter Try.func82, Try.ntmps82
  go_wp2
  first | go_end0 | (simp only [Exit.inBlock, Exit.then]; refine bodyPost_ret (results_none rfl _ _ _) rfl ?_) | refine bodyPost_ret (results_none rfl _ _ _) rfl ?_
  go_wp2
  go_end0
  exact ⟨rfl, rfl⟩
/-- A table at ⟨b, off⟩ that is asked (d = 1) or not (d = 0), and whose rows are f. -/
structure TabAt (w : World) (b off : Nat) (d : Int) (f : Nat → Bool) : Prop where
  done : w.cell? ⟨b, off, none⟩ = some (.int .u32 d)
  state : w.cell? ⟨b, off + 1, none⟩ = some (.int .i32 0)
  z0 : w.frozen? ⟨b, off, none⟩ = false
  z1 : w.frozen? ⟨b, off + 1, none⟩ = false
  rows : RowsAt w b (off + 3) f
/-- A table: new, or filled. -/
def TabOk (w : World) (b off : Nat) : Prop := TabAt w b off 0 (fun _ => false) ∨ TabAt w b off 1 flB
theorem TabAt.home {w : World} {b off : Nat} {d : Int} {f : Nat → Bool} (h : TabAt w b off d f) : b < w.heap.size := lt_of_cell h.done
theorem TabOk.home {w : World} {b off : Nat} (h : TabOk w b off) : b < w.heap.size := by
  rcases h with h | h <;> exact h.home
theorem TabAt.below {w w' : World} {b off : Nat} {d : Int} {f : Nat → Bool} (h : TabAt w b off d f) (k : Below w.heap.size w w') : TabAt w' b off d f :=
  ⟨(k.cell (p := ⟨b, off, none⟩) h.home).trans h.done, (k.cell (p := ⟨b, off + 1, none⟩) h.home).trans h.state, (k.frozen (p := ⟨b, off, none⟩) h.home).trans h.z0, (k.frozen (p := ⟨b, off + 1, none⟩) h.home).trans h.z1,
    fun i hi => ⟨(k.cell (p := ⟨b, off + 3 + i, none⟩) h.home).trans (h.rows i hi).1, (k.frozen (p := ⟨b, off + 3 + i, none⟩) h.home).trans (h.rows i hi).2⟩⟩
theorem TabOk.below {w w' : World} {b off : Nat} (h : TabOk w b off) (k : Below w.heap.size w w') : TabOk w' b off := by
  rcases h with h | h
  · exact .inl (h.below k)
  · exact .inr (h.below k)
theorem TabOk.alloc {w : World} {b off : Nat} (h : TabOk w b off) (o : Obj) : TabOk (w.alloc o) b off := h.below ((Below.refl _ _).alloc (Nat.le_refl _) o)
theorem TabOk.drew {w : World} {b off : Nat} (h : TabOk w b off) : TabOk w.drew b off := h.below ((Below.refl _ _).drew)

theorem TabAt.setFar {w : World} {b off : Nat} {d : Int} {f : Nat → Bool} (h : TabAt w b off d f) {p : Addr} (hp : p.block ≠ b) (v : Value) : TabAt (w.setCell p v) b off d f :=
  have ne : ∀ i, p ≠ ⟨b, i, none⟩ := fun i e => hp (by rw [e])
  ⟨(World.cell?_setCell_other w p _ v (ne _)).trans h.done, (World.cell?_setCell_other w p _ v (ne _)).trans h.state, (frozen_setCell _ _ _ _).trans h.z0, (frozen_setCell _ _ _ _).trans h.z1,
    fun i hi => ⟨(World.cell?_setCell_other w p _ v (ne _)).trans (h.rows i hi).1, (frozen_setCell _ _ _ _).trans (h.rows i hi).2⟩⟩
theorem TabOk.setFar {w : World} {b off : Nat} (h : TabOk w b off) {p : Addr} (hp : p.block ≠ b) (v : Value) : TabOk (w.setCell p v) b off := by
  rcases h with h | h
  · exact .inl (h.setFar hp v)
  · exact .inr (h.setFar hp v)

theorem addr_ne {b i m : Nat} (hn : i ≠ m) : (⟨b, i, none⟩ : Addr) ≠ ⟨b, m, none⟩ := fun e => hn (by injection e)

set_option maxRecDepth 100000 in
set_option maxHeartbeats 1600000 in
theorem slow_c (b off : Nat) (w : World) (ht : TabAt w b off 0 (fun _ => false)) :
    Calls Try.prog 79 #[.pointer (some ⟨b, off, none⟩), .func (.func 77) #[.pointer (some ⟨b, off, none⟩)] #[]] w fun e w' => e = .returned (.tuple #[]) ∧ TabAt w' b off 1 flB ∧ Keep b off (off + 103) w w' := by
  obtain ⟨h0, h1, f0, f1, hr⟩ := ht
  have hl := run_call_load (P := Try.prog) Try.func81 (by kernel_rfl) (by kernel_rfl) (by kernel_rfl) .u32 (by kernel_rfl) (w := w.setCell ⟨b, off + 1, none⟩ (.int .i32 1)) (a := ⟨b, off, none⟩) (x := 0) ((World.cell?_setCell_other _ ⟨b, off + 1, none⟩ ⟨b, off, none⟩ _ (addr_ne (by omega))).trans h0)
  have hnot : ∀ (x : Bool) (w : World), (Op.unary .not (.bool x)).run Try.prog w = .ok (.bool (!x)) w := fun _ _ => rfl
  have hb : b < w.heap.size := lt_of_cell h0
  have k1 : Keep b off (off + 103) w (w.setCell ⟨b, off + 1, none⟩ (.int .i32 1)) := (Keep.refl _ _ hb).setCell (by omega) (by omega) _
  have kk1 : Keep b (off + 1) (off + 2) w (w.setCell ⟨b, off + 1, none⟩ (.int .i32 1)) := (Keep.refl _ _ hb).setCell (by omega) (by omega) _
  have r1 := hr.keep kk1 (.inr (by omega))
  have c0 : (w.setCell ⟨b, off + 1, none⟩ (.int .i32 1)).cell? ⟨b, off, none⟩ = some (.int .u32 0) := (World.cell?_setCell_other _ ⟨b, off + 1, none⟩ ⟨b, off, none⟩ _ (addr_ne (by omega))).trans h0
  have c1 : (w.setCell ⟨b, off + 1, none⟩ (.int .i32 1)).cell? ⟨b, off + 1, none⟩ = some (.int .i32 1) := World.cell?_setCell_same w _ _ h1
  have hb1 : b < (w.setCell ⟨b, off + 1, none⟩ (.int .i32 1)).heap.size := lt_of_cell c0
  go_enter_defers Try.func79, Try.ntmps79
  go_wp2_with fail
  refine (once_lock ⟨b, off + 1, none⟩ _ h1 f1).mono ?_
  rintro e w' ⟨rfl, rfl⟩
  go_wp2_with (go_at_call 78; go_in)
  refine (fill_c b off _ hb1 r1).mono ?_
  rintro e w2 ⟨rfl, r2, q2⟩
  have d0 : w2.cell? ⟨b, off, none⟩ = some (.int .u32 0) := (q2.cell off (by omega)).trans c0
  have d1 : w2.cell? ⟨b, off + 1, none⟩ = some (.int .i32 1) := (q2.cell (off + 1) (by omega)).trans c1
  have g0 : w2.frozen? ⟨b, off, none⟩ = false := (q2.frozen off).trans (by simp [f0])
  have g1 : w2.frozen? ⟨b, off + 1, none⟩ = false := (q2.frozen (off + 1)).trans (by simp [f1])
  have k2 : Keep b off (off + 103) w w2 := k1.trans (q2.wider (by omega) (by omega))
  clear hl c0 c1 k1 kk1 r1
  go_wp2
  -- the door: two deferred calls, the last laid first
  refine leaves_cons (f := 84) (args := #[.pointer (some ⟨b, off, none⟩), .bool true]) (by simp) (by simp [go_sem]) ?_
  refine (once_store ⟨b, off, none⟩ (.int .u32 0) .returning _ d0 g0).mono ?_
  rintro e u' w'' ⟨rfl, rfl, rfl⟩
  refine leaves_cons (f := 83) (args := #[.pointer (some ⟨b, off + 1, none⟩)]) (by simp [settle]) (by simp [go_sem]) ?_
  refine (once_unlock ⟨b, off + 1, none⟩ _ _ ?_ (by simp [g1])).mono ?_
  · refine (World.cell?_setCell_other _ ⟨b, off, none⟩ ⟨b, off + 1, none⟩ _ (addr_ne (by omega))).trans ?_
    rw [World.cell?_drew]
    exact d1
  rintro e u' w'' ⟨rfl, rfl, rfl⟩
  have kE : Keep b off (off + 103) w ((w2.drew.setCell ⟨b, off, none⟩ (.int .u32 1)).setCell ⟨b, off + 1, none⟩ (.int .i32 0)) := (k2.drew.setCell (by omega) (by omega) _).setCell (by omega) (by omega) _
  have kR : Keep b off (off + 2) w2 ((w2.drew.setCell ⟨b, off, none⟩ (.int .u32 1)).setCell ⟨b, off + 1, none⟩ (.int .i32 0)) := ((Keep.refl _ _ (lt_of_cell d0)).drew.setCell (by omega) (by omega) _).setCell (by omega) (by omega) _
  have e0 : ((w2.drew.setCell ⟨b, off, none⟩ (.int .u32 1)).setCell ⟨b, off + 1, none⟩ (.int .i32 0)).cell? ⟨b, off, none⟩ = some (.int .u32 1) := (World.cell?_setCell_other _ ⟨b, off + 1, none⟩ ⟨b, off, none⟩ _ (addr_ne (by omega))).trans (World.cell?_setCell_same _ _ _ (show w2.drew.cell? ⟨b, off, none⟩ = _ from d0))
  have e1 : ((w2.drew.setCell ⟨b, off, none⟩ (.int .u32 1)).setCell ⟨b, off + 1, none⟩ (.int .i32 0)).cell? ⟨b, off + 1, none⟩ = some (.int .i32 0) := World.cell?_setCell_same _ _ _ ((World.cell?_setCell_other _ ⟨b, off, none⟩ ⟨b, off + 1, none⟩ _ (addr_ne (by omega))).trans (show w2.drew.cell? ⟨b, off + 1, none⟩ = _ from d1))
  have tE : TabAt ((w2.drew.setCell ⟨b, off, none⟩ (.int .u32 1)).setCell ⟨b, off + 1, none⟩ (.int .i32 0)) b off 1 flB := ⟨e0, e1, (kR.frozen off).trans g0, (kR.frozen (off + 1)).trans g1, r2.keep kR (.inr (by omega))⟩
  simp [Leaves, settle, results, Try.results79]
  exact ⟨tE, kE⟩
set_option maxRecDepth 100000 in
theorem do_first (b off : Nat) (w : World) (ht : TabAt w b off 0 (fun _ => false)) :
    Calls Try.prog 76 #[.pointer (some ⟨b, off, none⟩), .func (.func 77) #[.pointer (some ⟨b, off, none⟩)] #[]] w fun e w' => e = .returned (.tuple #[]) ∧ TabAt w' b off 1 flB ∧ Keep b off (off + 103) w w' := by
  have hl := run_call_load (P := Try.prog) Try.func81 (by kernel_rfl) (by kernel_rfl) (by kernel_rfl) .u32 (by kernel_rfl) ht.done
  have hnot : ∀ (x : Bool) (w : World), (Op.unary .not (.bool x)).run Try.prog w = .ok (.bool (!x)) w := fun _ _ => rfl
  go_enter Try.func76, Try.ntmps76
  go_wp2_with (first | (go_at_call 79; refine (slow_c b off _ ht).mono ?_; rintro e w' ⟨rfl, t1, q1⟩) | (go_at_call 78; go_in))
  go_end0
  exact ⟨rfl, t1, q1⟩
theorem do_done (b off : Nat) (fv : Value) (w : World) (ht : TabAt w b off 1 flB) :
    Calls Try.prog 76 #[.pointer (some ⟨b, off, none⟩), fv] w fun e w' => e = .returned (.tuple #[]) ∧ w = w' := by
  have hl := run_call_load (P := Try.prog) Try.func81 (by kernel_rfl) (by kernel_rfl) (by kernel_rfl) .u32 (by kernel_rfl) ht.done
  have hnot : ∀ (x : Bool) (w : World), (Op.unary .not (.bool x)).run Try.prog w = .ok (.bool (!x)) w := fun _ _ => rfl
  go_enter Try.func76, Try.ntmps76
  go_wp2
  go_end0
  exact ⟨rfl, rfl⟩
/-- The table is filled behind Do, whether it was or not. -/
theorem do_c (b off : Nat) (w : World) (ht : TabOk w b off) :
    Calls Try.prog 76 #[.pointer (some ⟨b, off, none⟩), .func (.func 77) #[.pointer (some ⟨b, off, none⟩)] #[]] w fun e w' => e = .returned (.tuple #[]) ∧ TabAt w' b off 1 flB ∧ Keep b off (off + 103) w w' := by
  rcases ht with ht | ht
  · exact do_first b off w ht
  · refine (do_done b off _ w ht).mono ?_
    rintro e w' ⟨rfl, rfl⟩
    exact ⟨rfl, ht, Keep.refl _ _ ht.home⟩
end Go.Proofs.Ytjlcncdhlcpklaa
