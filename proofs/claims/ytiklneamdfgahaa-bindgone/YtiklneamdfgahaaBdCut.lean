/-
  Layer 15 (bind): contracts of maps.DeleteFunc of a nil map, drop, Empty, Release, over the translated program.
-/
import Derived.Test.YtiklneamdfgahaaBdGo
import Derived.Shelf.Abstract
namespace Go.Proofs.Ytiklneamdfgahaa.Bd
open Go.ChangeShapes Go.WideShapes Go.ChangeAt Go.RowKit
open Go.Shelf
set_option linter.unusedVariables false
set_option maxRecDepth 20000

set_option maxHeartbeats 1000000 in
theorem df_none (fv : Value) (w : World) :
    Calls Try.prog 35 #[.map none, fv] w fun e w' => e = .returned (.tuple #[]) ∧ But [] w w' := by
  have hrg := run_range_nilMap (P := Try.prog) w 54 _ _ Try.underlying54
  have hnx : ∀ ty, (Instr.next (.pointer (some ⟨w.heap.size, 0, none⟩)) false ty).run Try.prog (w.alloc (.mapIter none 0 #[] 0)) = _ := fun ty => run_next_nilMap _ ty 0 0 #[]
  have HK : Hid (But [] w (w.alloc (.mapIter none 0 #[] 0))) := (But.refl [] w).alloc _
  go_enter Try.func35, Try.ntmps35
  go_wp2
  refine wp_loop_rounds 1 ?_
  rw [rounds_succ]
  go_wp2
  go_end0
  exact ⟨rfl, HK.out⟩
theorem wrap_small (x : Int) (h0 : -4096 ≤ x) (h1 : x ≤ 4096) : IntKind.i64.wrap x = x := by
  simp [IntKind.wrap, IntKind.signed, IntKind.bits]
  omega
set_option maxHeartbeats 1000000 in
theorem drop_some (b : Nat) (mo : Option Nat) (T : Tb) (gf : Nat) (cb : Array Value) (pd : Nat → Fw → Bool) (w : World) (h : TbAt w b mo T)
    (eg : ∀ args w, (callFunc gf args).run Try.prog w = .ok (.enter gf args) w)
    (hdel : ∀ (W : World) (s p f : Int) (u : Bool), But mo.toList w W → hsP s p → T (pl s p) = some (f, u) →
      Calls Try.prog gf (#[.agg #[.int .i64 s, .int .i64 p], .agg #[.int .i64 f, .bool u]] ++ cb) W fun e w' => e = .returned (.bool (pd (pl s p) (f, u))) ∧ But [] W w') :
    Calls Try.prog 28 #[.pointer (some ⟨b, 0, none⟩), .func (.func gf) #[] cb] w fun r w' => r = .returned (.int .i64 (dn T (goes T pd) 2048 : Nat)) ∧ Lf b mo (cut T (goes T pd)) w w' := by
  have H := hid h
  have HDF : Hid (Calls Try.prog 35 #[.map mo, .func (.func gf) #[] cb] w fun e w' => e = .returned (.tuple #[]) ∧ Lf b mo (cut T (goes T pd)) w w') := by
    show Calls _ _ _ _ _
    have hok := h.ok.cut (goes T pd)
    cases mo with
    | none =>
      obtain rfl : T = no := h.map
      have e : cut no (goes no pd) = no := by funext k; unfold cut no; simp
      rw [e]
      exact (df_none _ w).mono fun r w' hh => ⟨hh.1, Lf.same h hh.2⟩
    | some mb =>
      refine (df_some mb T gf cb pd w h.map h.ok eg hdel).mono fun r w' hh => ⟨hh.1, some mb, ?_, hh.2.2.wider (by simp), fun m hm => .inl hm⟩
      have hne : b ∉ [mb] := by
        intro hm
        simp at hm
        exact h.ne mb rfl hm.symm
      exact ⟨cell_keep h.cell hh.2.2 hne, (hh.2.2.frozen (p := ⟨b, 0, none⟩) h.lt hne).trans h.free, hh.2.1, hok, h.ne⟩
  have hle := cn_le T 2048
  have hdn := dn_cut T (goes T pd)
  have HW : Hid (IntKind.i64.wrap (((cn T 2048 : Nat) : Int) - ((cn (cut T (goes T pd)) 2048 : Nat) : Int)) = (dn T (goes T pd) 2048 : Nat)) := by
    show _ = _
    rw [wrap_small _ (by omega) (by omega)]
    omega
  clear h hdel hle hdn
  obtain ⟨N1, hN1⟩ : ∃ n, n = cn T 2048 := ⟨_, rfl⟩
  obtain ⟨N2, hN2⟩ : ∃ n, n = cn (cut T (goes T pd)) 2048 := ⟨_, rfl⟩
  obtain ⟨N3, hN3⟩ : ∃ n, n = dn T (goes T pd) 2048 := ⟨_, rfl⟩
  rw [← hN1, ← hN2, ← hN3] at HW
  rw [← hN3]
  have HN := hid (And.intro hN1 hN2)
  clear hN1 hN2 hN3
  go_enter Try.func28, Try.ntmps28
  go_wp2_with fail
  refine (len_c _ mo T _ (Tv.at_ H.out)).mono ?_
  rw [← HN.out.1]
  rintro r w1 ⟨rfl, rfl⟩
  go_wp2_with fail
  refine (all_c _ mo T _ (Tv.at_ H.out)).mono ?_
  rintro r w1 ⟨rfl, rfl⟩
  go_wp2_with fail
  refine HDF.out.mono ?_
  rintro r w1 ⟨rfl, mo', h1, k1, m1⟩
  have H1 := hid h1
  have K1 : Hid (Lf b mo (cut T (goes T pd)) w w1) := ⟨mo', h1, k1, m1⟩
  clear h1 k1 m1
  go_wp2_with fail
  refine (len_c _ mo' _ _ (Tv.at_ H1.out)).mono ?_
  rw [← HN.out.2]
  rintro r w2 ⟨rfl, rfl⟩
  have hw := HW.out
  go_wp2
  go_ret
  exact ⟨rfl, K1.out⟩
theorem drop_nil (fv : Value) (w : World) :
    Calls Try.prog 28 #[.pointer none, fv] w fun r w' => r = .returned (.int .i64 0) ∧ But [] w w' := by
  go_enter Try.func28, Try.ntmps28
  go_wp2_with fail
  refine (len_c _ none no _ (Tv.nil _)).mono ?_
  rw [cn_no]
  rintro r w1 ⟨rfl, rfl⟩
  go_wp2_with fail
  refine (all_c _ none no _ (Tv.nil _)).mono ?_
  rintro r w1 ⟨rfl, rfl⟩
  go_wp2_with fail
  refine (df_none _ _).mono ?_
  rintro r w1 ⟨rfl, k1⟩
  have K1 := hid k1
  clear k1
  go_wp2_with fail
  refine (len_c _ none no _ (Tv.nil _)).mono ?_
  rw [cn_no]
  rintro r w2 ⟨rfl, rfl⟩
  go_wp2
  go_ret
  exact ⟨rfl, K1.out⟩
theorem rel_cl (s p f frame : Int) (u : Bool) (bx : Nat) (W : World) (hx : W.cell? ⟨bx, 0, none⟩ = some (.int .i64 frame)) :
    Calls Try.prog 29 (#[.agg #[.int .i64 s, .int .i64 p], .agg #[.int .i64 f, .bool u]] ++ #[.pointer (some ⟨bx, 0, none⟩)]) W fun e w' => e = .returned (.bool (f == frame)) ∧ But [] W w' := by
  have HK := hid (((But.refl [] W).alloc (.cells #[.int .i64 s, .int .i64 p] 61)).alloc (.cells #[.int .i64 f, .bool u] 36))
  have hx2 := cell_keep hx HK.out (by simp)
  clear hx
  go_enter Try.func29, Try.ntmps29
  go_wp2
  go_ret
  exact ⟨rfl, HK.out⟩
theorem emp_cl (s p f sp : Int) (u : Bool) (bx : Nat) (W : World) (hx : W.cell? ⟨bx, 0, none⟩ = some (.int .i64 sp)) :
    Calls Try.prog 31 (#[.agg #[.int .i64 s, .int .i64 p], .agg #[.int .i64 f, .bool u]] ++ #[.pointer (some ⟨bx, 0, none⟩)]) W fun e w' => e = .returned (.bool (s == sp)) ∧ But [] W w' := by
  have HK := hid (((But.refl [] W).alloc (.cells #[.int .i64 s, .int .i64 p] 61)).alloc (.cells #[.int .i64 f, .bool u] 36))
  have hx2 := cell_keep hx HK.out (by simp)
  clear hx
  go_enter Try.func31, Try.ntmps31
  go_wp2
  go_ret
  exact ⟨rfl, HK.out⟩
/-- Those of a space. -/
def gS (T : Tb) (s : Int) : Nat → Bool := goes T fun k _ => ((k / 32 : Nat) : Int) == s
theorem gF (T : Tb) (f : Int) : goes T (fun _ b => b.1 == f) = isF T f := rfl
theorem Lf.own {b : Nat} {mo : Option Nat} {T T' : Tb} {w w1 w2 : World} (k : But [] w w1) (h : Lf b mo T' w1 w2) : Lf b mo T' w w2 := by
  obtain ⟨mo', h1, k1, m1⟩ := h
  exact ⟨mo', h1, (k.any _).trans k1, fun m hm => (m1 m hm).imp id (fun hh => Nat.le_trans k.size hh)⟩
set_option maxHeartbeats 1000000 in
theorem release_c (b : Nat) (mo : Option Nat) (T : Tb) (frame : Int) (w : World) (h : TbAt w b mo T) :
    Calls Try.prog 17 #[.pointer (some ⟨b, 0, none⟩), .int .i64 frame] w fun r w' => r = .returned (.int .i64 (dn T (isF T frame) 2048 : Nat)) ∧ Lf b mo (cut T (isF T frame)) w w' := by
  have k0 : But [] w (w.alloc (.cells #[.int .i64 frame] 3)) := (But.refl [] w).alloc _
  have hx := range_cells (new_range w [.int .i64 frame] 3) 0 _ rfl
  have eg : ∀ args w, (callFunc 29 args).run Try.prog w = .ok (.enter 29 args) w := enters_of Try.func29 (by kernel_rfl) rfl
  have HD := hid (drop_some b mo T 29 #[.pointer (some ⟨w.heap.size, 0, none⟩)] (fun _ b => b.1 == frame) _ (h.keep0 k0) eg (fun W s p f u kW hs hT =>
    rel_cl s p f frame u w.heap.size W (cell_keep hx kW (fun hm => by
      have := h.map.lt _ (by simpa using hm)
      omega))))
  rw [gF] at HD
  have HK := hid k0
  clear k0 hx h eg
  go_enter Try.func17, Try.ntmps17
  go_wp2_with fail
  refine HD.out.mono ?_
  rintro r w1 ⟨rfl, h1⟩
  have H1 := hid (Lf.own (T := T) HK.out h1)
  clear h1
  go_wp2
  go_ret
  exact ⟨rfl, H1.out⟩
set_option maxHeartbeats 1000000 in
theorem empty_c (b : Nat) (mo : Option Nat) (T : Tb) (sp : Int) (w : World) (h : TbAt w b mo T) :
    Calls Try.prog 20 #[.pointer (some ⟨b, 0, none⟩), .int .i64 sp] w fun r w' => r = .returned (.int .i64 (dn T (gS T sp) 2048 : Nat)) ∧ Lf b mo (cut T (gS T sp)) w w' := by
  have k0 : But [] w (w.alloc (.cells #[.int .i64 sp] 3)) := (But.refl [] w).alloc _
  have hx := range_cells (new_range w [.int .i64 sp] 3) 0 _ rfl
  have eg : ∀ args w, (callFunc 31 args).run Try.prog w = .ok (.enter 31 args) w := enters_of Try.func31 (by kernel_rfl) rfl
  have HD := hid (drop_some b mo T 31 #[.pointer (some ⟨w.heap.size, 0, none⟩)] (fun k _ => ((k / 32 : Nat) : Int) == sp) _ (h.keep0 k0) eg (fun W s p f u kW hs hT => by
    rw [pl_div hs]
    exact emp_cl s p f sp u w.heap.size W (cell_keep hx kW (fun hm => by
      have := h.map.lt _ (by simpa using hm)
      omega))))
  have HK := hid k0
  clear k0 hx h eg
  change Hid (Calls _ _ _ _ fun r w' => r = .returned (.int .i64 (dn T (gS T sp) 2048 : Nat)) ∧ Lf b mo (cut T (gS T sp)) _ w') at HD
  go_enter Try.func20, Try.ntmps20
  go_wp2_with fail
  refine HD.out.mono ?_
  rintro r w1 ⟨rfl, h1⟩
  have H1 := hid (Lf.own (T := T) HK.out h1)
  clear h1
  go_wp2
  go_ret
  exact ⟨rfl, H1.out⟩
theorem release_nil (frame : Int) (w : World) :
    Calls Try.prog 17 #[.pointer none, .int .i64 frame] w fun r w' => r = .returned (.int .i64 0) ∧ But [] w w' := by
  have HK := hid ((But.refl [] w).alloc (.cells #[.int .i64 frame] 3))
  go_enter Try.func17, Try.ntmps17
  go_wp2_with fail
  refine (drop_nil _ _).mono ?_
  rintro r w1 ⟨rfl, k1⟩
  have H1 := hid (HK.out.trans k1)
  clear k1
  go_wp2
  go_ret
  exact ⟨rfl, H1.out⟩
theorem empty_nil (s : Int) (w : World) :
    Calls Try.prog 20 #[.pointer none, .int .i64 s] w fun r w' => r = .returned (.int .i64 0) ∧ But [] w w' := by
  have HK := hid ((But.refl [] w).alloc (.cells #[.int .i64 s] 3))
  go_enter Try.func20, Try.ntmps20
  go_wp2_with fail
  refine (drop_nil _ _).mono ?_
  rintro r w1 ⟨rfl, k1⟩
  have H1 := hid (HK.out.trans k1)
  clear k1
  go_wp2
  go_ret
  exact ⟨rfl, H1.out⟩
end Go.Proofs.Ytiklneamdfgahaa.Bd
