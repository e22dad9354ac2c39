/-
  Layer 17 (abort): which wants are meant, told by closures; contracts of ofName, ofEnv, ofKind, slices.IndexFunc, slices.ContainsFunc, over the translated program.
-/
import Derived.Test.YtfopmdiepaonnaaAoOf
import Derived.Shelf.Abstract
namespace Go.Proofs.Ytfopmdiepaonnaa.Ao
open Go.ChangeShapes Go.WideShapes Go.ChangeAt Go.RowKit
open Wh
set_option linter.unusedVariables false
set_option maxRecDepth 20000

/-- A function that tells which wants are meant, from w on. -/
structure Pd (gf : Nat) (cb : Array Value) (p : Wn → Bool) (w : World) : Prop where
  eg : ∀ args w, (callFunc gf args).run Try.prog w = .ok (.enter gf args) w
  tell : ∀ (W : World) (a : Wn), But [] w W → Calls Try.prog gf (#[.agg #[.int .i64 a.e, .int .i64 a.k, .int .i64 a.n, .int .i64 a.t]] ++ cb) W fun e w' => e = .returned (.bool (p a)) ∧ But [] W w'
theorem Pd.keep {gf : Nat} {cb : Array Value} {p : Wn → Bool} {w w' : World} (h : Pd gf cb p w) (k : But [] w w') : Pd gf cb p w' := ⟨h.eg, fun W a kW => h.tell W a (k.trans kW)⟩
theorem Try.mf : ∀ (fn : Fn) (first cap : Array Value) (w : World), (Instr.makeFunc fn first cap).run Try.prog w = .ok (.func fn first cap) w := fun _ _ _ _ => rfl
theorem cName (a : Wn) (e k n : Int) (b1 b2 b3 : Nat) (W : World) (h1 : W.cell? ⟨b1, 0, none⟩ = some (.int .i64 e)) (h2 : W.cell? ⟨b2, 0, none⟩ = some (.int .i64 k)) (h3 : W.cell? ⟨b3, 0, none⟩ = some (.int .i64 n)) :
    Calls Try.prog 34 (#[.agg #[.int .i64 a.e, .int .i64 a.k, .int .i64 a.n, .int .i64 a.t]] ++ #[.pointer (some ⟨b1, 0, none⟩), .pointer (some ⟨b2, 0, none⟩), .pointer (some ⟨b3, 0, none⟩)]) W fun r w' => r = .returned (.bool (key e k n a)) ∧ But [] W w' := by
  obtain ⟨x, y, z, t⟩ := a
  have HK := hid ((But.refl [] W).alloc (.cells #[.int .i64 x, .int .i64 y, .int .i64 z, .int .i64 t] wT))
  have h1' := cell_keep h1 HK.out (by simp)
  have h2' := cell_keep h2 HK.out (by simp)
  have h3' := cell_keep h3 HK.out (by simp)
  clear h1 h2 h3
  by_cases e1 : x = e
  · by_cases e2 : y = k
    · have HE : Hid (key e k n ⟨x, y, z, t⟩ = (z == n)) := by show (x == e && y == k && z == n) = _; rw [e1, e2]; simp
      subst e1
      subst e2
      go_enter Try.func34, Try.ntmps34
      go_wp2
      go_ret
      exact ⟨by rw [HE.out]; rfl, HK.out⟩
    · have HE : Hid (key e k n ⟨x, y, z, t⟩ = false) := by show (x == e && y == k && z == n) = _; simp [e2]
      subst e1
      go_enter Try.func34, Try.ntmps34
      go_wp2
      go_ret
      exact ⟨by rw [HE.out]; rfl, HK.out⟩
  · have HE : Hid (key e k n ⟨x, y, z, t⟩ = false) := by show (x == e && y == k && z == n) = _; simp [e1]
    go_enter Try.func34, Try.ntmps34
    go_wp2
    go_ret
    exact ⟨by rw [HE.out]; rfl, HK.out⟩
theorem cEnv (a : Wn) (e : Int) (b1 : Nat) (W : World) (h1 : W.cell? ⟨b1, 0, none⟩ = some (.int .i64 e)) :
    Calls Try.prog 35 (#[.agg #[.int .i64 a.e, .int .i64 a.k, .int .i64 a.n, .int .i64 a.t]] ++ #[.pointer (some ⟨b1, 0, none⟩)]) W fun r w' => r = .returned (.bool (ofE e a)) ∧ But [] W w' := by
  obtain ⟨x, y, z, t⟩ := a
  have HK := hid ((But.refl [] W).alloc (.cells #[.int .i64 x, .int .i64 y, .int .i64 z, .int .i64 t] wT))
  have h1' := cell_keep h1 HK.out (by simp)
  clear h1
  go_enter Try.func35, Try.ntmps35
  go_wp2
  go_ret
  exact ⟨rfl, HK.out⟩
theorem cKind (a : Wn) (e k : Int) (b1 b2 : Nat) (W : World) (h1 : W.cell? ⟨b1, 0, none⟩ = some (.int .i64 e)) (h2 : W.cell? ⟨b2, 0, none⟩ = some (.int .i64 k)) :
    Calls Try.prog 36 (#[.agg #[.int .i64 a.e, .int .i64 a.k, .int .i64 a.n, .int .i64 a.t]] ++ #[.pointer (some ⟨b1, 0, none⟩), .pointer (some ⟨b2, 0, none⟩)]) W fun r w' => r = .returned (.bool (ofK e k a)) ∧ But [] W w' := by
  obtain ⟨x, y, z, t⟩ := a
  have HK := hid ((But.refl [] W).alloc (.cells #[.int .i64 x, .int .i64 y, .int .i64 z, .int .i64 t] wT))
  have h1' := cell_keep h1 HK.out (by simp)
  have h2' := cell_keep h2 HK.out (by simp)
  clear h1 h2
  by_cases e1 : x = e
  · have HE : Hid (ofK e k ⟨x, y, z, t⟩ = (y == k)) := by show (x == e && y == k) = _; rw [e1]; simp
    subst e1
    go_enter Try.func36, Try.ntmps36
    go_wp2
    go_ret
    exact ⟨by rw [HE.out]; rfl, HK.out⟩
  · have HE : Hid (ofK e k ⟨x, y, z, t⟩ = false) := by show (x == e && y == k) = _; simp [e1]
    go_enter Try.func36, Try.ntmps36
    go_wp2
    go_ret
    exact ⟨by rw [HE.out]; rfl, HK.out⟩
theorem cTurn (a : Wn) (W : World) :
    Calls Try.prog 27 (#[.agg #[.int .i64 a.e, .int .i64 a.k, .int .i64 a.n, .int .i64 a.t]] ++ #[]) W fun r w' => r = .returned (.bool (z0 a)) ∧ But [] W w' := by
  obtain ⟨x, y, z, t⟩ := a
  have HK := hid ((But.refl [] W).alloc (.cells #[.int .i64 x, .int .i64 y, .int .i64 z, .int .i64 t] wT))
  go_enter Try.func27, Try.ntmps27
  go_wp2
  go_ret
  exact ⟨rfl, HK.out⟩
theorem pTurn (w : World) : Pd 27 #[] z0 w := ⟨enters_of Try.func27 (by kernel_rfl) rfl, fun W a _ => cTurn a W⟩
/-- A call answers a function that tells which wants are meant. -/
def Fp (gf : Nat) (p : Wn → Bool) (w : World) (e : Ending) (w' : World) : Prop := ∃ cb, e = .returned (.func (.func gf) #[] cb) ∧ Pd gf cb p w' ∧ But [] w w'
/-- Three numbers that are boxed one after another. -/
theorem three (w : World) (e k n : Int) : ∃ b wa, b = w.heap.size ∧ wa = ((w.alloc (.cells #[.int .i64 e] 3)).alloc (.cells #[.int .i64 k] 3)).alloc (.cells #[.int .i64 n] 3) ∧
    wa.cell? ⟨b, 0, none⟩ = some (.int .i64 e) ∧ wa.cell? ⟨b + 1, 0, none⟩ = some (.int .i64 k) ∧ wa.cell? ⟨b + 1 + 1, 0, none⟩ = some (.int .i64 n) ∧ But [] w wa := by
  have s1 : (w.alloc (.cells #[.int .i64 e] 3)).heap.size = w.heap.size + 1 := by simp
  have s2 : ((w.alloc (.cells #[.int .i64 e] 3)).alloc (.cells #[.int .i64 k] 3)).heap.size = w.heap.size + 1 + 1 := by simp
  have c1 := range_cells (new_range w [.int .i64 e] 3) 0 _ rfl
  have c2 := range_cells (new_range (w.alloc (.cells #[.int .i64 e] 3)) [.int .i64 k] 3) 0 _ rfl
  have c3 := range_cells (new_range ((w.alloc (.cells #[.int .i64 e] 3)).alloc (.cells #[.int .i64 k] 3)) [.int .i64 n] 3) 0 _ rfl
  rw [s1] at c2
  rw [s2] at c3
  exact ⟨_, _, rfl, rfl, cell_keep (cell_keep c1 ((But.refl [] _).alloc _) (by simp)) ((But.refl [] _).alloc _) (by simp), cell_keep c2 ((But.refl [] _).alloc _) (by simp), c3, (((But.refl [] w).alloc _).alloc _).alloc _⟩
theorem ofName_c (e k n : Int) (w : World) : Calls Try.prog 21 #[.int .i64 e, .int .i64 k, .int .i64 n] w (Fp 34 (key e k n) w) := by
  have hmf := Try.mf
  obtain ⟨b, wa, hb, hwa, c1, c2, c3, k1⟩ := three w e k n
  have C := hid (And.intro c1 (And.intro c2 (And.intro c3 k1)))
  clear c1 c2 c3 k1
  go_enter Try.func21, Try.ntmps21
  go_upto_region 1 with fail
  rw [← hwa, ← hb]
  clear hwa hb
  go_wp2
  go_ret
  exact ⟨_, rfl, ⟨enters_of Try.func34 (by kernel_rfl) rfl, fun W a kW => cName a e k n b (b + 1) (b + 1 + 1) W (cell_keep C.out.1 kW (by simp)) (cell_keep C.out.2.1 kW (by simp)) (cell_keep C.out.2.2.1 kW (by simp))⟩, C.out.2.2.2⟩
theorem ofEnv_c (e : Int) (w : World) : Calls Try.prog 26 #[.int .i64 e] w (Fp 35 (ofE e) w) := by
  have hmf := Try.mf
  obtain ⟨b, hb⟩ : ∃ b, b = w.heap.size := ⟨_, rfl⟩
  obtain ⟨wa, hwa⟩ : ∃ wa, wa = w.alloc (.cells #[.int .i64 e] 3) := ⟨_, rfl⟩
  have C : Hid (wa.cell? ⟨b, 0, none⟩ = some (.int .i64 e) ∧ But [] w wa) := by
    show _ ∧ _
    rw [hwa, hb]
    exact ⟨range_cells (new_range w [.int .i64 e] 3) 0 _ rfl, (But.refl [] w).alloc _⟩
  go_enter Try.func26, Try.ntmps26
  go_upto_region 1 with fail
  rw [← hwa, ← hb]
  clear hwa hb
  go_wp2
  go_ret
  exact ⟨_, rfl, ⟨enters_of Try.func35 (by kernel_rfl) rfl, fun W a kW => cEnv a e b W (cell_keep C.out.1 kW (by simp))⟩, C.out.2⟩
theorem ofKind_c (e k : Int) (w : World) : Calls Try.prog 29 #[.int .i64 e, .int .i64 k] w (Fp 36 (ofK e k) w) := by
  have hmf := Try.mf
  obtain ⟨b, hb⟩ : ∃ b, b = w.heap.size := ⟨_, rfl⟩
  obtain ⟨wa, hwa⟩ : ∃ wa, wa = (w.alloc (.cells #[.int .i64 e] 3)).alloc (.cells #[.int .i64 k] 3) := ⟨_, rfl⟩
  have C : Hid (wa.cell? ⟨b, 0, none⟩ = some (.int .i64 e) ∧ wa.cell? ⟨b + 1, 0, none⟩ = some (.int .i64 k) ∧ But [] w wa) := by
    show _ ∧ _
    rw [hwa, hb]
    have s1 : (w.alloc (.cells #[.int .i64 e] 3)).heap.size = w.heap.size + 1 := by simp
    have c2 := range_cells (new_range (w.alloc (.cells #[.int .i64 e] 3)) [.int .i64 k] 3) 0 _ rfl
    rw [s1] at c2
    exact ⟨cell_keep (range_cells (new_range w [.int .i64 e] 3) 0 _ rfl) ((But.refl [] _).alloc _) (by simp), c2, ((But.refl [] w).alloc _).alloc _⟩
  go_enter Try.func29, Try.ntmps29
  go_upto_region 1 with fail
  rw [← hwa, ← hb]
  clear hwa hb
  go_wp2
  go_ret
  exact ⟨_, rfl, ⟨enters_of Try.func36 (by kernel_rfl) rfl, fun W a kW => cKind a e k b (b + 1) W (cell_keep C.out.1 kW (by simp)) (cell_keep C.out.2.1 kW (by simp))⟩, C.out.2.2⟩
/-- The cells of a want that lies in a row. -/
theorem four {w : World} {g o : Nat} {x y z t : Int} (h : w.rangeAt g o (Wn.vs ⟨x, y, z, t⟩)) : w.cell? ⟨g, o, none⟩ = some (.int .i64 x) ∧ w.cell? ⟨g, o + 1, none⟩ = some (.int .i64 y) ∧ w.cell? ⟨g, o + 2, none⟩ = some (.int .i64 z) ∧ w.cell? ⟨g, o + 3, none⟩ = some (.int .i64 t) :=
  ⟨range_cells h 0 _ rfl, range_cells h 1 _ rfl, range_cells h 2 _ rfl, range_cells h 3 _ rfl⟩
set_option maxHeartbeats 1000000 in
theorem indexFunc_c (A : Option Addr) (n c gf : Nat) (cb : Array Value) (p : Wn → Bool) (l : List Wn) (w : World) (h : Li w A l) (hn : l.length = n) (hm : n ≤ 100000) (hp : Pd gf cb p w) :
    Calls Try.prog 33 #[.slice A n c, .func (.func gf) #[] cb] w fun r w' => ∃ i : Int, r = .returned (.int .i64 i) ∧ decide (0 ≤ i) = l.any p ∧ But [] w w' := by
  have HL := hid h
  have HN := hid hn
  have HP := hid hp
  have eg := hp.eg
  clear h hn hp
  go_enter Try.func33, Try.ntmps33
  go_wp2
  go_loopg [8] (n + 1) (fun g0 i wx => ∃ j : Nat, j + g0 = n + 1 ∧ j ≤ n ∧ i = .int .i64 j ∧ Hid (∀ q, q < j → p (l.getD q nw) = false) ∧ Hid (But [] w wx))
  case atStart => exact ⟨0, by omega, by omega, rfl, fun q hq => absurd hq (Nat.not_lt_zero _), But.refl _ _⟩
  case round =>
    obtain ⟨j, hjg, hj, rfl, HX, HB⟩ := hrel
    by_cases hlt : j < n
    · have hlx : j < l.length := by have := HN.out; omega
      obtain ⟨g, off, hA, hg, hrow⟩ := HL.out.at_ hlx
      have hr := range_keep (hrow j hlx) HB.out (by simp)
      have hc := HP.out.tell wr (l.getD j nw) HB.out
      have HHIT : Hid (p (l.getD j nw) = true → l.any p = true) := any_hit hlx
      have HX1 : Hid (p (l.getD j nw) = false → ∀ q, q < j + 1 → p (l.getD q nw) = false) := fun hv q hq => by
        rcases Nat.lt_or_ge q j with h | h
        · exact HX.out q h
        · obtain rfl : q = j := by omega
          exact hv
      generalize l.getD j nw = a at hr hc HHIT HX1
      obtain ⟨x, y, z, t⟩ := a
      subst hA
      obtain ⟨h1, h2, h3, h4⟩ := four hr
      have HC := hid hc
      clear hrow hlx HX hr hc hg
      go_wp2_with fail
      refine HC.out.mono ?_
      rintro r w2 ⟨rfl, k2⟩
      have HB2 := hid (HB.out.trans k2)
      clear k2 HC
      cases hv : p ⟨x, y, z, t⟩ with
      | true =>
        have HE := hid (HHIT.out hv)
        clear hv HHIT HX1
        go_wp2
        go_ret
        exact ⟨_, rfl, by rw [HE.out]; simp, HB2.out⟩
      | false =>
        have HX2 := hid (HX1.out hv)
        clear hv HHIT HX1
        go_wp2
        go_roundg (n + 1 - (j + 1))
        case measure => omega
        case rel => exact ⟨j + 1, by omega, by omega, by go_num, HX2.out, HB2.out⟩
    · obtain rfl : j = n := by omega
      have HE : Hid (l.any p = false) := any_no fun q hq => HX.out q (by have := HN.out; omega)
      go_wp2
      go_ret
      exact ⟨_, rfl, by rw [HE.out]; rfl, HB.out⟩
theorem contains_c (A : Option Addr) (n c gf : Nat) (cb : Array Value) (p : Wn → Bool) (l : List Wn) (w : World) (h : Li w A l) (hn : l.length = n) (hm : n ≤ 100000) (hp : Pd gf cb p w) :
    Calls Try.prog 20 #[.slice A n c, .func (.func gf) #[] cb] w fun r w' => r = .returned (.bool (l.any p)) ∧ But [] w w' := by
  have HI := hid (indexFunc_c A n c gf cb p l w h hn hm hp)
  clear h hn hp
  go_enter Try.func20, Try.ntmps20
  go_wp2_with fail
  refine HI.out.mono ?_
  rintro r w1 ⟨i, rfl, hi, k1⟩
  have HE := hid hi
  have K1 := hid k1
  clear hi k1 HI
  go_wp2
  go_ret
  exact ⟨by rw [← HE.out]; rfl, K1.out⟩
end Go.Proofs.Ytfopmdiepaonnaa.Ao
