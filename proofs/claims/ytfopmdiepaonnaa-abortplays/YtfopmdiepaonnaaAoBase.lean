/-
  Layer 17 (abort): a list in memory; contracts of from, may, slices.Clone, All, listOf, over the translated program.
-/
import Derived.Test.YtfopmdiepaonnaaAoMath
import Derived.Test.YtfopmdiepaonnaaChecked
import Derived.Deep.LoopGhost
import Derived.Deep.QuietTactic
import Derived.BigQuiet
import Derived.Lib.SliceRun
import Derived.Lib.SmallJoins
import Derived.Deep.CutBlock
import Derived.Deep.CutRange
import Derived.Deep.RegionHeld3
namespace Go.Proofs.Ytfopmdiepaonnaa.Ao
open Go.ChangeShapes Go.WideShapes Go.ChangeAt Go.RowKit
open Wh
set_option linter.unusedVariables false
set_option maxRecDepth 20000

abbrev lT : TypeId := 27
abbrev wT : TypeId := 24
/-- The cells of a list: 64 wants, behind those that there are zero ones, and how many there are. -/
def lf (l : List Wn) (j : Nat) : Int := if j < 256 then (l.getD (j / 4) nw).at_ (j % 4) else l.length
def lc (l : List Wn) : List Value := (tab 257 (lf l)).map (Value.int .i64)
def vv (l : List Wn) : Value := .agg (lc l).toArray
theorem lc_len (l : List Wn) : (lc l).length = 257 := by simp [lc, tab_len]
theorem lc_size (l : List Wn) : (lc l).toArray.size = 257 := by simp [lc_len]
theorem lc_get (l : List Wn) (j : Nat) (h : j < 257) : (lc l)[j]? = some (.int .i64 (lf l j)) := by
  have := tab_get 257 (lf l) j h
  have hl := tab_len 257 (lf l)
  unfold lc
  rw [List.getElem?_map, List.getElem?_eq_getElem (by omega)]
  rw [List.getD_eq_getElem?_getD, List.getElem?_eq_getElem (by omega)] at this
  rw [← this]; rfl
theorem lc_one (l : List Wn) : ∀ u ∈ lc l, u.oneCell' = true := by
  intro u hu
  simp only [lc, List.mem_map] at hu
  obtain ⟨n, _, rfl⟩ := hu
  rfl
theorem lc_all (l : List Wn) : (lc l).toArray.all (·.oneCell') = true := all_oneCell_toArray (lc_one l)
theorem lf_n (l : List Wn) : lf l 256 = l.length := if_neg (by omega)
theorem lf_at (l : List Wn) {j r : Nat} (h : j < 64) (hr : r < 4) : lf l (j * 4 + r) = (l.getD j nw).at_ r := by
  unfold lf
  rw [if_pos (by omega), show (j * 4 + r) / 4 = j by omega, show (j * 4 + r) % 4 = r by omega]
theorem zList (w : World) : Sem.run Try.prog (zeroValue lT) w = .ok (.agg (lc []).toArray) w := by kernel_rfl
theorem szList : (Try.prog.info? lT).map (·.size) = some 257 := by kernel_rfl
attribute [irreducible] lc
theorem iList (l : List Wn) : (Try.prog.info? lT).map (·.size) = some (lc l).length := by rw [lc_len]; exact szList
theorem iList' (l : List Wn) : (Try.prog.info? lT).map (·.size) = some (lc l).toArray.size := by rw [lc_size]; exact szList
theorem infoWant : (Try.prog.info? wT).map (fun i => (i.zero, i.size, i.bytes)) = some (some (.agg #[.int .i64 0, .int .i64 0, .int .i64 0, .int .i64 0]), 4, 32) := by kernel_rfl
theorem szWant : (Try.prog.info? wT).map (·.size) = some 4 := by kernel_rfl
/-- Block b is a list. -/
def LtAt (w : World) (b : Nat) (l : List Wn) : Prop := VB w b 257 fun j => .int .i64 (lf l j)
section
variable {w : World} {b : Nat} {l : List Wn}
theorem LtAt.lt (h : LtAt w b l) : b < w.heap.size := VB.lt h (by omega)
theorem LtAt.keep {k : List Nat} {w' : World} (h : LtAt w b l) (hk : But k w w') (hn : b ∉ k) : LtAt w' b l := VB.keep h hk hn
theorem LtAt.keep0 {w' : World} (h : LtAt w b l) (hk : But [] w w') : LtAt w' b l := VB.keep h hk (by simp)
theorem LtAt.all (h : LtAt w b l) : w.rangeAt b 0 (lc l) := VB.range h _ (by rw [lc_len]; omega) fun i hi => by
  rw [lc_len] at hi
  rw [lc_get l i hi, Nat.zero_add]
theorem LtAt.n (h : LtAt w b l) : w.cell? ⟨b, 256, none⟩ = some (.int .i64 (l.length : Nat)) := by
  have := (h 256 (by omega)).1
  rwa [show (fun j => Value.int .i64 (lf l j)) 256 = .int .i64 (l.length : Nat) from congrArg (Value.int .i64) (lf_n l)] at this
theorem LtAt.row (h : LtAt w b l) (hl : l.length ≤ 64) : w.rangeAt b 0 (wl l) := VB.range h _ (by rw [wl_len]; omega) fun i hi => by
  rw [wl_len] at hi
  have := wl_get l (i / 4) (i % 4) (by omega) (by omega)
  rw [show i / 4 * 4 + i % 4 = i by omega] at this
  rw [this, Nat.zero_add, ← lf_at l (by omega) (by omega), show i / 4 * 4 + i % 4 = i by omega]
theorem LtAt.there (h : LtAt w b l) : w.there b 0 257 := VB.there h (by omega)
end
theorem lt_new (w : World) (l : List Wn) : LtAt (w.alloc (.cells (lc l).toArray lT)) w.heap.size l :=
  VB.new w _ lT 257 (lc_size l) _ fun j hj => by rw [List.getElem?_toArray]; exact lc_get l j hj
theorem lt_sets {w : World} {b : Nat} (h : w.there b 0 257) (l : List Wn) : LtAt (w.setCells b 0 (lc l)) b l := fun j hj => by
  have hR := World.rangeAt_setCells_same w b 0 (lc l) (by rw [lc_len]; exact h)
  have hT := World.there_setCells h b 0 (lc l)
  refine ⟨?_, ?_⟩
  · have := hR j _ (lc_get l j hj); rwa [Nat.zero_add] at this
  · have := (hT j hj).2; rwa [Nat.zero_add] at this
theorem made_lt (w : World) (l : List Wn) : ∃ b w', b = w.heap.size ∧ w' = w.alloc (.cells (lc l).toArray lT) ∧ LtAt w' b l ∧ But [] w w' :=
  ⟨_, _, rfl, rfl, lt_new w l, (But.refl [] w).alloc _⟩

def fr (x y n : Int) : Bool := decide (x ≤ n) && decide (n ≤ y)
theorem from_c (x y n : Int) (w : World) : Calls Try.prog 32 #[.int .i64 x, .int .i64 y, .int .i64 n] w fun e w' => e = .returned (.bool (fr x y n)) ∧ w = w' := by
  by_cases h0 : x ≤ n
  · by_cases h1 : n ≤ y
    · have e : fr x y n = true := by unfold fr; rw [decide_eq_true h0, decide_eq_true h1]; rfl
      rw [e]
      clear e
      go_enter Try.func32, Try.ntmps32
      go_wp2
      go_ret
      exact ⟨rfl, rfl⟩
    · have e : fr x y n = false := by unfold fr; rw [decide_eq_true h0, decide_eq_false h1]; rfl
      rw [e]
      clear e
      go_enter Try.func32, Try.ntmps32
      go_wp2
      go_ret
      exact ⟨rfl, rfl⟩
  · have e : fr x y n = false := by unfold fr; rw [decide_eq_false h0]; rfl
    rw [e]
    clear e
    go_enter Try.func32, Try.ntmps32
    go_wp2
    go_ret
    exact ⟨rfl, rfl⟩
theorem mb_fr (a : Wn) : mb a = (fr 0 15 a.e && fr 0 3 a.k && fr 0 511 a.n && fr 1 100 a.t) := by
  unfold mb fr
  simp [Bool.and_assoc]
/-- A want by value. -/
theorem may_c (a : Wn) (w : World) : Calls Try.prog 19 #[.agg a.vs.toArray] w fun e w' => e = .returned (.bool (mb a)) ∧ But [] w w' := by
  have HM := hid (mb_fr a)
  obtain ⟨e, k, n, t⟩ := a
  show Calls _ _ #[.agg #[.int .i64 e, .int .i64 k, .int .i64 n, .int .i64 t]] w _
  have HB := hid ((But.refl [] w).alloc (.cells #[.int .i64 e, .int .i64 k, .int .i64 n, .int .i64 t] wT))
  go_enter Try.func19, Try.ntmps19
  go_wp2_with fail
  refine (from_c 0 15 e _).mono ?_
  rintro r w2 ⟨rfl, rfl⟩
  cases h1 : fr 0 15 e with
  | false =>
    have H1 := hid h1
    clear h1
    go_wp2
    go_ret
    exact ⟨by rw [HM.out, H1.out]; rfl, HB.out⟩
  | true =>
    have H1 := hid h1
    clear h1
    go_wp2_with fail
    refine (from_c 0 3 k _).mono ?_
    rintro r w3 ⟨rfl, rfl⟩
    cases h2 : fr 0 3 k with
    | false =>
      have H2 := hid h2
      clear h2
      go_wp2
      go_ret
      exact ⟨by rw [HM.out, H1.out, H2.out]; rfl, HB.out⟩
    | true =>
      have H2 := hid h2
      clear h2
      go_wp2_with fail
      refine (from_c 0 511 n _).mono ?_
      rintro r w4 ⟨rfl, rfl⟩
      cases h3 : fr 0 511 n with
      | false =>
        have H3 := hid h3
        clear h3
        go_wp2
        go_ret
        exact ⟨by rw [HM.out, H1.out, H2.out, H3.out]; rfl, HB.out⟩
      | true =>
        have H3 := hid h3
        clear h3
        go_wp2_with fail
        refine (from_c 1 100 t _).mono ?_
        rintro r w5 ⟨rfl, rfl⟩
        have H4 : Hid (mb ⟨e, k, n, t⟩ = fr 1 100 t) := by show _ = _; rw [HM.out, H1.out, H2.out, H3.out]; rfl
        generalize fr 1 100 t = z at H4
        go_wp2
        go_ret
        exact ⟨by rw [H4.out]; rfl, HB.out⟩
/-- What lies in a row of the call's own, behind whatever append has made of it: all of a list's wants. -/
theorem que_all {w : World} {b n : Nat} {l : List Wn} (h : LtAt w b l) (hn : l.length = n) (hm : n ≤ 64) :
    ∃ v' w', (Builtin.append_ #[42, 42] 42 #[.slice (some ⟨w.heap.size, 0, none⟩) 0 0, .slice (some ⟨b, 0, none⟩) n 64]).run Try.prog (w.alloc (.cells #[] wT)) = .ok v' w' ∧ Que w' w.heap.size 4 v' n (wl l) ∧ But [] w w' := by
  obtain ⟨i0, hi, hz0, hz1, hz2⟩ := info_parts infoWant
  have hq : Que (w.alloc (.cells #[] wT)) w.heap.size 4 (.slice (some ⟨w.heap.size, 0, none⟩) 0 0) 0 [] :=
    ⟨rfl, .inr ⟨w.heap.size, 0, 0, rfl, Nat.le_refl _, by simp, Nat.le_refl _, Nat.zero_le _, fun j hj => absurd hj (by omega), fun j u hu => by simp at hu⟩⟩
  have hs : Src Try.prog 4 42 (.slice (some ⟨b, 0, none⟩) n 64) n (wl l) (w.alloc (.cells #[] wT)) :=
    Src.ofSlice _ Try.underlying42 ⟨b, 0, none⟩ n 64 (wl l) (by rw [wl_len, hn]) (fun j u hu => by
      rw [Addr.add_mid]
      exact (h.keep0 ((But.refl [] w).alloc _)).row (by omega) j u hu) (wl_one l)
  obtain ⟨v', w', hr, hq2, hk, ho⟩ := run_append_que (P := Try.prog) _ w.heap.size 42 42 wT i0 _ 4 32 Try.underlying42 hi hz0 hz1 hz2 rfl (by decide) _ 0 [] hq (.slice (some ⟨b, 0, none⟩) n 64) n (wl l) hs (by unfold maxLen; omega) (by omega) (by simp)
  refine ⟨v', w', hr, by simpa using hq2, but_own ((But.refl [] w).alloc _) hk (fun i hi => ?_)⟩
  simp [Value.ownBlock] at hi
  omega
theorem clone_c (b n : Nat) (l : List Wn) (w : World) (h : LtAt w b l) (hn : l.length = n) (hm : n ≤ 64) :
    Calls Try.prog 28 #[.slice (some ⟨b, 0, none⟩) n 64] w fun e w' => ∃ v, e = .returned v ∧ Que w' w.heap.size 4 v n (wl l) ∧ But [] w w' := by
  have HQ := hid (que_all h hn hm)
  clear h hn
  have hsn := fun (a : Option Addr) (l c : Nat) (w : World) => Lib.run_eql_slice_nil (P := Try.prog) w 42 wT a l c 0 0 Try.underlying42
  obtain ⟨v', w', hr, hq, hk⟩ := HQ.out
  have HR := hid hr
  have HQ2 := hid hq
  have HK := hid hk
  clear HQ hr hq hk
  go_enter Try.func28, Try.ntmps28
  go_wp2_with (first
    | (refine wpList_append_known _ rfl _ _ 42 rfl _ _ rfl rfl HR.out ?_))
  go_wp2
  go_ret
  exact ⟨_, rfl, HQ2.out, HK.out⟩
theorem run_cut (w : World) (b n : Nat) (hn : n ≤ 64) : (Instr.sliceAt 25 (.pointer (some ⟨b, 0, none⟩)) none (some (.int .i64 (n : Nat))) none).run Try.prog w = .ok (.slice (some ⟨b, 0, none⟩) n 64) w := by
  have ha : Try.prog.arrayLen 25 = 64 := by kernel_rfl
  have he : Try.prog.elem 25 = wT := by kernel_rfl
  obtain ⟨i0, hi, hz0, hz1, hz2⟩ := info_parts infoWant
  rw [run_sliceAt_array_h w _ _ (by rw [ha, he]; exact Try.underlying25) .i64 n (by omega) (by rw [ha]; omega), ha, he]
  simp [sizeOf, typeInfo, hi, slicedAt, Addr.add_lit]
theorem all_c (l : List Wn) (hl : l.length ≤ 64) (w : World) : Calls Try.prog 15 #[vv l] w fun e w' => ∃ v, e = .returned v ∧ Que w' w.heap.size 4 v l.length (wl l) ∧ But [] w w' := by
  obtain ⟨b, hb⟩ : ∃ b, b = w.heap.size := ⟨_, rfl⟩
  obtain ⟨wa, hwa⟩ : ∃ wa, wa = w.alloc (.cells (lc l).toArray lT) := ⟨_, rfl⟩
  have HB0 : Hid (But [] w wa) := by show But _ _ _; rw [hwa]; exact (But.refl [] w).alloc _
  have hv := lt_new w l
  rw [← hwa, ← hb] at hv
  have hc := hv.n
  obtain ⟨n, hn⟩ : ∃ n, l.length = n := ⟨_, rfl⟩
  have HC := hid (clone_c b n l wa hv hn (by omega))
  clear hv
  rw [hn] at hl hc ⊢
  clear hn
  unfold vv
  go_enter Try.func15, Try.ntmps15
  go_upto_region 1 with fail
  rw [← hwa, ← hb]
  clear hwa hb
  have hcut := fun w => run_cut w b n hl
  go_wp2_with fail
  refine HC.out.mono ?_
  rintro e w1 ⟨v, rfl, hq, k1⟩
  have HQ := hid hq
  have K1 := hid k1
  clear HC hq k1
  go_wp2
  go_ret
  exact ⟨_, rfl, que_lower HQ.out HB0.out.size, HB0.out.trans K1.out⟩
/-- The cells of a list that is being made: how many there are. -/
def nc (n : Int) : List Value := (tab 257 fun j => if j < 256 then 0 else n).map (Value.int .i64)
theorem nc_len (n : Int) : (nc n).length = 257 := by simp [nc, tab_len]
theorem nc_one (n : Int) : ∀ u ∈ nc n, u.oneCell' = true := by
  intro u hu
  simp only [nc, List.mem_map] at hu
  obtain ⟨n, _, rfl⟩ := hu
  rfl
theorem nc_all (n : Int) : (nc n).toArray.all (·.oneCell') = true := all_oneCell_toArray (nc_one n)
theorem nc_get (n : Int) (j : Nat) (h : j < 257) : (nc n)[j]? = some (.int .i64 (if j < 256 then 0 else n)) := by
  have := tab_get 257 (fun j => if j < 256 then 0 else n) j h
  have hl := tab_len 257 (fun j => if j < 256 then 0 else n)
  unfold nc
  rw [List.getElem?_map, List.getElem?_eq_getElem (by omega)]
  rw [List.getD_eq_getElem?_getD, List.getElem?_eq_getElem (by omega)] at this
  rw [← this]; rfl
theorem iNc (n : Int) : (Try.prog.info? lT).map (·.size) = some (nc n).toArray.size := by rw [List.size_toArray, nc_len]; exact szList
theorem bNc (n : Int) : Try.prog.built lT [(1, .int .i64 n)] = some (nc n).toArray := by kernel_rfl
attribute [irreducible] nc
end Go.Proofs.Ytfopmdiepaonnaa.Ao
