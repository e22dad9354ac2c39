/-
  Contracts of layer 2's table (isa.Table), its rows laid: lay and fill.
-/
import Derived.Test.YtjlcncdhlcpklaaRows
import Derived.Test.YtjlcncdhlcpklaaIsaMath
import Derived.Test.YtjlcncdhlcpklaaKeep
import Derived.Test.YtjlcncdhlcpklaaMem
import Derived.WalkKit
import Derived.ProofKit
import Derived.OpenShut
import Derived.Below
import Derived.RegionTactic
namespace Go.Proofs.Ytjlcncdhlcpklaa
open Go.ChangeShapes Go.WideShapes Go.ChangeAt Go.RowKit
set_option linter.unusedVariables false
set_option maxRecDepth 20000

/-- The hundred cells of a table's rows, from offset o on. -/
def RowsAt (w : World) (b o : Nat) (f : Nat → Bool) : Prop := ∀ k, k < 100 → w.cell? ⟨b, o + k, none⟩ = some (.bool (f k)) ∧ w.frozen? ⟨b, o + k, none⟩ = false
theorem RowsAt.keep {w w' : World} {b o : Nat} {f : Nat → Bool} {lo hi : Nat} (h : RowsAt w b o f) (hk : Keep b lo hi w w') (hd : o + 100 ≤ lo ∨ hi ≤ o) : RowsAt w' b o f := fun k hk' =>
  ⟨(hk.cell (o + k) (by omega)).trans (h k hk').1, (hk.frozen (o + k)).trans (h k hk').2⟩

/-- One row is laid: four cells. -/
theorem rowsAt_set4 {w : World} {b o : Nat} {F : Nat → Bool} (h : RowsAt w b o F) (q : Nat) (hq : q ≤ 24) (x y z : Bool) (l : List Int) (f : Nat → Bool) (hF : F = updB f l (rowOf x y z)) :
    RowsAt ((((w.setCell ⟨b, o + q * 4, none⟩ (.bool true)).setCell ⟨b, o + q * 4 + 1, none⟩ (.bool x)).setCell ⟨b, o + q * 4 + 2, none⟩ (.bool y)).setCell ⟨b, o + q * 4 + 3, none⟩ (.bool z)).drew b o (updB f (l ++ [(q : Int)]) (rowOf x y z)) := by
  intro k hk
  rw [upd_snoc, ← hF]
  refine ⟨?_, by simp [(h k hk).2]⟩
  rw [World.cell?_drew]
  have hc := (h k hk).1
  have ne : ∀ {i m : Nat}, i ≠ m → (⟨b, i, none⟩ : Addr) ≠ ⟨b, m, none⟩ := fun hn e => hn (by injection e)
  by_cases e0 : k = q * 4
  · subst e0
    rw [if_pos (by omega), show q * 4 % 4 = 0 by omega, World.cell?_setCell_other _ _ _ _ (ne (by omega)), World.cell?_setCell_other _ _ _ _ (ne (by omega)), World.cell?_setCell_other _ _ _ _ (ne (by omega))]
    exact World.cell?_setCell_same _ _ _ hc
  by_cases e1 : k = q * 4 + 1
  · subst e1
    rw [show o + (q * 4 + 1) = o + q * 4 + 1 by omega] at hc ⊢
    rw [if_pos (by omega), show (q * 4 + 1) % 4 = 1 by omega, World.cell?_setCell_other _ _ _ _ (ne (by omega)), World.cell?_setCell_other _ _ _ _ (ne (by omega))]
    exact World.cell?_setCell_same _ _ _ ((World.cell?_setCell_other _ _ _ _ (ne (by omega))).trans hc)
  by_cases e2 : k = q * 4 + 2
  · subst e2
    rw [show o + (q * 4 + 2) = o + q * 4 + 2 by omega] at hc ⊢
    rw [if_pos (by omega), show (q * 4 + 2) % 4 = 2 by omega, World.cell?_setCell_other _ _ _ _ (ne (by omega))]
    exact World.cell?_setCell_same _ _ _ ((World.cell?_setCell_other _ _ _ _ (ne (by omega))).trans ((World.cell?_setCell_other _ _ _ _ (ne (by omega))).trans hc))
  by_cases e3 : k = q * 4 + 3
  · subst e3
    rw [show o + (q * 4 + 3) = o + q * 4 + 3 by omega] at hc ⊢
    rw [if_pos (by omega), show (q * 4 + 3) % 4 = 3 by omega]
    exact World.cell?_setCell_same _ _ _ ((World.cell?_setCell_other _ _ _ _ (ne (by omega))).trans ((World.cell?_setCell_other _ _ _ _ (ne (by omega))).trans ((World.cell?_setCell_other _ _ _ _ (ne (by omega))).trans hc)))
  · rw [if_neg (by omega), World.cell?_setCell_other _ _ _ _ (ne (by omega)), World.cell?_setCell_other _ _ _ _ (ne (by omega)), World.cell?_setCell_other _ _ _ _ (ne (by omega)), World.cell?_setCell_other _ _ _ _ (ne (by omega))]
    exact hc

set_option maxHeartbeats 1000000 in
set_option maxRecDepth 100000 in
theorem lay_c (b off : Nat) (f : Nat → Bool) (x y z : Bool) (A : Option Addr) (n cap : Nat) (xs : List Int) (w : World) (hn : n = xs.length) (hn63 : n ≤ 100) (hr : Rd .i64 w 0 w.heap.size A xs)
    (hx : ∀ j, j < n → 0 ≤ xs.getD j 0 ∧ xs.getD j 0 ≤ 24) (hb : b < w.heap.size) (hA : ∀ g o, A = some ⟨g, o, none⟩ → g ≠ b) (ht : RowsAt w b (off + 3) f) :
    Calls Try.prog 80 #[.pointer (some ⟨b, off, none⟩), .agg #[.bool false, .bool x, .bool y, .bool z], .slice A n cap] w fun e w' =>
      e = .returned (.tuple #[]) ∧ RowsAt w' b (off + 3) (updB f xs (rowOf x y z)) ∧ Keep b (off + 3) (off + 103) w w' := by
  have HN : Hid (n = xs.length) := hn
  have HR : Hid (Rd .i64 w 0 w.heap.size A xs) := hr
  have HX : Hid (∀ j, j < n → 0 ≤ xs.getD j 0 ∧ xs.getD j 0 ≤ 24) := hx
  have HA : Hid (∀ g o, A = some ⟨g, o, none⟩ → g ≠ b) := hA
  have HT : Hid (RowsAt w b (off + 3) f) := ht
  clear hn hr hx hA ht
  go_enter Try.func80, Try.ntmps80
  go_wp2_with fail
  go_loopw [11] (fun i wr => ∃ j : Nat, j ≤ n ∧ i = .int .i64 j ∧ RowsAt wr b (off + 3) (updB f (xs.take j) (rowOf x y z)) ∧ Keep b (off + 3) (off + 103) w wr ∧ w.heap.size < wr.heap.size ∧ wr.heap[w.heap.size]? = some (.cells #[.bool true, .bool x, .bool y, .bool z] 107)) (fun i _ => n - (intOf i).toNat)
  case atStart =>
    refine ⟨0, Nat.zero_le _, rfl, ?_, (Keep.refl _ _ hb).alloc _, by simp, heap_alloc_new w _⟩
    rw [List.take_zero, upd_nil]
    exact HT.out.keep ((Keep.refl 0 0 hb).alloc _) (.inr (Nat.zero_le _))
  case round =>
    obtain ⟨j, hj, rfl, hrt, hrk, hrs, hrh⟩ := hrel
    by_cases hlt : j < n
    · obtain ⟨g, o, rfl, _, hg, hc⟩ := HR.out.at_ (j := j) (by rw [← HN.out]; exact hlt)
      have hgb := HA.out g o rfl
      have hcj : wr.cell? ⟨g, o + j, none⟩ = some (.int .i64 (xs.getD j 0)) := (hrk.far (p := ⟨g, o + j, none⟩) hg hgb).trans (hc j (by rw [← HN.out]; exact hlt))
      have hxj := HX.out j hlt
      have HT2 : Hid (xs.take (j + 1) = xs.take j ++ [xs.getD j 0]) := by
        show _ = _
        rw [List.take_succ_eq_append_getElem (by rw [← HN.out]; exact hlt)]
        congr 2
        simp [List.getD, show j < xs.length from by rw [← HN.out]; exact hlt]
      obtain ⟨q, hq⟩ := Int.eq_ofNat_of_zero_le hxj.1
      rw [hq] at hxj hcj
      have HQ : Hid (xs.getD j 0 = (q : Int)) := hq
      clear hc hq
      have hq24 : q ≤ 24 := by omega
      clear hxj
      have k0 : wr.cell? ⟨w.heap.size, 0, none⟩ = some (.bool true) := by simp [World.cell?, hrh]
      have k1 : wr.cell? ⟨w.heap.size, 1, none⟩ = some (.bool x) := by simp [World.cell?, hrh]
      have k2 : wr.cell? ⟨w.heap.size, 2, none⟩ = some (.bool y) := by simp [World.cell?, hrh]
      have k3 : wr.cell? ⟨w.heap.size, 3, none⟩ = some (.bool z) := by simp [World.cell?, hrh]
      have r0 := hrt (q * 4) (by omega)
      have r1 := hrt (q * 4 + 1) (by omega)
      have r2 := hrt (q * 4 + 2) (by omega)
      have r3 := hrt (q * 4 + 3) (by omega)
      rw [show off + 3 + (q * 4 + 1) = off + 3 + q * 4 + 1 by omega] at r1
      rw [show off + 3 + (q * 4 + 2) = off + 3 + q * 4 + 2 by omega] at r2
      rw [show off + 3 + (q * 4 + 3) = off + 3 + q * 4 + 3 by omega] at r3
      obtain ⟨r0, f0⟩ := r0
      obtain ⟨r1, f1⟩ := r1
      obtain ⟨r2, f2⟩ := r2
      obtain ⟨r3, f3⟩ := r3
      have q0 : (0 : Int) ≤ (q : Int) := by omega
      have q1 : (q : Int) < 25 := by omega
      have HH : Hid (wr.heap[w.heap.size]? = some (Obj.cells #[Value.bool true, Value.bool x, Value.bool y, Value.bool z] 107)) := hrh
      have HRT : Hid (RowsAt wr b (off + 3) (updB f (List.take j xs) (rowOf x y z))) := hrt
      clear hrh hrt
      go_wp2
      go_region
      go_wp2
      go_roundw
      case rel =>
        refine ⟨j + 1, by omega, by go_num, ?_, ?_, ?_, ?_⟩
        · rw [HT2.out, HQ.out]
          exact rowsAt_set4 HRT.out q hq24 x y z _ f rfl
        · exact ((((hrk.setCell (by omega) (by omega) _).setCell (by omega) (by omega) _).setCell (by omega) (by omega) _).setCell (by omega) (by omega) _).drew
        · simpa [World.setCell] using hrs
        · refine Eq.trans ?_ HH.out
          have hne : w.heap.size ≠ b := by omega
          exact (Below.heap_setCell _ _ _ _ hne).trans ((Below.heap_setCell _ _ _ _ hne).trans ((Below.heap_setCell _ _ _ _ hne).trans (Below.heap_setCell _ _ _ _ hne)))
      case measure => simp [intOf] <;> omega
    · obtain rfl : j = n := by omega
      have HRT : Hid (RowsAt wr b (off + 3) (updB f (List.take j xs) (rowOf x y z))) := hrt
      clear hrt hrh
      go_wp2
      go_end0
      refine ⟨rfl, ?_, hrk⟩
      have := HRT.out
      rwa [List.take_of_length_le (by rw [← HN.out]; exact Nat.le_refl _)] at this
/-- A list of numbers that was just made. -/
theorem rd_new (w : World) (xs : List Int) (t : TypeId) : Rd .i64 (w.alloc (.cells (xs.map (Value.int .i64)).toArray t)) 0 (w.alloc (.cells (xs.map (Value.int .i64)).toArray t)).heap.size (some ⟨w.heap.size, 0, none⟩) xs := by
  refine .inr ⟨w.heap.size, 0, rfl, Nat.zero_le _, by simp, fun j hj => ?_⟩
  have h : (w.alloc (.cells (xs.map (Value.int .i64)).toArray t)).heap[w.heap.size]? = some (.cells (xs.map (Value.int .i64)).toArray t) := heap_alloc_new w _
  unfold World.cell?
  rw [h]
  simp [List.getD, hj]

set_option maxHeartbeats 1000000 in
set_option maxRecDepth 100000 in
theorem fill_c (b off : Nat) (w : World) (hb : b < w.heap.size) (ht : RowsAt w b (off + 3) (fun _ => false)) :
    Calls Try.prog 77 #[.pointer (some ⟨b, off, none⟩)] w fun e w' => e = .returned (.tuple #[]) ∧ RowsAt w' b (off + 3) flB ∧ Keep b (off + 3) (off + 103) w w' := by
  have h0 := ht
  have k0 : Keep b (off + 3) (off + 103) w w := Keep.refl _ _ hb
  clear ht
  go_enter Try.func77, Try.ntmps77
  go_wp2_with fail
  refine (lay_c b off _ true false true _ 5 5 [1, 2, 13, 19, 20] _ rfl (by omega) (rd_new _ [1, 2, 13, 19, 20] _) (by decide) (by have := k0.size; simp; omega) (fun g o e => by injection e with e; injection e with e; have := k0.size; omega) (h0.keep ((Keep.refl 0 0 (Nat.lt_of_lt_of_le hb k0.size)).alloc _) (.inr (Nat.zero_le _)))).mono ?_
  rintro e w1 ⟨rfl, h1, q1⟩
  have k1 : Keep b (off + 3) (off + 103) w w1 := (k0.alloc _).trans q1
  clear q1
  go_wp2_with fail
  refine (lay_c b off _ true true false _ 10 10 [3, 4, 5, 6, 7, 8, 9, 10, 11, 12] _ rfl (by omega) (rd_new _ [3, 4, 5, 6, 7, 8, 9, 10, 11, 12] _) (by decide) (by have := k1.size; simp; omega) (fun g o e => by injection e with e; injection e with e; have := k1.size; omega) (h1.keep ((Keep.refl 0 0 (Nat.lt_of_lt_of_le hb k1.size)).alloc _) (.inr (Nat.zero_le _)))).mono ?_
  rintro e w2 ⟨rfl, h2, q2⟩
  have k2 : Keep b (off + 3) (off + 103) w w2 := (k1.alloc _).trans q2
  clear q2
  go_wp2_with fail
  refine (lay_c b off _ true true true _ 5 5 [14, 15, 16, 17, 21] _ rfl (by omega) (rd_new _ [14, 15, 16, 17, 21] _) (by decide) (by have := k2.size; simp; omega) (fun g o e => by injection e with e; injection e with e; have := k2.size; omega) (h2.keep ((Keep.refl 0 0 (Nat.lt_of_lt_of_le hb k2.size)).alloc _) (.inr (Nat.zero_le _)))).mono ?_
  rintro e w3 ⟨rfl, h3, q3⟩
  have k3 : Keep b (off + 3) (off + 103) w w3 := (k2.alloc _).trans q3
  clear q3
  go_wp2_with fail
  refine (lay_c b off _ false false true _ 3 3 [18, 22, 24] _ rfl (by omega) (rd_new _ [18, 22, 24] _) (by decide) (by have := k3.size; simp; omega) (fun g o e => by injection e with e; injection e with e; have := k3.size; omega) (h3.keep ((Keep.refl 0 0 (Nat.lt_of_lt_of_le hb k3.size)).alloc _) (.inr (Nat.zero_le _)))).mono ?_
  rintro e w4 ⟨rfl, h4, q4⟩
  have k4 : Keep b (off + 3) (off + 103) w w4 := (k3.alloc _).trans q4
  clear q4
  go_wp2_with fail
  refine (lay_c b off _ true false false _ 1 1 [23] _ rfl (by omega) (rd_new _ [23] _) (by decide) (by have := k4.size; simp; omega) (fun g o e => by injection e with e; injection e with e; have := k4.size; omega) (h4.keep ((Keep.refl 0 0 (Nat.lt_of_lt_of_le hb k4.size)).alloc _) (.inr (Nat.zero_le _)))).mono ?_
  rintro e w5 ⟨rfl, h5, q5⟩
  have k5 : Keep b (off + 3) (off + 103) w w5 := (k4.alloc _).trans q5
  clear q5
  go_wp2
  go_end0
  refine ⟨rfl, fun k hk => ?_, k5⟩
  rw [← fillB_eq k hk]
  exact h5 k hk
end Go.Proofs.Ytjlcncdhlcpklaa
