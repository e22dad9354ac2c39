/-
  Layer 11 (names): the contract of the statements' awake, over the translated program.
-/
import Derived.Test.YtfjkbfcfceckgaaNmRef2
namespace Go.Proofs.Ytfjkbfcfceckgaa.Nm
open Go.ChangeShapes Go.WideShapes Go.ChangeAt Go.RowKit
open Wh Sn
set_option linter.unusedVariables false
set_option maxRecDepth 20000

theorem ad_of {T : Tf} {v : Int} (k : Nat) (h0 : 0 ≤ v) (h5 : v ≤ 1023) (hno : ∀ j, T j ≠ v) (hk : k < 512) (h1 : ∀ q, q < k → T q ≠ -1) (h2 : T k = -1) : adk T v = k ∧ adT T v = upd T k v := by
  have e1 : fnT T v < 0 := by
    unfold fnT
    rw [if_pos ⟨h0, h5⟩]
    unfold ix
    rw [lst_eq (Nat.le_refl _) (fun q _ => hno q) (fun h => absurd h (Nat.lt_irrefl _)), if_neg (Nat.lt_irrefl _)]
    decide
  have e2 : adk T v = k := by
    unfold adk
    rw [if_pos ⟨h0, h5, e1⟩]
    unfold ix
    rw [lst_eq (Nat.le_of_lt hk) h1 (fun _ => h2), if_pos hk]
  exact ⟨e2, adT_yes e2⟩
def a1 : Tf := upd t0 0 7
def a2 : Tf := upd a1 1 9
def a3 : Tf := upd a2 0 (-1)
def a4 : Tf := upd a3 0 5
theorem z0 (j : Nat) : t0 j = -1 := rfl
theorem z1 (j : Nat) : a1 j = if j = 0 then 7 else -1 := rfl
theorem z2 (j : Nat) : a2 j = if j = 1 then 9 else if j = 0 then 7 else -1 := rfl
theorem z3 (j : Nat) : a3 j = if j = 0 then -1 else if j = 1 then 9 else if j = 0 then 7 else -1 := rfl
theorem e1 : adT t0 7 = a1 := (ad_of (T := t0) (v := 7) 0 (by decide) (by decide) (fun j => by rw [z0]; decide) (by decide) (fun q h => absurd h (Nat.not_lt_zero _)) rfl).2
theorem e2 : adT a1 9 = a2 := (ad_of (T := a1) (v := 9) 1 (by decide) (by decide) (fun j => by rw [z1]; split <;> decide) (by decide) (fun q h => by rw [z1, if_pos (by omega)]; decide) rfl).2
theorem e3 : drT a2 0 = a3 := by unfold drT; rw [if_pos (by unfold getT; rw [if_pos (by decide)]; decide)]; rfl
theorem e4 : adk a3 5 = 0 ∧ adT a3 5 = a4 := ad_of (T := a3) (v := 5) 0 (by decide) (by decide) (fun j => by
  rw [z3]
  split
  · decide
  · split
    · decide
    · decide) (by decide) (fun q h => absurd h (Nat.not_lt_zero _)) rfl
theorem e5 : getT a4 1 = 9 := by unfold getT; rw [if_pos (by decide)]; rfl
theorem e6 : getT a2 0 = 7 := by unfold getT; rw [if_pos (by decide)]; rfl
theorem ok1 : Ok a1 := ok0.upd _ (by decide) (by decide)
theorem ok2 : Ok a2 := ok1.upd _ (by decide) (by decide)
theorem ok3 : Ok a3 := ok2.upd _ (by decide) (by decide)
theorem ok4 : Ok a4 := ok3.upd _ (by decide) (by decide)
attribute [irreducible] a1 a2 a3 a4
set_option maxHeartbeats 4000000 in
theorem awake_c (w : World) : Calls Try.prog 15 #[] w fun e w' => e = .returned (.bool true) ∧ But [] w w' := by
  have hz := zTab
  obtain ⟨b, hb⟩ : ∃ b, b = w.heap.size := ⟨_, rfl⟩
  obtain ⟨w0, hw0⟩ : ∃ w0, w0 = w.alloc (.cells (tv t0).toArray 28) := ⟨_, rfl⟩
  have HB0 : Hid (But [] w w0) := by show But _ _ _; rw [hw0]; exact (But.refl [] w).alloc _
  have hr := new_range w (tv t0) 28
  have ht := there_new w (tv t0).toArray 28 512 (tvs t0)
  rw [← hw0, ← hb] at hr ht
  have HR0 := hid hr
  have HT0 := hid ht
  have HLT := hid (lt_of_there ht (by omega))
  have HBW := hid hb
  have K0 : Hid (But [b] w0 w0) := But.refl _ _
  clear hr ht
  go_enter Try.func15, Try.ntmps15
  go_upto_region 2 with fail
  rw [← hw0, ← hb]
  clear hw0 hb hz
  go_wp2_with (first
    | (refine wpList_load_mid rfl 28 _ rfl b 0 rfl (tv t0) _ HR0.out Try.underlying28 rfl (iTab _) ?_))
  refine (add_c t0 ok0 7 _).mono ?_
  rintro e w1 ⟨rfl, k1⟩
  rw [e1]
  generalize adk t0 7 = x1
  unfold Pr3
  have HTx1 := hid (there_keep HT0.out k1 (lt_of_there HT0.out (by omega)) (by simp))
  have HS1 : Hid (w1.there b 0 (tv a1).toArray.size) := by show World.there _ _ _ _; rw [tvs]; exact HTx1.out
  have HR1 : Hid ((w1.setCells b 0 (tv a1)).rangeAt b 0 (tv a1)) := World.rangeAt_setCells_same _ _ _ _ (by rw [tv_len]; exact HTx1.out)
  have HT1 : Hid ((w1.setCells b 0 (tv a1)).there b 0 512) := World.there_setCells HTx1.out _ _ _
  have K1 : Hid (But [b] w0 (w1.setCells b 0 (tv a1))) := (K0.out.trans (k1.any _)).setCells (by simp) _ _
  clear k1
  go_wp2_with (first
    | (refine wpList_store_mid rfl 28 _ _ rfl b 0 (tv a1).toArray rfl rfl ?ht (iTab' _) (tv_all _) ?_; case ht => exact HS1.out)
    | (refine wpList_load_mid rfl 28 _ rfl b 0 rfl (tv a1) _ HR1.out Try.underlying28 rfl (iTab _) ?_))
  refine (add_c a1 ok1 9 _).mono ?_
  rintro e w2 ⟨rfl, k2⟩
  rw [e2]
  generalize adk a1 9 = x2
  unfold Pr3
  have HTx2 := hid (there_keep HT1.out k2 (lt_of_there HT1.out (by omega)) (by simp))
  have HS2 : Hid (w2.there b 0 (tv a2).toArray.size) := by show World.there _ _ _ _; rw [tvs]; exact HTx2.out
  have HR2 : Hid ((w2.setCells b 0 (tv a2)).rangeAt b 0 (tv a2)) := World.rangeAt_setCells_same _ _ _ _ (by rw [tv_len]; exact HTx2.out)
  have HT2 : Hid ((w2.setCells b 0 (tv a2)).there b 0 512) := World.there_setCells HTx2.out _ _ _
  have K2 : Hid (But [b] w0 (w2.setCells b 0 (tv a2))) := (K1.out.trans (k2.any _)).setCells (by simp) _ _
  clear k2
  go_wp2_with (first
    | (refine wpList_store_mid rfl 28 _ _ rfl b 0 (tv a2).toArray rfl rfl ?ht (iTab' _) (tv_all _) ?_; case ht => exact HS2.out)
    | (refine wpList_load_mid rfl 28 _ rfl b 0 rfl (tv a2) _ HR2.out Try.underlying28 rfl (iTab _) ?_))
  refine (drop_c a2 ok2 0 _).mono ?_
  rintro e w3 ⟨rfl, k3⟩
  rw [e3, e6]
  have HTx3 := hid (there_keep HT2.out k3 (lt_of_there HT2.out (by omega)) (by simp))
  have HS3 : Hid (w3.there b 0 (tv a3).toArray.size) := by show World.there _ _ _ _; rw [tvs]; exact HTx3.out
  have HR3 : Hid ((w3.setCells b 0 (tv a3)).rangeAt b 0 (tv a3)) := World.rangeAt_setCells_same _ _ _ _ (by rw [tv_len]; exact HTx3.out)
  have HT3 : Hid ((w3.setCells b 0 (tv a3)).there b 0 512) := World.there_setCells HTx3.out _ _ _
  have K3 : Hid (But [b] w0 (w3.setCells b 0 (tv a3))) := (K2.out.trans (k3.any _)).setCells (by simp) _ _
  clear k3
  go_wp2_with (first
    | (refine wpList_store_mid rfl 28 _ _ rfl b 0 (tv a3).toArray rfl rfl ?ht (iTab' _) (tv_all _) ?_; case ht => exact HS3.out)
    | (refine wpList_load_mid rfl 28 _ rfl b 0 rfl (tv a3) _ HR3.out Try.underlying28 rfl (iTab _) ?_))
  refine (add_c a3 ok3 5 _).mono ?_
  rintro e w4 ⟨rfl, k4⟩
  rw [e4.1, e4.2, Pr3_yes (by decide)]
  have HTx4 := hid (there_keep HT3.out k4 (lt_of_there HT3.out (by omega)) (by simp))
  have HS4 : Hid (w4.there b 0 (tv a4).toArray.size) := by show World.there _ _ _ _; rw [tvs]; exact HTx4.out
  have HR4 : Hid ((w4.setCells b 0 (tv a4)).rangeAt b 0 (tv a4)) := World.rangeAt_setCells_same _ _ _ _ (by rw [tv_len]; exact HTx4.out)
  have HT4 : Hid ((w4.setCells b 0 (tv a4)).there b 0 512) := World.there_setCells HTx4.out _ _ _
  have K4 : Hid (But [b] w0 (w4.setCells b 0 (tv a4))) := (K3.out.trans (k4.any _)).setCells (by simp) _ _
  clear k4
  go_wp2_with (first
    | (refine wpList_store_mid rfl 28 _ _ rfl b 0 (tv a4).toArray rfl rfl ?ht (iTab' _) (tv_all _) ?_; case ht => exact HS4.out)
    | (refine wpList_load_mid rfl 28 _ rfl b 0 rfl (tv a4) _ HR4.out Try.underlying28 rfl (iTab _) ?_))
  refine (get_c a4 ok4 1 _).mono ?_
  rintro e w5 ⟨rfl, k5⟩
  rw [e5, Pr_yes (by decide)]
  have K5 := hid (K4.out.trans (k5.any _))
  clear k5
  go_wp2
  go_ret
  exact ⟨rfl, but_own HB0.out K5.out (fun i hi => by have := HBW.out; simp at hi; omega)⟩
end Go.Proofs.Ytfjkbfcfceckgaa.Nm
