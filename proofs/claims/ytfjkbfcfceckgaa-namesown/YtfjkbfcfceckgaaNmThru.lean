/-
  Layer 11 (names): contracts of Own and Through, over the translated program.
-/
import Derived.Test.YtfjkbfcfceckgaaNmTabs
namespace Go.Proofs.Ytfjkbfcfceckgaa.Nm
open Go.ChangeShapes Go.WideShapes Go.ChangeAt Go.RowKit
open Wh Sn
set_option linter.unusedVariables false
set_option maxRecDepth 20000

/-- A block that holds a table. -/
def Tb (w : World) (b : Nat) (T : Tf) : Prop := VB w b 512 (fun q => .int .u16 (T q + 1))
theorem Tb.range {w : World} {b : Nat} {T : Tf} (h : Tb w b T) : w.rangeAt b 0 (tv T) := vb_range h
theorem Tb.there {w : World} {b : Nat} {T : Tf} (h : Tb w b T) : w.there b 0 512 := VB.there h (by omega)
theorem Tb.set {w : World} {b k : Nat} {T U : Tf} {v : Int} (h : Tb w b T) (he : ∀ j, j < 512 → U j = if j = k then v else T j) : Tb (w.setCell ⟨b, k, none⟩ (.int .u16 (v + 1))) b U :=
  (VB.set (k := k) h _).congr (fun j hj => by
    rw [he j hj]
    by_cases e : j = k
    · rw [if_pos e, if_pos e]
    · rw [if_neg e, if_neg e])
theorem Tb.congr {w : World} {b : Nat} {T U : Tf} (h : Tb w b T) (he : ∀ j, j < 512 → U j = T j) : Tb w b U := VB.congr h (fun j hj => by rw [he j hj])
theorem Tb.keep {w w' : World} {b : Nat} {T : Tf} {l : List Nat} (h : Tb w b T) (k : But l w w') (hb : b ∉ l) : Tb w' b T := VB.keep h k hb
theorem Tb.lt {w : World} {b : Nat} {T : Tf} (h : Tb w b T) : b < w.heap.size := VB.lt h (by omega)
theorem two_new (w : World) (t : TypeId) :
    ((w.alloc (.cells (tv t0).toArray t)).alloc (.cells (tv t0).toArray t)).there w.heap.size 0 512 ∧ Tb ((w.alloc (.cells (tv t0).toArray t)).alloc (.cells (tv t0).toArray t)) (w.heap.size + 1) t0 ∧
      ((w.alloc (.cells (tv t0).toArray t)).alloc (.cells (tv t0).toArray t)).heap.size = w.heap.size + 2 := by
  have s1 : (w.alloc (.cells (tv t0).toArray t)).heap.size = w.heap.size + 1 := by simp
  have h1 := there_new w (tv t0).toArray t 512 (tvs t0)
  have h2 := tv_new (w.alloc (.cells (tv t0).toArray t)) t0 t
  rw [s1] at h2
  exact ⟨there_keep (l := []) h1 ((But.refl [] _).alloc _) (by simp) (by simp), h2, by simp⟩
theorem four_new (w : World) (T U : Tf) (t : TypeId) :
    ((((w.alloc (.cells (tv T).toArray t)).alloc (.cells (tv U).toArray t)).alloc (.cells (tv t0).toArray t)).alloc (.cells (tv t0).toArray t)).rangeAt w.heap.size 0 (tv T) ∧
    ((((w.alloc (.cells (tv T).toArray t)).alloc (.cells (tv U).toArray t)).alloc (.cells (tv t0).toArray t)).alloc (.cells (tv t0).toArray t)).rangeAt (w.heap.size + 1) 0 (tv U) ∧
    ((((w.alloc (.cells (tv T).toArray t)).alloc (.cells (tv U).toArray t)).alloc (.cells (tv t0).toArray t)).alloc (.cells (tv t0).toArray t)).there (w.heap.size + 2) 0 512 ∧
    Tb ((((w.alloc (.cells (tv T).toArray t)).alloc (.cells (tv U).toArray t)).alloc (.cells (tv t0).toArray t)).alloc (.cells (tv t0).toArray t)) (w.heap.size + 3) t0 ∧
    ((((w.alloc (.cells (tv T).toArray t)).alloc (.cells (tv U).toArray t)).alloc (.cells (tv t0).toArray t)).alloc (.cells (tv t0).toArray t)).heap.size = w.heap.size + 4 := by
  have s1 : (w.alloc (.cells (tv T).toArray t)).heap.size = w.heap.size + 1 := by simp
  have s2 : ((w.alloc (.cells (tv T).toArray t)).alloc (.cells (tv U).toArray t)).heap.size = w.heap.size + 2 := by simp
  have h1 := new_range w (tv T) t
  have h2 := new_range (w.alloc (.cells (tv T).toArray t)) (tv U) t
  obtain ⟨h3, h4, h5⟩ := two_new ((w.alloc (.cells (tv T).toArray t)).alloc (.cells (tv U).toArray t)) t
  rw [s1] at h2
  rw [s2] at h3 h4 h5
  exact ⟨range_keep (l := []) h1 ((((But.refl [] _).alloc _).alloc _).alloc _) (by simp), range_keep (l := []) h2 (((But.refl [] _).alloc _).alloc _) (by simp), h3, h4, h5⟩
/-- The first numbers named as they are. -/
def ownT (n : Int) : Tf := fun j => if (j : Int) < n ∧ j < 512 then (j : Int) else -1
theorem own_ok (n : Int) : Ok (ownT n) := ⟨fun j => by unfold ownT; split <;> omega, fun j => by unfold ownT; split <;> omega⟩
set_option maxHeartbeats 2000000 in
theorem own_c (n : Int) (w : World) :
    Calls Try.prog 25 #[.int .i64 n] w fun e w' => e = .returned (.agg (tv (ownT n)).toArray) ∧ But [] w w' := by
  have hz := zTab
  obtain ⟨b, hb⟩ : ∃ b, b = w.heap.size := ⟨_, rfl⟩
  obtain ⟨w1, hw1⟩ : ∃ w1, w1 = (w.alloc (.cells (tv t0).toArray 28)).alloc (.cells (tv t0).toArray 28) := ⟨_, rfl⟩
  have HB0 : Hid (But [] w w1) := by show But _ _ _; rw [hw1]; exact ((But.refl [] w).alloc _).alloc _
  obtain ⟨t3, t4, t5⟩ := two_new w 28
  rw [← hw1, ← hb] at t3 t4
  rw [← hw1, ← hb] at t5
  have HT3 := hid t3
  have HV4 := hid t4
  have HS1 := hid t5
  have HBW := hid hb
  clear t3 t4 t5
  obtain ⟨m, hm⟩ : ∃ m : Int, (if 512 < n then 512 else n) = m := ⟨_, rfl⟩
  have hm1 : m ≤ 512 := by split at hm <;> omega
  have HM : Hid (∀ j : Nat, (j : Int) < m ↔ (j : Int) < n ∧ j < 512) := fun j => by split at hm <;> omega
  go_enter Try.func25, Try.ntmps25
  go_upto_region 2 with fail
  rw [← hw1, ← hb]
  clear hw1 hb hz
  go_wp2
  go_loopg [7] 513 (fun g0 i wx => ∃ j : Nat, j + g0 = 513 ∧ j ≤ 512 ∧ i = .int .i64 j ∧ Hid (j = 0 ∨ (j : Int) ≤ m) ∧ Hid (Tb wx (b + 1) (ownT j)) ∧ Hid (But [b + 1] w1 wx))
  case atStart => exact ⟨0, by omega, by omega, rfl, .inl rfl, HV4.out.congr (fun q _ => by unfold ownT t0; rw [if_neg (by omega)]), But.refl _ _⟩
  case round =>
    obtain ⟨j, hjg, hj, rfl, HJ, HV, HB⟩ := hrel
    by_cases hlt : (j : Int) < m
    · have hj5 : j < 512 := by omega
      obtain ⟨hcv, hfv⟩ := HV.out j hj5
      have HV1 : Hid (Tb (wr.setCell ⟨b + 1, j, none⟩ (.int .u16 ((j : Int) + 1))) (b + 1) (ownT (j + 1 : Nat))) := HV.out.set (k := j) (fun q _ => by
        unfold ownT
        by_cases e : q = j
        · rw [if_pos e, if_pos (by omega), e]
        · by_cases e2 : q < j
          · rw [if_neg e, if_pos (by omega), if_pos (by omega)]
          · rw [if_neg e, if_neg (by omega), if_neg (by omega)])
      have HB1 : Hid (But [b + 1] w1 (wr.setCell ⟨b + 1, j, none⟩ (.int .u16 ((j : Int) + 1)))) := HB.out.setCell (by simp) _
      clear HV HB HJ hm
      go_wp2_with fail
      refine (mark_c j (by omega) (by omega) _).mono ?_
      rintro e w4 ⟨rfl, rfl⟩
      go_wp2
      go_roundg (513 - (j + 1))
      case measure => omega
      case rel => exact ⟨j + 1, by omega, by omega, by go_num, .inr (by show ((j + 1 : Nat) : Int) ≤ m; omega), HV1.out, HB1.out⟩
    · have HE : Hid (∀ q, q < 512 → ownT n q = ownT j q) := fun q hq => by
        have h1 := HM.out q
        have h2 := HJ.out
        have h3 : (q : Int) < n ∧ q < 512 ↔ (q : Int) < (j : Int) ∧ q < 512 := by omega
        unfold ownT
        by_cases h4 : (q : Int) < (j : Int) ∧ q < 512
        · rw [if_pos h4, if_pos (h3.2 h4)]
        · rw [if_neg h4, if_neg (fun h => h4 (h3.1 h))]
      have HR : Hid (wr.rangeAt (b + 1) 0 (tv (ownT n))) := (HV.out.congr HE.out).range
      have HT2 : Hid (wr.there b 0 (tv (ownT n)).toArray.size) := by show World.there _ _ _ _; rw [tvs]; exact there_keep HT3.out HB.out (by have := HS1.out; omega) (by simp)
      have hlt' : decide ((j : Int) < m) = false := decide_eq_false hlt
      clear HV hm HE HJ
      go_wp2_with (first
        | (refine wpList_load_mid rfl 28 _ rfl (b + 1) 0 rfl (tv (ownT n)) _ HR.out Try.underlying28 rfl (iTab _) ?_)
        | (refine wpList_store_mid rfl 28 _ _ rfl b 0 (tv (ownT n)).toArray rfl rfl ?ht (iTab' _) (tv_all _) ?_; case ht => exact HT2.out))
      refine bodyPost_ret (results_range1 rfl _ _ b 0 (tv (ownT n)) _ rfl (World.rangeAt_setCells_same _ _ _ _ (by rw [tv_len]; exact there_keep HT3.out HB.out (by have := HS1.out; omega) (by simp))) Try.underlying28 rfl (iTab _)) rfl ?_
      have hbw := HBW.out
      exact ⟨rfl, but_own (but_own HB0.out HB.out (fun i hi => by simp at hi; omega)) ((But.refl [b] _).setCells (by simp) _ _) (fun i hi => by simp at hi; omega)⟩

/-- A table through another one. -/
def thr (T U : Tf) : Tf := fun j => if 0 ≤ T j ∧ T j < 512 then U (T j).toNat else -1
theorem thr_ok {T U : Tf} (h : Ok U) : Ok (thr T U) := ⟨fun j => by unfold thr; split; exact h.ge _; omega, fun j => by unfold thr; split; exact h.le _; omega⟩
def upto (T : Tf) (j : Nat) : Tf := fun q => if q < j then T q else -1
theorem upto_step (T : Tf) (j : Nat) : ∀ q, q < 512 → upto T (j + 1) q = if q = j then T j else upto T j q := fun q _ => by
  unfold upto
  by_cases e : q = j
  · rw [if_pos e, if_pos (by omega), e]
  · by_cases e2 : q < j
    · rw [if_neg e, if_pos e2, if_pos (by omega)]
    · rw [if_neg e, if_neg e2, if_neg (by omega)]
theorem upto_none {T : Tf} {j : Nat} (h : T j = -1) : ∀ q, q < 512 → upto T (j + 1) q = upto T j q := fun q hq => by
  rw [upto_step T j q hq]
  split
  · rename_i e
    subst e
    rw [h]
    unfold upto
    rw [if_neg (Nat.lt_irrefl _)]
  · rfl
set_option maxHeartbeats 2000000 in
theorem through_c (T U : Tf) (hT : Ok T) (hU : Ok U) (w : World) :
    Calls Try.prog 16 #[.agg (tv T).toArray, .agg (tv U).toArray] w fun e w' => e = .returned (.agg (tv (thr T U)).toArray) ∧ But [] w w' := by
  have hz := zTab
  obtain ⟨b, hb⟩ : ∃ b, b = w.heap.size := ⟨_, rfl⟩
  obtain ⟨w1, hw1⟩ : ∃ w1, w1 = (((w.alloc (.cells (tv T).toArray 28)).alloc (.cells (tv U).toArray 28)).alloc (.cells (tv t0).toArray 28)).alloc (.cells (tv t0).toArray 28) := ⟨_, rfl⟩
  have HB0 : Hid (But [] w w1) := by show But _ _ _; rw [hw1]; exact ((((But.refl [] w).alloc _).alloc _).alloc _).alloc _
  obtain ⟨t1, t2, t3, t4, t5⟩ := four_new w T U 28
  rw [← hw1, ← hb] at t1 t2 t3 t4
  rw [← hw1, ← hb] at t5
  have HR1 := hid t1
  have HR2 := hid t2
  have HT3 := hid t3
  have HV4 := hid t4
  have HS1 := hid t5
  have HBW := hid hb
  have HT := hid hT
  have HU := hid hU
  clear t1 t2 t3 t4 t5 hT hU
  go_enter Try.func16, Try.ntmps16
  go_upto_region 2 with fail
  rw [← hw1, ← hb]
  clear hw1 hb hz
  go_wp2_with (first
    | (refine wpList_load_mid rfl 26 _ rfl b 0 rfl (tv T) _ HR1.out Try.underlying26 rfl (iArr _) ?_))
  go_loopg [11] 513 (fun g0 i wx => ∃ j : Nat, j + g0 = 513 ∧ j ≤ 512 ∧ i = .int .i64 j ∧ Hid (Tb wx (b + 3) (upto (thr T U) j)) ∧ Hid (But [b + 3] w1 wx))
  case atStart => exact ⟨0, by omega, by omega, rfl, HV4.out.congr (fun q _ => by unfold upto t0; rw [if_neg (by omega)]), But.refl _ _⟩
  case round =>
    obtain ⟨j, hjg, hj, rfl, HV, HB⟩ := hrel
    by_cases hlt : j < 512
    · have hjI : (j : Int) < 512 := by omega
      have hix := idx_tv T j hlt
      have hge := HT.out.ge j
      have hle := HT.out.le j
      by_cases hv : 0 ≤ T j ∧ T j < 512
      · have ht : thr T U j = U (T j).toNat := if_pos hv
        obtain ⟨hcv, hfv⟩ := HV.out j hlt
        obtain ⟨x, hx⟩ : ∃ x : Nat, T j = x := ⟨(T j).toNat, by omega⟩
        rw [hx] at ht hix hv hge hle
        have hxl : x < 512 := by omega
        have hca := cell_keep (range_tv HR2.out hxl) HB.out (by simp)
        rw [show ((x : Int)).toNat = x by omega] at ht
        have HV1 := hid (HV.out.set (k := j) (v := U x) (U := upto (thr T U) (j + 1)) (fun q hq => by rw [upto_step _ _ q hq, ht]))
        have HB1 : Hid (But [b + 3] w1 (wr.setCell ⟨b + 3, j, none⟩ (.int .u16 (U x + 1)))) := HB.out.setCell (by simp) _
        generalize U x = y at *
        have hx1 : (x : Int) + 1 - 1 = x := by omega
        clear HV HB ht hx hge hle
        go_wp2_with fail
        refine (number_c ((x : Int) + 1) (by omega) (by omega) _).mono ?_
        rintro e w4 ⟨rfl, rfl⟩
        rw [hx1]
        go_wp2
        go_roundg (513 - (j + 1))
        case measure => omega
        case rel => exact ⟨j + 1, by omega, by omega, by go_num, HV1.out, HB1.out⟩
      · have ht : thr T U j = -1 := if_neg hv
        have HV1 := hid (HV.out.congr (upto_none ht))
        generalize T j = x at *
        clear HV ht
        by_cases hx : x < 0
        · obtain rfl : x = -1 := by omega
          have h10 : decide ((0 : Int) ≤ -1) = false := by decide
          rw [show (-1 : Int) + 1 = 0 by decide] at hix
          clear hv hge hle hx
          go_wp2_with fail
          refine (number_c 0 (by omega) (by omega) _).mono ?_
          rintro e w4 ⟨rfl, rfl⟩
          rw [show (0 : Int) - 1 = -1 by decide]
          go_wp2
          go_roundg (513 - (j + 1))
          case measure => omega
          case rel => exact ⟨j + 1, by omega, by omega, by go_num, HV1.out, HB.out⟩
        · have hx5 : 512 ≤ x := by omega
          have h10 : decide (0 ≤ x) = true := decide_eq_true (by omega)
          have h11 : decide (x < 512) = false := decide_eq_false (by omega)
          have hx1 : x + 1 - 1 = x := by omega
          clear hv hx
          go_wp2_with fail
          refine (number_c (x + 1) (by omega) (by omega) _).mono ?_
          rintro e w4 ⟨rfl, rfl⟩
          rw [hx1]
          go_wp2
          go_roundg (513 - (j + 1))
          case measure => omega
          case rel => exact ⟨j + 1, by omega, by omega, by go_num, HV1.out, HB.out⟩
    · obtain rfl : j = 512 := by omega
      have HR : Hid (wr.rangeAt (b + 3) 0 (tv (thr T U))) := (HV.out.congr (fun q hq => by unfold upto; rw [if_pos hq])).range
      have HT2 : Hid (wr.there (b + 2) 0 (tv (thr T U)).toArray.size) := by show World.there _ _ _ _; rw [tvs]; exact there_keep HT3.out HB.out (by have := HS1.out; omega) (by simp)
      have h64' : decide ((512 : Int) < 512) = false := by decide
      clear HV
      go_wp2_with (first
        | (refine wpList_load_mid rfl 28 _ rfl (b + 3) 0 rfl (tv (thr T U)) _ HR.out Try.underlying28 rfl (iTab _) ?_)
        | (refine wpList_store_mid rfl 28 _ _ rfl (b + 2) 0 (tv (thr T U)).toArray rfl rfl ?ht (iTab' _) (tv_all _) ?_; case ht => exact HT2.out))
      refine bodyPost_ret (results_range1 rfl _ _ (b + 2) 0 (tv (thr T U)) _ rfl (World.rangeAt_setCells_same _ _ _ _ (by rw [tv_len]; exact there_keep HT3.out HB.out (by have := HS1.out; omega) (by simp))) Try.underlying28 rfl (iTab _)) rfl ?_
      have hbw := HBW.out
      exact ⟨rfl, but_own (but_own HB0.out HB.out (fun i hi => by simp at hi; omega)) ((But.refl [b + 2] _).setCells (by simp) _ _) (fun i hi => by simp at hi; omega)⟩
end Go.Proofs.Ytfjkbfcfceckgaa.Nm
