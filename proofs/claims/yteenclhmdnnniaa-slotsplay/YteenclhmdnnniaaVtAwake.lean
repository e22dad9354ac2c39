/-
  Layer 16 (slots): the chapter's example; slices of numbers that came in, over the translated program.
-/
import Derived.Test.YteenclhmdnnniaaVtWout
import Derived.Test.YteenclhmdnnniaaVtRef
import Derived.Test.YteenclhmdnnniaaFlat
namespace Go.Proofs.Yteenclhmdnnniaa
open Go.RowKit
set_option linter.unusedVariables false
def ks_flatInt : List Pk := [.int .i64]
theorem flatInt : FlatT Try.prog 3 ks_flatInt := flat_int Try.underlying3 (by kernel_rfl)
namespace Vt
open Go.ChangeShapes Go.WideShapes Go.ChangeAt Go.RowKit
open Wh
set_option maxRecDepth 20000

/-- A slice of numbers that came in. -/
theorem row_li {w : World} {A : Option Addr} {len cap : Nat} (h : RowOf ks_flatInt w A len cap) : ∃ l : List Int, l.length = len ∧ Li w A l := by
  obtain ⟨-, -, h0 | ⟨b, off, rfl, hb, hall⟩⟩ := h
  · exact ⟨[], h0.symm, .inl rfl⟩
  · have key : ∀ i, ∃ x : Int, i < len → w.cell? ⟨b, off + i, none⟩ = some (.int .i64 x) := fun i => by
      by_cases hi : i < len
      · obtain ⟨vs, hr, hf⟩ := hall i hi
        obtain ⟨v, l0, rfl, ⟨x, rfl, -⟩, -⟩ := fits_cons hf
        refine ⟨x, fun _ => ?_⟩
        have := hr 0 _ rfl
        rwa [show off + i * ks_flatInt.length + 0 = off + i by simp [ks_flatInt]] at this
      · exact ⟨0, fun hh => absurd hh hi⟩
    obtain ⟨f, hf⟩ := Classical.axiomOfChoice key
    refine ⟨tab len f, tab_len _ _, .inr ⟨b, off, rfl, Nat.zero_le _, hb, fun j hj => ?_⟩⟩
    rw [tab_len] at hj
    rw [tab_get _ _ _ hj]
    exact hf j hj
theorem and15 (x : Int) : bits .and .i64 x 15 = x % 16 := and_mask64 4 15 x (by omega) (by decide)
theorem nx_cons (x : Int) (l : List Int) : nx (x :: l) = .tuple #[.agg (vc (l ++ [x])).toArray, .int .i64 x, .bool true] := rfl
theorem cnt_aw : cnt 1 [1, 1, 2] = 2 := by unfold cnt; rfl
theorem wo_aw : wo 1 [1, 1, 2] = [2] := rfl
/-- A box that is made and stored into, whole. -/
theorem made_vt (w : World) (l : List Int) : ∃ b w', b = w.heap.size ∧ w' = w.alloc (.cells (vc l).toArray vT) ∧ VtAt w' b l ∧ But [] w w' :=
  ⟨_, _, rfl, rfl, vt_new w l, (But.refl [] w).alloc _⟩
set_option maxHeartbeats 4000000 in
theorem awake_c (w : World) : Calls Try.prog 9 #[] w fun e w' => e = .returned (.bool true) ∧ But [] w w' := by
  have hz := zVec
  obtain ⟨g, hg⟩ : ∃ g, g = w.heap.size := ⟨_, rfl⟩
  obtain ⟨w0, hw0⟩ : ∃ w0, w0 = w.alloc (.cells #[.int .i64 1, .int .i64 2, .int .i64 1] 3) := ⟨_, rfl⟩
  have K0 : Hid (But [] w w0) := by show But _ _ _; rw [hw0]; exact (But.refl [] w).alloc _
  have hli : Li w0 (some ⟨g, 0, none⟩) [1, 2, 1] := .inr ⟨g, 0, rfl, Nat.zero_le _, by rw [hw0, hg]; simp, fun j hj => by
    have := new_range w (zi [1, 2, 1]) 3 j _ (zi_get [1, 2, 1] j hj)
    rw [hw0, hg]
    exact this⟩
  have hof := of_c (some ⟨g, 0, none⟩) 3 3 [1, 2, 1] w0 hli rfl
  rw [show mk [1, 2, 1] = [1, 2, 1] from rfl, show okB [1, 2, 1] = true from rfl] at hof
  have HN1 := hid (fun w => next_c [1, 2, 1] rfl w)
  rw [nx_cons, show [2, 1] ++ [(1 : Int)] = [2, 1, 1] from rfl] at HN1
  have HN2 := hid (fun w => next_c [2, 1, 1] rfl w)
  rw [nx_cons, show [1, 1] ++ [(2 : Int)] = [1, 1, 2] from rfl] at HN2
  have HWO := hid (fun w => without_c [1, 1, 2] rfl 1 w)
  rw [wo_aw] at HWO
  have HN3 := hid (fun w => next_c [2] rfl w)
  rw [nx_cons, show [] ++ [(2 : Int)] = [2] from rfl] at HN3
  have HSH := hid (fun w => share_c [1, 1, 2] rfl 1 w)
  rw [cnt_aw] at HSH
  unfold vv at hof HN1 HN2 HWO HN3 HSH
  have HOF := hid hof
  clear hof hli
  go_enter Try.func9, Try.ntmps9
  go_wp2_with fail
  rw [← hw0, ← hg]
  clear hw0 hg
  refine HOF.out.mono ?_
  rintro r w1 ⟨rfl, k1⟩
  have K1 := hid (K0.out.trans k1)
  clear k1 HOF
  obtain ⟨b2, w2, hb2, hw2, h2, k2⟩ := made_vt w1 [1, 2, 1]
  have H2 := hid h2
  have HR2 := hid h2.all
  have K2 := hid (K1.out.trans k2)
  clear h2 k2
  go_upto_region 2 with (first
    | (refine wpList_store_new rfl vT _ _ rfl (vc []).toArray (vc [1, 2, 1]).toArray rfl rfl (iVec' _) (by rw [vc_size, vc_size]) (vc_all _) ?_))
  rw [← hw2, ← hb2]
  have hwb : w.heap.size ≤ b2 := by rw [hb2]; exact K1.out.size
  clear hw2 hb2
  go_wp2_with (first
    | (refine wpList_load_mid rfl vT _ rfl b2 0 rfl (vc [1, 2, 1]) _ HR2.out Try.underlying25 rfl (iVec _) ?_))
  refine (HN1.out _).mono ?_
  rintro r w3 ⟨rfl, k3⟩
  have HT3 : Hid (w3.there b2 0 (vc [2, 1, 1]).toArray.size) := by show World.there _ _ _ _; rw [vc_size]; exact (H2.out.keep0 k3).there
  have K3 := hid (K2.out.trans k3)
  obtain ⟨w4, hw4⟩ : ∃ w4, w4 = w3.setCells b2 0 (vc [2, 1, 1]) := ⟨_, rfl⟩
  have HR4 : Hid (w4.rangeAt b2 0 (vc [2, 1, 1])) := by show World.rangeAt _ _ _ _; rw [hw4]; exact World.rangeAt_setCells_same _ _ _ _ (by have := HT3.out; rw [vc_len]; rwa [vc_size] at this)
  have K4 : Hid (But [] w w4) := by show But _ _ _; rw [hw4]; exact but_own K3.out ((But.refl [b2] _).setCells (by simp) _ _) (fun i hi => by simp at hi; omega)
  clear k3 HN1 H2 HR2
  go_upto_region 3 with (first
    | (refine wpList_store_mid rfl vT _ _ rfl b2 0 (vc [2, 1, 1]).toArray rfl rfl ?ht (iVec' _) (vc_all _) ?_; case ht => exact HT3.out))
  rw [← hw4]
  clear hw4 HT3
  go_wp2_with (first
    | (refine wpList_load_mid rfl vT _ rfl b2 0 rfl (vc [2, 1, 1]) _ HR4.out Try.underlying25 rfl (iVec _) ?_))
  refine (HN2.out _).mono ?_
  rintro r w5 ⟨rfl, k5⟩
  have K5 := hid (K4.out.trans k5)
  clear k5 HN2 HR4
  obtain ⟨b6, w6, hb6, hw6, h6, k6⟩ := made_vt w5 [1, 1, 2]
  have H6 := hid h6
  have HR6 := hid h6.all
  have K6 := hid (K5.out.trans k6)
  clear h6 k6
  go_upto_region 4 with (first
    | (refine wpList_store_new rfl vT _ _ rfl (vc []).toArray (vc [1, 1, 2]).toArray rfl rfl (iVec' _) (by rw [vc_size, vc_size]) (vc_all _) ?_))
  rw [← hw6, ← hb6]
  clear hw6 hb6
  go_wp2_with (first
    | (refine wpList_load_mid rfl vT _ rfl b6 0 rfl (vc [1, 1, 2]) _ HR6.out Try.underlying25 rfl (iVec _) ?_))
  refine (HWO.out _).mono ?_
  rintro r w7 ⟨rfl, k7⟩
  have H7 := hid (H6.out.keep0 k7)
  have K7 := hid (K6.out.trans k7)
  clear k7 HWO H6 HR6
  go_wp2_with fail
  refine (HN3.out _).mono ?_
  rintro r w8 ⟨rfl, k8⟩
  have H8 := hid (H7.out.keep0 k8)
  have K8 := hid (K7.out.trans k8)
  clear k8 HN3 H7
  obtain ⟨b9, w9, hb9, hw9, -, k9⟩ := made_vt w8 [2]
  have HR9 := hid (H8.out.keep0 k9).all
  have K9 := hid (K8.out.trans k9)
  clear k9 H8
  go_upto_region 5 with (first
    | (refine wpList_store_new rfl vT _ _ rfl (vc []).toArray (vc [2]).toArray rfl rfl (iVec' _) (by rw [vc_size, vc_size]) (vc_all _) ?_))
  rw [← hw9, ← hb9]
  clear hw9 hb9
  go_wp2_with (first
    | (refine wpList_load_mid_g vT _ rfl b6 0 rfl (vc [1, 1, 2]) _ HR9.out Try.underlying25 rfl (iVec _) rfl ?_))
  refine (HSH.out _).mono ?_
  rintro r w10 ⟨rfl, k10⟩
  have K10 := hid (K9.out.trans k10)
  clear k10
  go_wp2
  go_ret
  exact ⟨rfl, K10.out⟩
end Vt
end Go.Proofs.Yteenclhmdnnniaa
