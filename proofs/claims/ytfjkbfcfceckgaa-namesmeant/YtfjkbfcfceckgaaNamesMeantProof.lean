/-
  Whatever the input, the Go function NamesMeant answers true, and its arguments read behind the call as they read before. No condition.
-/
import Derived.Test.YtfjkbfcfceckgaaRows
import Derived.Test.YtfjkbfcfceckgaaNmLaw
import Derived.WalkKit
import Derived.Deep.RegionHeld3
import Derived.ProofKit
import Derived.OpenShut
import Derived.ShutString
import Derived.ChangeOld
import Derived.Below
import Derived.Carry
namespace Go.Proofs.Ytfjkbfcfceckgaa.namesMeant
open Go.ChangeShapes Go.WideShapes Go.ChangeAt Go.RowKit
open Go.ChangeMaps (open_string shut_string)
set_option linter.unusedVariables false

theorem own : ownKnob Try.prog.godebug = none := by kernel_rfl
theorem laidOut : laidOutB Try.prog = true := by kernel_rfl

set_option maxHeartbeats 4000000 in
set_option maxRecDepth 100000 in
theorem walk (w : World) (A0 : Option Addr) (len0 cap0 : Nat) (r0 : RowOf ks_flatDeed w A0 len0 cap0) (A1 : Option Addr) (len1 cap1 : Nat) (r1 : RowOf ks_flatDeed w A1 len1 cap1) :
    Calls Try.prog 5 #[.slice A0 len0 cap0, .slice A1 len1 cap1] w fun e w' => e = .returned (.bool true) ∧ Below w.heap.size w w' := by
  have hz := Nm.zTab
  have HR1 := Nm.hid r1
  clear r1
  go_enter Try.func5, Try.ntmps5
  go_wp2_with fail
  refine (Nm.made_c A0 len0 cap0 _ r0).mono ?_
  rintro e w1 ⟨T, n, A, c, rfl, tn, dl, k1⟩
  obtain ⟨w2, hw2⟩ : ∃ w2, w2 = w1.alloc (.cells (Nm.tv T).toArray 28) := ⟨_, rfl⟩
  obtain ⟨b5, hb5⟩ : ∃ b5, b5 = w1.heap.size := ⟨_, rfl⟩
  have t3 : But [] w1 w2 := by rw [hw2]; exact (But.refl [] w1).alloc _
  have t1 := new_range w1 (Nm.tv T) 28
  rw [← hw2, ← hb5] at t1
  have kk := k1.trans t3
  have HK := Nm.hid kk
  have HX5 := Nm.hid t1
  have HT5 := Nm.hid tn
  have HD5 := Nm.hid (dl.keep0 t3)
  have HR1 := Nm.hid (Nm.rowOf_keep HR1.out kk)
  clear r0 t1 t3 tn dl k1 kk
  go_upto_region 2 with (refine Wh.wpList_store_newAt rfl 28 _ _ rfl w1.heap.size rfl (Nm.tv Nm.t0).toArray (Nm.tv T).toArray rfl rfl (Nm.iTab' _) (by rw [Nm.tvs, Nm.tvs]) (Nm.tv_all _) ?_)
  rw [← hw2, ← hb5]
  clear hw2 hb5
  go_wp2_with fail
  refine (Nm.made_c A1 len1 cap1 _ HR1.out).mono ?_
  rintro e w3 ⟨U, m, A', c', rfl, tn, dl, k1⟩
  obtain ⟨w4, hw4⟩ : ∃ w4, w4 = w3.alloc (.cells (Nm.tv U).toArray 28) := ⟨_, rfl⟩
  obtain ⟨b7, hb7⟩ : ∃ b7, b7 = w3.heap.size := ⟨_, rfl⟩
  have t3 : But [] w3 w4 := by rw [hw4]; exact (But.refl [] w3).alloc _
  have t1 := new_range w3 (Nm.tv U) 28
  rw [← hw4, ← hb7] at t1
  have kk := k1.trans t3
  have HX7 := Nm.hid t1
  have HT7 := Nm.hid tn
  have HD7 := Nm.hid (dl.keep0 t3)
  have HX5 := Nm.hid (range_keep HX5.out kk (by simp))
  have HD5 := Nm.hid (HD5.out.keep0 kk)
  have HK := Nm.hid (HK.out.trans kk)
  clear HR1 t1 t3 tn dl k1 kk
  go_upto_region 3 with (refine Wh.wpList_store_newAt rfl 28 _ _ rfl w3.heap.size rfl (Nm.tv Nm.t0).toArray (Nm.tv U).toArray rfl rfl (Nm.iTab' _) (by rw [Nm.tvs, Nm.tvs]) (Nm.tv_all _) ?_)
  rw [← hw4, ← hb7]
  clear hw4 hb7
  clear hz
  go_wp2_with (first | (refine wpList_load_mid rfl 28 _ rfl b5 0 rfl (Nm.tv T) _ HX5.out Try.underlying28 rfl (Nm.iTab _) ?_))
  refine (Nm.Meant_c T HT5.out.ok _).mono ?_
  rintro e w5 ⟨AS, nS, cS, rfl, hs, k5⟩
  obtain ⟨w6, hw6⟩ : ∃ w6, w6 = w5.alloc (.cells #[.slice AS nS cS] 51) := ⟨_, rfl⟩
  obtain ⟨b9, hb9⟩ : ∃ b9, b9 = w5.heap.size := ⟨_, rfl⟩
  have t1 : w6.cell? ⟨b9, 0, none⟩ = some (.slice AS nS cS) := by rw [hw6, hb9]; simp
  have t3 : But [] w5 w6 := by rw [hw6]; exact (But.refl [] w5).alloc _
  have kk := k5.trans t3
  have HX5 := Nm.hid (range_keep HX5.out kk (by simp))
  have HD5 := Nm.hid (HD5.out.keep0 kk)
  have HK := Nm.hid (HK.out.trans kk)
  have HX7 := Nm.hid (range_keep HX7.out kk (by simp))
  have HD7 := Nm.hid (HD7.out.keep0 kk)
  have HC9 := Nm.hid t1
  have HS9 := Nm.hid (hs.keep0 t3)
  clear t1 t3 k5 kk hs
  go_upto_region 4 with fail
  rw [← hw6, ← hb9]
  clear hw6 hb9
  have hn := HT5.out.le
  have hm := HT7.out.le
  go_wp2
  go_loopg [10, 11] (n + 1) (fun g0 cv iv wx => ∃ i : Nat, i + g0 = n + 1 ∧ i ≤ n ∧ iv = .int .i64 i ∧ cv = .int .i64 ((Sn.nums (Nm.has T) i).length : Nat) ∧ Hid (But [] w6 wx))
  case atStart => exact ⟨0, by omega, by omega, rfl, rfl, But.refl _ _⟩
  case round =>
    obtain ⟨i, hig, hin, rfl, rfl, HB⟩ := hrel
    by_cases hlt : i < n
    · have hiI : (i : Int) < n := by omega
      have HDi := HD5.out.keep0 HB.out
      obtain ⟨g, off, rfl, h1, h2, hcs⟩ := HDi.at_ hlt
      have hc := hcs i hlt
      have hn1 := Sn.nums_succ (Nm.has T) i
      have hle := Sn.nums_le (Nm.has T) i
      by_cases hv : 0 ≤ T i
      · have HH := Nm.hid (Nm.mn_has HT5.out hlt hv)
        have e : Hid ((Sn.nums (Nm.has T) (i + 1)).length = (Sn.nums (Nm.has T) i).length + 1) := by
          show _ = _; rw [hn1, show Nm.has T i = true from decide_eq_true hv]; simp
        generalize (Sn.nums (Nm.has T) i).length = L at *
        generalize T i = x at hc hv HH
        have HSi := Nm.hid (HS9.out.keep0 HB.out)
        have HST : Hid (wr.drew.cell? ⟨b9, 0, none⟩ = some (.slice AS nS cS) ∧ wr.drew.cell? ⟨g, off + i, none⟩ = some (.int .i64 x) ∧ But [] wr wr.drew) :=
          ⟨cell_keep (cell_keep HC9.out HB.out (by simp)) (But.refl [] wr).drew (by simp), cell_keep hc (But.refl [] wr).drew (by simp), (But.refl [] wr).drew⟩
        clear hcs h1 h2 hn1 HDi
        go_upto_region 10 with fail
        clear hc
        refine wp_region_noPanic ?_
        refine wp_region_held_drew (S := fun w' => w'.cell? ⟨b9, 0, none⟩ = some (.slice AS nS cS) ∧ w'.cell? ⟨g, off + i, none⟩ = some (.int .i64 x) ∧ But [] wr w') (by kernel_rfl) HST.out (fun hS0 => ?_)
        refine held_take 0 (some 39) (.agg #[.slice AS nS cS]) rfl rfl (by kernel_rfl) (by kernel_rfl) (by kernel_rfl) (fun _ _ _ h => h) (Or.inl ⟨by rfl, fun w' hw' => by obtain ⟨hw1, -⟩ := hw'; go_simp⟩) hS0 ?_
        simp only [Act.put, List.setIfInBounds_toArray, List.set_cons_zero, List.set_cons_succ]
        refine held_take 1 (some 40) (.slice (some ⟨g, off, none⟩) n c) rfl rfl (by kernel_rfl) (by kernel_rfl) (by kernel_rfl) (fun _ _ _ h => h) (Or.inl ⟨by rfl, fun w' hw' => by go_simp⟩) hS0 ?_
        simp only [Act.put, List.setIfInBounds_toArray, List.set_cons_zero, List.set_cons_succ]
        refine held_take 2 (some 41) (.int .i64 i) rfl rfl (by kernel_rfl) (by kernel_rfl) (by kernel_rfl) (fun _ _ _ h => h) (Or.inl ⟨by rfl, fun w' hw' => by go_simp⟩) hS0 ?_
        simp only [Act.put, List.setIfInBounds_toArray, List.set_cons_zero, List.set_cons_succ]
        refine held_take 3 (some 42) (.pointer (some ⟨g, off + i, none⟩)) rfl rfl (by kernel_rfl) (by kernel_rfl) (by kernel_rfl) (fun _ _ _ h => h) (Or.inl ⟨by rfl, fun w' hw' => by go_simp⟩) hS0 ?_
        simp only [Act.put, List.setIfInBounds_toArray, List.set_cons_zero, List.set_cons_succ]
        refine held_take 4 (some 43) (.int .i64 x) rfl rfl (by kernel_rfl) (by kernel_rfl) (by kernel_rfl) (fun _ _ _ h => h) (Or.inl ⟨by rfl, fun w' hw' => by obtain ⟨-, hw1, -⟩ := hw'; go_simp⟩) hS0 ?_
        simp only [Act.put, List.setIfInBounds_toArray, List.set_cons_zero, List.set_cons_succ]
        refine held_one 5 rfl (by kernel_rfl) (by rfl) (fun K hK => ?_)
        go_simp
        refine (Sn.has_c AS nS cS _ x (Nm.mn T) _ (HSi.out.keep0 hS0.2.2)).mono ?_
        rintro e w7 ⟨rfl, k7⟩
        rw [HH.out]
        go_wp2_with fail
        refine hK.out _ _ (Nm.c_keep2 k7 hS0) (fun hS5 => ?_)
        clear hK K hS0
        try simp only [Act.put, List.setIfInBounds_toArray, List.set_cons_zero, List.set_cons_succ]
        refine held_take 6 (some 45) (.bool false) rfl rfl (by kernel_rfl) (by kernel_rfl) (by kernel_rfl) (fun _ _ _ h => h) (Or.inl ⟨by rfl, fun w' hw' => by go_simp⟩) hS5 ?_
        simp only [Act.put, List.setIfInBounds_toArray, List.set_cons_zero, List.set_cons_succ]
        refine wpAnyH_done (by kernel_rfl) ?_ _
        refine NoPanic.normal ?_
        have HB1 := Nm.hid (HB.out.trans hS5.2.2)
        clear hS5
        go_wp2
        go_roundg (n + 1 - (i + 1))
        case measure => omega
        case rel => exact ⟨i + 1, by omega, by omega, by go_num, by rw [e.out]; go_num, HB1.out⟩
      · have e : Hid ((Sn.nums (Nm.has T) (i + 1)).length = (Sn.nums (Nm.has T) i).length) := by
          show _ = _; rw [hn1, show Nm.has T i = false from decide_eq_false hv]; simp
        have hv' : decide (0 ≤ T i) = false := decide_eq_false hv
        generalize (Sn.nums (Nm.has T) i).length = L at *
        generalize T i = x at hc hv hv'
        clear hcs h1 h2 hn1 HDi
        go_wp2
        go_roundg (n + 1 - (i + 1))
        case measure => omega
        case rel => exact ⟨i + 1, by omega, by omega, by go_num, by rw [e.out], HB.out⟩
    · obtain rfl : i = n := by omega
      have hlt' : decide ((i : Int) < (i : Int)) = false := by simp
      have HX5 := Nm.hid (range_keep HX5.out HB.out (by simp))
      have HD5 := Nm.hid (HD5.out.keep0 HB.out)
      have HK := Nm.hid (HK.out.trans HB.out)
      have HX7 := Nm.hid (range_keep HX7.out HB.out (by simp))
      have HD7 := Nm.hid (HD7.out.keep0 HB.out)
      have HC9 := Nm.hid (cell_keep HC9.out HB.out (by simp))
      have HS9 := Nm.hid (HS9.out.keep0 HB.out)
      have HML := Nm.hid HT5.out.mn_len
      have HTL := Nm.hid HT5.out.nums_eq
      obtain ⟨L, hL⟩ : ∃ L, (Sn.nums (Nm.has T) i).length = L := ⟨_, rfl⟩
      rw [hL] at HML ⊢
      have HL := Nm.hid hL
      clear hL hlt hig HB
      obtain ⟨M, hM⟩ : ∃ M, i ≤ M ∧ m ≤ M ∧ (M = i ∨ M = m) := ⟨max i m, by omega⟩
      have HM := Nm.hid hM
      clear hM
      go_wp2
      go_loopg [12, 13] (M + 1) (fun g0 zv iv wx => ∃ (j : Nat) (z : Bool), j + g0 = M + 1 ∧ j ≤ M ∧ iv = .int .i64 j ∧ zv = .bool z ∧ Hid (Nm.Ez z T U j) ∧ wx = wr)
      case atStart => exact ⟨0, true, by omega, by omega, rfl, rfl, Nm.Ez.nil T U, rfl⟩
      case round =>
        obtain ⟨j, z, hjg, hjM, rfl, rfl, HZ, rfl⟩ := hrel
        have HG1 : Hid (Calls Try.prog 22 #[.slice A i c, .int .i64 j] wr fun e w' => e = .returned (.int .i64 (T j)) ∧ wr = w') := by
          have := Nm.rget_c A i c _ T j wr HD5.out
          rwa [HT5.out.rg_at] at this
        have HG2 : Hid (Calls Try.prog 22 #[.slice A' m c', .int .i64 j] wr fun e w' => e = .returned (.int .i64 (U j)) ∧ wr = w') := by
          have := Nm.rget_c A' m c' _ U j wr HD7.out
          rwa [HT7.out.rg_at] at this
        by_cases h1 : j < i
        · have h1I : (j : Int) < (i : Int) := by omega
          have hjM1 : j + 1 ≤ M := by have := HM.out; omega
          cases z with
          | true =>
            by_cases hx : T j = U j
            · have HZ1 := Nm.hid (HZ.out.yes hx)
              rw [hx] at HG1
              have hxx : (U j == U j) = true := beq_self_eq_true _
              clear HZ hx
              go_wp2_with fail
              refine HG1.out.mono ?_
              rintro e w8 ⟨rfl, rfl⟩
              go_wp2_with fail
              refine HG2.out.mono ?_
              rintro e w8 ⟨rfl, rfl⟩
              generalize U j = y at *
              go_wp2
              go_roundg (M + 1 - (j + 1))
              case measure => omega
              case rel => exact ⟨j + 1, true, by omega, by omega, by go_num, rfl, HZ1.out, rfl⟩
            · have HZ1 := Nm.hid (Nm.Ez.no hx)
              have hxx : (T j == U j) = false := by simpa using hx
              clear HZ hx
              go_wp2_with fail
              refine HG1.out.mono ?_
              rintro e w8 ⟨rfl, rfl⟩
              go_wp2_with fail
              refine HG2.out.mono ?_
              rintro e w8 ⟨rfl, rfl⟩
              go_wp2
              go_roundg (M + 1 - (j + 1))
              case measure => omega
              case rel => exact ⟨j + 1, false, by omega, by omega, by go_num, rfl, HZ1.out, rfl⟩
          | false =>
            have HZ1 := Nm.hid HZ.out.still
            clear HZ HG1 HG2
            go_wp2
            go_roundg (M + 1 - (j + 1))
            case measure => omega
            case rel => exact ⟨j + 1, false, by omega, by omega, by go_num, rfl, HZ1.out, rfl⟩
        · have h1I : decide ((j : Int) < (i : Int)) = false := decide_eq_false (by omega)
          by_cases h2 : j < m
          · have h2I : (j : Int) < (m : Int) := by omega
            have hjM1 : j + 1 ≤ M := by have := HM.out; omega
            cases z with
            | true =>
              by_cases hx : T j = U j
              · have HZ1 := Nm.hid (HZ.out.yes hx)
                rw [hx] at HG1
                have hxx : (U j == U j) = true := beq_self_eq_true _
                clear HZ hx
                go_wp2_with fail
                refine HG1.out.mono ?_
                rintro e w8 ⟨rfl, rfl⟩
                go_wp2_with fail
                refine HG2.out.mono ?_
                rintro e w8 ⟨rfl, rfl⟩
                generalize U j = y at *
                go_wp2
                go_roundg (M + 1 - (j + 1))
                case measure => omega
                case rel => exact ⟨j + 1, true, by omega, by omega, by go_num, rfl, HZ1.out, rfl⟩
              · have HZ1 := Nm.hid (Nm.Ez.no hx)
                have hxx : (T j == U j) = false := by simpa using hx
                clear HZ hx
                go_wp2_with fail
                refine HG1.out.mono ?_
                rintro e w8 ⟨rfl, rfl⟩
                go_wp2_with fail
                refine HG2.out.mono ?_
                rintro e w8 ⟨rfl, rfl⟩
                go_wp2
                go_roundg (M + 1 - (j + 1))
                case measure => omega
                case rel => exact ⟨j + 1, false, by omega, by omega, by go_num, rfl, HZ1.out, rfl⟩
            | false =>
              have HZ1 := Nm.hid HZ.out.still
              clear HZ HG1 HG2
              go_wp2
              go_roundg (M + 1 - (j + 1))
              case measure => omega
              case rel => exact ⟨j + 1, false, by omega, by omega, by go_num, rfl, HZ1.out, rfl⟩
          · have h2I : decide ((j : Int) < (m : Int)) = false := decide_eq_false (by omega)
            have HEQ : Hid (Nm.eqT T U = z) := Nm.ez_end HZ.out (fun q hq => by rw [HT5.out.past q (by omega), HT7.out.past q (by omega)]) (fun q hq => by have := HM.out; rw [HT5.out.past q (by omega), HT7.out.past q (by omega)])
            clear HZ HG1 HG2
            have hc9 := HC9.out
            cases z with
            | true =>
              go_wp2_with fail
              refine (Sn.len_c AS nS cS _ (Nm.mn T) _ HS9.out).mono ?_
              rintro e w10 ⟨rfl, k10⟩
              rw [HML.out]
              have HX5 := Nm.hid (range_keep HX5.out k10 (by simp))
              have HX7 := Nm.hid (range_keep HX7.out k10 (by simp))
              have HK := Nm.hid (HK.out.trans k10)
              clear k10
              go_wp2_with (first | (refine wpList_load_mid_g 28 _ rfl b5 0 rfl (Nm.tv T) _ HX5.out Try.underlying28 rfl (Nm.iTab _) rfl ?_))
              refine (Nm.lenK_c T L HT5.out.ok (by rw [HTL.out]; exact HL.out) _).mono ?_
              rintro e w11 ⟨rfl, k11⟩
              have HX5 := Nm.hid (range_keep HX5.out k11 (by simp))
              have HX7 := Nm.hid (range_keep HX7.out k11 (by simp))
              have HK := Nm.hid (HK.out.trans k11)
              clear k11
              go_wp2_with (first | (refine wpList_load_mid_g 28 _ rfl b5 0 rfl (Nm.tv T) _ HX5.out Try.underlying28 rfl (Nm.iTab _) rfl ?_) | (refine wpList_load_mid_g 28 _ rfl b7 0 rfl (Nm.tv U) _ HX7.out Try.underlying28 rfl (Nm.iTab _) rfl ?_))
              refine (Nm.same_c T U _).mono ?_
              rintro e w12 ⟨rfl, k12⟩
              rw [HEQ.out]
              have HX5 := Nm.hid (range_keep HX5.out k12 (by simp))
              have HX7 := Nm.hid (range_keep HX7.out k12 (by simp))
              have HK := Nm.hid (HK.out.trans k12)
              clear k12
              go_wp2_with (first | (refine wpList_load_mid_g 28 _ rfl b5 0 rfl (Nm.tv T) _ HX5.out Try.underlying28 rfl (Nm.iTab _) rfl ?_))
              refine (Nm.same1_c T T _ rfl).mono ?_
              rintro e w13 ⟨rfl, k13⟩
              have HK := Nm.hid (HK.out.trans k13)
              clear k13
              go_wp2_with fail
              refine (Nm.awake_c _).mono ?_
              rintro e w14 ⟨rfl, k14⟩
              have HK := Nm.hid (HK.out.trans k14)
              clear k14
              go_wp2
              go_ret
              exact ⟨rfl, HK.out.below (Nat.le_refl _) (by simp)⟩
            | false =>
              go_wp2_with fail
              refine (Sn.len_c AS nS cS _ (Nm.mn T) _ HS9.out).mono ?_
              rintro e w10 ⟨rfl, k10⟩
              rw [HML.out]
              have HX5 := Nm.hid (range_keep HX5.out k10 (by simp))
              have HX7 := Nm.hid (range_keep HX7.out k10 (by simp))
              have HK := Nm.hid (HK.out.trans k10)
              clear k10
              go_wp2_with (first | (refine wpList_load_mid_g 28 _ rfl b5 0 rfl (Nm.tv T) _ HX5.out Try.underlying28 rfl (Nm.iTab _) rfl ?_))
              refine (Nm.lenK_c T L HT5.out.ok (by rw [HTL.out]; exact HL.out) _).mono ?_
              rintro e w11 ⟨rfl, k11⟩
              have HX5 := Nm.hid (range_keep HX5.out k11 (by simp))
              have HX7 := Nm.hid (range_keep HX7.out k11 (by simp))
              have HK := Nm.hid (HK.out.trans k11)
              clear k11
              go_wp2_with (first | (refine wpList_load_mid_g 28 _ rfl b5 0 rfl (Nm.tv T) _ HX5.out Try.underlying28 rfl (Nm.iTab _) rfl ?_) | (refine wpList_load_mid_g 28 _ rfl b7 0 rfl (Nm.tv U) _ HX7.out Try.underlying28 rfl (Nm.iTab _) rfl ?_))
              refine (Nm.same_c T U _).mono ?_
              rintro e w12 ⟨rfl, k12⟩
              rw [HEQ.out]
              have HX5 := Nm.hid (range_keep HX5.out k12 (by simp))
              have HX7 := Nm.hid (range_keep HX7.out k12 (by simp))
              have HK := Nm.hid (HK.out.trans k12)
              clear k12
              go_wp2_with (first | (refine wpList_load_mid_g 28 _ rfl b5 0 rfl (Nm.tv T) _ HX5.out Try.underlying28 rfl (Nm.iTab _) rfl ?_))
              refine (Nm.same1_c T T _ rfl).mono ?_
              rintro e w13 ⟨rfl, k13⟩
              have HK := Nm.hid (HK.out.trans k13)
              clear k13
              go_wp2_with fail
              refine (Nm.awake_c _).mono ?_
              rintro e w14 ⟨rfl, k14⟩
              have HK := Nm.hid (HK.out.trans k14)
              clear k14
              go_wp2
              go_ret
              exact ⟨rfl, HK.out.below (Nat.le_refl _) (by simp)⟩

set_option maxRecDepth 100000 in
theorem lifted (os : Os) (started : os.Started) (H : Type) (enc : TypeId × Value → H) :
    ReturnsInHanded {} Try.checked os 5 .any (Rows.namesMeantSpec.pre6 enc Try.prog Try.f5 Rows.namesMeantRow.domain false) (Rows.namesMeantSpec.post enc Try.prog Try.f5 false true false false) := by
  refine returnsInHanded_of_change (C := Try.checked) own started (by kernel_rfl) Try.func5
    (ChangeSpec.witness6 (enc := enc) (C := Try.checked) false ⟨#[], #[.slice none 0 0, .slice none 0 0], []⟩ 8 (by kernel_rfl) (by kernel_rfl) (by kernel_rfl) (by kernel_rfl)) ?_
  intro W base args ds gs before hval0 hW hcnd _
  have hval : ∀ (j : Nat) t v, Try.f5.params[j]? = some t → args[j]? = some v → Value.okWide Try.prog W .any base t v := hval0
  have hW' := hW
  obtain ⟨p, q, hA0, hV, rfl, hfz, hnd⟩ := hW
  have hA : DataW.TrodAll enc Try.prog W 0 (fun _ => true) true Try.f5.params.toList args.toList ds p := hA0
  rw [Try.params5] at hA hval
  obtain ⟨v0, vs0, d0, ds0, p0, q0, hargs, rfl, rfl, h0, t0⟩ := trodAll_cons hA
  obtain ⟨v1, vs1, d1, ds1, p1, q1, rfl, rfl, rfl, h1, t1⟩ := trodAll_cons t0
  obtain ⟨rfl, rfl, rfl⟩ := trodAll_nil t1
  obtain rfl : args = #[v0, v1] := by cases args; simp_all
  obtain ⟨rfl, rfl⟩ := trodVars_none hV
  have k0 := h0
  have lt0 : ∀ x ∈ p0, x.block < W.heap.size := by obtain ⟨m, hm⟩ := k0; exact DataW.trod_lt m _ _ _ hm
  have k1 := h1
  have lt1 : ∀ x ∈ p1, x.block < W.heap.size := by obtain ⟨m, hm⟩ := k1; exact DataW.trod_lt m _ _ _ hm
  obtain ⟨A0, len0, cap0, rfl⟩ := okWide_slice Try.underlying22 (hval 0 22 v0 rfl rfl)
  have r0 := rowOf_open Try.underlying22 flatDeed (by decide) h0
  obtain ⟨A1, len1, cap1, rfl⟩ := okWide_slice Try.underlying22 (hval 1 22 v1 rfl rfl)
  have r1 := rowOf_open Try.underlying22 flatDeed (by decide) h1
  clear hA0 hval0
  refine (walk W A0 len0 cap0 r0 A1 len1 cap1 r1).mono fun e W' ⟨he, hg⟩ => ?_
  subst he
  exact ⟨_, rfl, _, _, _, [], _, [], hW', (trodAll_cons_mk (shut_bool Try.underlying4 _) trodAll_mk0), (trodAll_cons_mk (Below.trod laidOut (by kernel_rfl) (of_decide_eq_true (by kernel_rfl)) k0 hg lt0) (trodAll_cons_mk (Below.trod laidOut (by kernel_rfl) (of_decide_eq_true (by kernel_rfl)) k1 hg lt1) trodAll_mk0)), rfl, hg.frame _, (fun h => by cases h)⟩

theorem over : Rows.namesMeantRow.holds Try.pinned (OpenSpec.ofChange Rows.namesMeantSpec) :=
  OpenClaim.holds_of_wide 5 Try.f5 rfl rfl rfl rfl rfl rfl rfl ⟨rfl, rfl, rfl, rfl, rfl⟩ rfl rfl rfl rfl rfl (by kernel_rfl) Try.func5 (by kernel_rfl)
    (of_decide_eq_true (by kernel_rfl)) (by unfold Func.isWrapper; first | (rw [if_pos (by decide +kernel)]; kernel_rfl) | (rw [if_neg (by decide +kernel)]; exact ⟨rfl, rfl⟩))
    (fun os started H enc _ => lifted os started H enc)
end Go.Proofs.Ytfjkbfcfceckgaa.namesMeant
namespace Go.Proofs.Ytfjkbfcfceckgaa
/-- The statement, by its short name. -/
theorem namesMeant_holds : Rows.NamesMeantSaid := namesMeant.over
#print axioms namesMeant_holds
end Go.Proofs.Ytfjkbfcfceckgaa
