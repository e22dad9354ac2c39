/-
  Layer 12 (caps): both trees, the program's and the document's; the contract of the statements' same, over the translated program.
-/
import Derived.Test.YtlppfcoclpdanaaCsRefC
import Derived.Test.YtlppfcoclpdanaaCsDer
import Derived.Test.YtlppfcoclpdanaaSnSame
import Derived.Test.YtlppfcoclpdanaaCsBo
namespace Go.Proofs.Ytlppfcoclpdanaa.Cs
open Go.ChangeShapes Go.WideShapes Go.ChangeAt Go.RowKit
open Wh Sn
set_option linter.unusedVariables false
set_option maxRecDepth 20000

theorem rallN_c (f : Nat → Bool) (L : Nat) (w : World) (hL : (nums f 1024).length = L) : Calls Try.prog 34 #[.agg (bv f).toArray] w (Sn.Told w (nums f 1024) L) :=
  (rall_c f w).mono (fun e w' h => h.told hL)
theorem allN_c (A : Option Addr) (n c lo : Nat) (f : Nat → Bool) (L : Nat) (w : World) (h : SetAt w lo A n f) (hL : (nums f 1024).length = L) : Calls Try.prog 33 #[.agg #[.slice A n c]] w (Sn.Told w (nums f 1024) L) :=
  (all_c A n c lo f w h).mono (fun e w' h => h.told hL)
theorem box_cap (w : World) (x y : Int) (t : TypeId) : (w.alloc (.cells #[.int .i64 x, .int .u64 y] t)).cell? ⟨w.heap.size, 0, none⟩ = some (.int .i64 x) ∧ (w.alloc (.cells #[.int .i64 x, .int .u64 y] t)).cell? ⟨w.heap.size, 1, none⟩ = some (.int .u64 y) :=
  ⟨range_cells (new_range w [.int .i64 x, .int .u64 y] t) 0 _ rfl, range_cells (new_range w [.int .i64 x, .int .u64 y] t) 1 _ rfl⟩
theorem box_set (w : World) (A : Option Addr) (n c : Nat) (t : TypeId) : (w.alloc (.cells #[.slice A n c] t)).cell? ⟨w.heap.size, 0, none⟩ = some (.slice A n c) := range_cells (new_range w [.slice A n c] t) 0 _ rfl
/-- What lies in the boxes of a round of same. -/
structure Sb (wr : World) (T : Tr) (k By Bc Bs Bp : Nat) (A : Option Addr) (n c : Nat) (p g : Int) (wx : World) : Prop where
  y : wx.rangeAt By 0 (nc (T k))
  c0 : wx.cell? ⟨Bc, 0, none⟩ = some (.int .i64 k)
  c1 : wx.cell? ⟨Bc, 1, none⟩ = some (.int .u64 ((T k).gen : Nat))
  s : wx.cell? ⟨Bs, 0, none⟩ = some (.slice A n c)
  set : SetAt wx 0 A n (T k).st
  p0 : wx.cell? ⟨Bp, 0, none⟩ = some (.int .i64 p)
  p1 : wx.cell? ⟨Bp, 1, none⟩ = some (.int .u64 g)
  but : But [] wr wx
set_option maxHeartbeats 8000000 in
theorem tsame_c (bt bx bl m : Nat) {Y : List Nat} (T : Tr) (w : World) (h : Bo w bt bx bl Y T m) :
    Calls Try.prog 12 #[.pointer (some ⟨bt, 0, none⟩), .pointer (some ⟨bx, 0, none⟩)] w fun e w' => e = .returned (.bool true) ∧ But [] w w' := by
  have hz := zNode
  have H := hid h
  clear h
  go_enter Try.func12, Try.ntmps12
  go_wp2
  go_loopg [5, 6] 65 (fun g0 v i wx => ∃ (k : Nat), k + g0 = 65 ∧ k ≤ 64 ∧ i = .int .i64 k ∧ v = .int .i64 ((nums (isP T) k).length : Nat) ∧ Hid (But [] w wx))
  case atStart => exact ⟨0, by omega, by omega, rfl, rfl, But.refl _ _⟩
  case round =>
    obtain ⟨k, hkg, hk, rfl, rfl, HB⟩ := hrel
    by_cases hlt : k < 64
    · have hkI : (k : Int) < 64 := by omega
      have HR := hid (H.out.keep0 HB.out)
      have hc0 := HR.out.rf.c0
      have HNR := hid (HR.out.rf.n hlt)
      obtain ⟨By, hBy⟩ : ∃ By, By = wr.heap.size := ⟨_, rfl⟩
      have hny := new_range wr (nc (T k)) 46
      have HK1 : Hid (But [] wr (wr.alloc (.cells (nc (T k)).toArray 46))) := (But.refl [] wr).alloc _
      rw [← hBy] at hny
      have HY := hid hny
      have hn := nums_succ (isP T) k
      have hle := nums_le (isP T) k
      have hzn := zNode
      go_upto_region 6 with (first
        | (refine wpList_load_mid rfl 46 _ rfl bl (k * 1026) rfl (nc (T k)) _ HNR.out Try.underlying46 rfl (iNode _) ?_)
        | (refine wpList_store_newAt rfl 46 _ _ rfl wr.heap.size rfl (nc nd0).toArray (nc (T k)).toArray rfl rfl (iNode' _) (by rw [ncs, ncs]) (nc_all _) ?_))
      rw [← hBy]
      generalize wr.alloc (.cells (nc (T k)).toArray 46) = w1 at *
      clear hBy hny hc0 hzn
      have hy0 := (nc_st (T k) HY.out).2
      by_cases hg : (T k).gen = 0
      · have HN : Hid ((nums (isP T) (k + 1)).length = (nums (isP T) k).length) := by
          show _ = _
          rw [hn, show isP T k = false from decide_eq_false (by omega)]; simp
        rw [hg] at hy0
        have HB2 := hid (HB.out.trans HK1.out)
        generalize (nums (isP T) k).length = u at *
        clear hn hg
        go_wp2
        go_roundg (65 - (k + 1))
        case measure => omega
        case rel => exact ⟨k + 1, by omega, by omega, by go_num, by rw [HN.out], HB2.out⟩
      · have hgp : 0 < (T k).gen := by omega
        have HGP := hid hgp
        have HI := hid (isB_nat hlt hgp rfl)
        have HSS := hid (setS_yes HI.out)
        have HN : Hid ((nums (isP T) (k + 1)).length = (nums (isP T) k).length + 1) := by
          show _ = _
          rw [hn, show isP T k = true from decide_eq_true hgp]; simp
        have hge : (((T k).gen : Int) == 0) = false := by simp; omega
        have hge2 : ((T k).gen == 0) = false := by simp; omega
        generalize (nums (isP T) k).length = u at *
        have hu1025 : u ≤ 64 := by omega
        obtain ⟨Bc, hBc⟩ : ∃ Bc, Bc = w1.heap.size := ⟨_, rfl⟩
        obtain ⟨hbc0, hbc1⟩ := box_cap w1 k (T k).gen 26
        rw [← hBc] at hbc0 hbc1
        have HC0 := hid hbc0
        have HC1 := hid hbc1
        have HK2 : Hid (But [] w1 (w1.alloc (.cells #[.int .i64 k, .int .u64 ((T k).gen : Nat)] 26))) := (But.refl [] w1).alloc _
        clear hn hbc0 hbc1 hgp hg
        go_upto_region 9 with fail
        rw [← hBc]
        generalize w1.alloc (.cells #[.int .i64 k, .int .u64 ((T k).gen : Nat)] 26) = w2 at *
        clear hBc hy0 hge hge2
        obtain ⟨f, hf⟩ := HR.out.tr
        have HF := hid hf
        have HKr2 := hid (HK1.out.trans HK2.out)
        have hc0 := HC0.out
        have hc1 := HC1.out
        clear hf
        go_wp2_with fail
        clear hc0 hc1
        refine (Set_c bt m (bt :: bx :: bl :: Y) T f k (T k).gen w2 (HF.out.keep0 HKr2.out)).mono ?_
        rintro e w3 ⟨A, n, c, rfl, hs3, ho3, k3⟩
        rw [HI.out]
        rw [HSS.out] at hs3
        obtain ⟨Bs, hBs⟩ : ∃ Bs, Bs = w3.heap.size := ⟨_, rfl⟩
        have hbs := box_set w3 A n c 31
        rw [← hBs] at hbs
        have HBS := hid hbs
        have HK3 : Hid (But [] w2 (w3.alloc (.cells #[.slice A n c] 31))) := k3.alloc _
        have HS3 := hid (hs3.keep0 ((But.refl [] w3).alloc (.cells #[.slice A n c] 31)))
        clear hs3 ho3 k3 hbs
        go_upto_region 10 with fail
        rw [← hBs]
        generalize w3.alloc (.cells #[.slice A n c] 31) = w4 at *
        clear hBs
        have HKr4 := hid (HKr2.out.trans HK3.out)
        have hc0 := cell_keep HC0.out HK3.out (by simp)
        have hc1 := cell_keep HC1.out HK3.out (by simp)
        go_wp2_with fail
        clear hc0 hc1
        refine (Parent_c bt m (bt :: bx :: bl :: Y) T f k (T k).gen w4 (HF.out.keep0 HKr4.out) HR.out.wf).mono ?_
        rintro e w5 ⟨rfl, k5⟩
        obtain ⟨pq, gq, isq, HPV, HPQ⟩ : ∃ (pq gq : Nat) (isq : Bool), Hid (ParV T k (T k).gen = .tuple #[.agg #[.int .i64 pq, .int .u64 gq], .bool isq]) ∧ Hid ((k = 0 ∧ isq = false ∧ (T k).par = -1) ∨ (isq = true ∧ (T k).par = pq ∧ pq < 64 ∧ (T pq).gen = gq)) := by
          by_cases hk0 : k = 0
          · subst hk0
            exact ⟨0, 0, false, ParV_no (by simp), .inl ⟨rfl, rfl, HR.out.wf.rpar⟩⟩
          · obtain ⟨q, hq, hgq, -, -⟩ := HR.out.wf.par k HGP.out hk0
            exact ⟨q, (T q).gen, true, ParV_yes HI.out hk0 hq, .inr ⟨rfl, hq, HR.out.wf.lt q hgq, rfl⟩⟩
        rw [HPV.out]
        obtain ⟨Bp, hBp⟩ : ∃ Bp, Bp = w5.heap.size := ⟨_, rfl⟩
        obtain ⟨hbp0, hbp1⟩ := box_cap w5 pq gq 26
        rw [← hBp] at hbp0 hbp1
        have HP0 := hid hbp0
        have HP1 := hid hbp1
        have HK5 : Hid (But [] w4 (w5.alloc (.cells #[.int .i64 pq, .int .u64 gq] 26))) := k5.alloc _
        clear hbp0 hbp1 k5
        go_upto_region 11 with fail
        rw [← hBp]
        generalize w5.alloc (.cells #[.int .i64 pq, .int .u64 gq] 26) = w6 at *
        clear hBp
        have HSB : Hid (Sb wr T k By Bc Bs Bp A n c pq gq w6) :=
          ⟨range_keep HY.out (HK2.out.trans (HK3.out.trans HK5.out)) (by simp), cell_keep HC0.out (HK3.out.trans HK5.out) (by simp), cell_keep HC1.out (HK3.out.trans HK5.out) (by simp), cell_keep HBS.out HK5.out (by simp), HS3.out.keep0 HK5.out, HP0.out, HP1.out, HKr4.out.trans HK5.out⟩
        clear HY HC0 HC1 HBS HS3 HP0 HP1 HK1 HK2 HK3 HK5 HKr2 HKr4 HPV HSS HNR
        obtain ⟨ln, hln⟩ : ∃ ln, (nums (T k).st 1024).length = ln := ⟨_, rfl⟩
        have HLN := hid hln
        have hl1024 : ln ≤ 1024 := by have := nums_le (T k).st 1024; omega
        have HR6 := hid (HR.out.rf.keep0 HSB.out.but)
        have hyp : w6.cell? ⟨By, 1, none⟩ = some (.int .i64 (T k).par) := HSB.out.y 1 _ (nc_1 (T k))
        have hyr := (nc_st (T k) HSB.out.y).1
        have HYR := hid hyr
        clear hln hyr
        rcases HPQ.out with ⟨hk0, his, hpar⟩ | ⟨his, hpar, hp64, hgq⟩
        · subst his
          rw [hpar] at hyp
          have HYP := hid hyp
          clear hyp hpar hk0
          refine wp_region_noPanic ?_
          refine wp_region_held_drew (S := fun w' => But [] w6 w') (by kernel_rfl) (But.refl _ _).drew (fun hS0 => ?_)
          generalize w6.drew = wd at *
          refine held_take 0 (some 45) (.bool true) rfl rfl (by kernel_rfl) (by kernel_rfl) (by kernel_rfl) (fun _ _ _ h => h) (Or.inl ⟨by rfl, fun w' hw' => by go_simp⟩) hS0 ?_
          simp only [Act.put, List.setIfInBounds_toArray, List.set_cons_zero, List.set_cons_succ]
          refine held_take 1 (some 46) (.bool false) rfl rfl (by kernel_rfl) (by kernel_rfl) (by kernel_rfl) (fun _ _ _ h => h) (Or.inl ⟨by rfl, fun w' hw' => by go_simp⟩) hS0 ?_
          simp only [Act.put, List.setIfInBounds_toArray, List.set_cons_zero, List.set_cons_succ]
          refine held_take 2 (some 47) (.bool false) rfl rfl (by kernel_rfl) (by kernel_rfl) (by kernel_rfl) (fun _ _ _ h => h) (Or.inl ⟨by rfl, fun w' hw' => by go_simp⟩) hS0 ?_
          simp only [Act.put, List.setIfInBounds_toArray, List.set_cons_zero, List.set_cons_succ]
          refine held_take 3 (some 48) (.agg #[.slice A n c]) rfl rfl (by kernel_rfl) (by kernel_rfl) (by kernel_rfl) (fun _ _ _ h => h) (Or.inl ⟨by rfl, fun w' hw' => by have hq0 := cell_keep HSB.out.s hw' (by simp); go_simp⟩) hS0 ?_
          simp only [Act.put, List.setIfInBounds_toArray, List.set_cons_zero, List.set_cons_succ]
          refine held_take 5 (some 50) (.pointer (some ⟨By, 2, none⟩)) rfl rfl (by kernel_rfl) (by kernel_rfl) (by kernel_rfl) (fun _ _ _ h => h) (Or.inl ⟨by rfl, fun w' hw' => by go_simp⟩) hS0 ?_
          simp only [Act.put, List.setIfInBounds_toArray, List.set_cons_zero, List.set_cons_succ]
          refine held_take 6 (some 51) (.agg (bv (T k).st).toArray) rfl rfl (by kernel_rfl) (by kernel_rfl) (by kernel_rfl) (fun _ _ _ h => h) (yieldsIf_load_mid (by rfl) _ _ rfl By 2 rfl (bv (T k).st) _ (fun w' h => range_keep HYR.out h (by simp)) Try.underlying36 rfl (iSet _)) hS0 ?_
          simp only [Act.put, List.setIfInBounds_toArray, List.set_cons_zero, List.set_cons_succ]
          refine held_one 4 rfl (by kernel_rfl) (by rfl) (fun K hK => ?_)
          go_simp
          refine (allN_c A n c _ (T k).st ln _ (HSB.out.set.keep0 hS0) HLN.out).mono ?_
          rintro e w21 ⟨A1, c1, rfl, hl1, k21, -⟩
          go_wp2_with fail
          have hS1' : But [] w6 w21 := hS0.trans k21
          have hl1K := hl1
          refine hK.out _ _ hS1' (fun hS1 => ?_)
          clear hK K
          try simp only [Act.put, List.setIfInBounds_toArray, List.set_cons_zero, List.set_cons_succ]
          refine held_one 7 rfl (by kernel_rfl) (by rfl) (fun K hK => ?_)
          go_simp
          refine (rallN_c (T k).st ln _ HLN.out).mono ?_
          rintro e w22 ⟨A2, c2, rfl, hl2, k22, -⟩
          go_wp2_with fail
          have hS2' : But [] w6 w22 := hS1.trans k22
          have hl1K := hl1K.keep k22
          refine hK.out _ _ hS2' (fun hS2 => ?_)
          clear hK K
          try simp only [Act.put, List.setIfInBounds_toArray, List.set_cons_zero, List.set_cons_succ]
          refine held_one 8 rfl (by kernel_rfl) (by rfl) (fun K hK => ?_)
          go_simp
          refine (ints_c A1 A2 ln c1 c2 _ _ HLN.out (by omega) hl1K hl2).mono ?_
          rintro e w23 ⟨rfl, k23⟩
          go_wp2_with fail
          have hS3' : But [] w6 w23 := hS2.trans k23
          skip
          refine hK.out _ _ hS3' (fun hS3 => ?_)
          clear hK K
          try simp only [Act.put, List.setIfInBounds_toArray, List.set_cons_zero, List.set_cons_succ]
          refine held_take 9 (some 54) (.bool false) rfl rfl (by kernel_rfl) (by kernel_rfl) (by kernel_rfl) (fun _ _ _ h => h) (Or.inl ⟨by rfl, fun w' hw' => by go_simp⟩) hS3 ?_
          simp only [Act.put, List.setIfInBounds_toArray, List.set_cons_zero, List.set_cons_succ]
          refine held_take 10 (some 55) (.bool false) rfl rfl (by kernel_rfl) (by kernel_rfl) (by kernel_rfl) (fun _ _ _ h => h) (Or.inl ⟨by rfl, fun w' hw' => by go_simp⟩) hS3 ?_
          simp only [Act.put, List.setIfInBounds_toArray, List.set_cons_zero, List.set_cons_succ]
          refine held_take 11 (some 56) (.bool false) rfl rfl (by kernel_rfl) (by kernel_rfl) (by kernel_rfl) (fun _ _ _ h => h) (Or.inl ⟨by rfl, fun w' hw' => by go_simp⟩) hS3 ?_
          simp only [Act.put, List.setIfInBounds_toArray, List.set_cons_zero, List.set_cons_succ]
          refine held_take 12 (some 57) (.bool false) rfl rfl (by kernel_rfl) (by kernel_rfl) (by kernel_rfl) (fun _ _ _ h => h) (Or.inl ⟨by rfl, fun w' hw' => by go_simp⟩) hS3 ?_
          simp only [Act.put, List.setIfInBounds_toArray, List.set_cons_zero, List.set_cons_succ]
          refine held_take 13 (some 58) (.pointer (some ⟨By, 1, none⟩)) rfl rfl (by kernel_rfl) (by kernel_rfl) (by kernel_rfl) (fun _ _ _ h => h) (Or.inl ⟨by rfl, fun w' hw' => by go_simp⟩) hS3 ?_
          simp only [Act.put, List.setIfInBounds_toArray, List.set_cons_zero, List.set_cons_succ]
          refine held_take 14 (some 59) (.int .i64 (-1)) rfl rfl (by kernel_rfl) (by kernel_rfl) (by kernel_rfl) (fun _ _ _ h => h) (Or.inl ⟨by rfl, fun w' hw' => by have hq0 := cell_keep HYP.out hw' (by simp); go_simp⟩) hS3 ?_
          simp only [Act.put, List.setIfInBounds_toArray, List.set_cons_zero, List.set_cons_succ]
          refine held_take 15 (some 60) (.bool false) rfl rfl (by kernel_rfl) (by kernel_rfl) (by kernel_rfl) (fun _ _ _ h => h) (Or.inl ⟨by rfl, fun w' hw' => by go_simp⟩) hS3 ?_
          simp only [Act.put, List.setIfInBounds_toArray, List.set_cons_zero, List.set_cons_succ]
          refine held_take 16 (some 61) (.bool false) rfl rfl (by kernel_rfl) (by kernel_rfl) (by kernel_rfl) (fun _ _ _ h => h) (Or.inl ⟨by rfl, fun w' hw' => by go_simp⟩) hS3 ?_
          simp only [Act.put, List.setIfInBounds_toArray, List.set_cons_zero, List.set_cons_succ]
          refine held_take 17 (some 62) (.bool false) rfl rfl (by kernel_rfl) (by kernel_rfl) (by kernel_rfl) (fun _ _ _ h => h) (Or.inl ⟨by rfl, fun w' hw' => by go_simp⟩) hS3 ?_
          simp only [Act.put, List.setIfInBounds_toArray, List.set_cons_zero, List.set_cons_succ]
          refine held_take 18 (some 63) (.bool false) rfl rfl (by kernel_rfl) (by kernel_rfl) (by kernel_rfl) (fun _ _ _ h => h) (Or.inl ⟨by rfl, fun w' hw' => by go_simp⟩) hS3 ?_
          simp only [Act.put, List.setIfInBounds_toArray, List.set_cons_zero, List.set_cons_succ]
          refine held_take 19 (some 64) (.bool false) rfl rfl (by kernel_rfl) (by kernel_rfl) (by kernel_rfl) (fun _ _ _ h => h) (Or.inl ⟨by rfl, fun w' hw' => by go_simp⟩) hS3 ?_
          simp only [Act.put, List.setIfInBounds_toArray, List.set_cons_zero, List.set_cons_succ]
          refine held_take 20 (some 65) (.bool false) rfl rfl (by kernel_rfl) (by kernel_rfl) (by kernel_rfl) (fun _ _ _ h => h) (Or.inl ⟨by rfl, fun w' hw' => by go_simp⟩) hS3 ?_
          simp only [Act.put, List.setIfInBounds_toArray, List.set_cons_zero, List.set_cons_succ]
          refine held_take 21 (some 66) undef rfl rfl (by kernel_rfl) (by kernel_rfl) (by kernel_rfl) (fun _ _ _ h => h) (Or.inr ⟨by rfl, rfl⟩) hS3 ?_
          simp only [Act.put, List.setIfInBounds_toArray, List.set_cons_zero, List.set_cons_succ]
          refine held_take 22 (some 67) undef rfl rfl (by kernel_rfl) (by kernel_rfl) (by kernel_rfl) (fun _ _ _ h => h) (Or.inr ⟨by rfl, rfl⟩) hS3 ?_
          simp only [Act.put, List.setIfInBounds_toArray, List.set_cons_zero, List.set_cons_succ]
          refine held_take 23 (some 68) undef rfl rfl (by kernel_rfl) (by kernel_rfl) (by kernel_rfl) (fun _ _ _ h => h) (Or.inr ⟨by rfl, rfl⟩) hS3 ?_
          simp only [Act.put, List.setIfInBounds_toArray, List.set_cons_zero, List.set_cons_succ]
          refine held_take 24 (some 69) undef rfl rfl (by kernel_rfl) (by kernel_rfl) (by kernel_rfl) (fun _ _ _ h => h) (Or.inr ⟨by rfl, rfl⟩) hS3 ?_
          simp only [Act.put, List.setIfInBounds_toArray, List.set_cons_zero, List.set_cons_succ]
          refine held_take 25 (some 70) undef rfl rfl (by kernel_rfl) (by kernel_rfl) (by kernel_rfl) (fun _ _ _ h => h) (Or.inr ⟨by rfl, rfl⟩) hS3 ?_
          simp only [Act.put, List.setIfInBounds_toArray, List.set_cons_zero, List.set_cons_succ]
          refine held_take 26 (some 71) undef rfl rfl (by kernel_rfl) (by kernel_rfl) (by kernel_rfl) (fun _ _ _ h => h) (Or.inr ⟨by rfl, rfl⟩) hS3 ?_
          simp only [Act.put, List.setIfInBounds_toArray, List.set_cons_zero, List.set_cons_succ]
          refine held_take 27 (some 72) undef rfl rfl (by kernel_rfl) (by kernel_rfl) (by kernel_rfl) (fun _ _ _ h => h) (Or.inr ⟨by rfl, rfl⟩) hS3 ?_
          simp only [Act.put, List.setIfInBounds_toArray, List.set_cons_zero, List.set_cons_succ]
          refine held_take 28 (some 73) undef rfl rfl (by kernel_rfl) (by kernel_rfl) (by kernel_rfl) (fun _ _ _ h => h) (Or.inr ⟨by rfl, rfl⟩) hS3 ?_
          simp only [Act.put, List.setIfInBounds_toArray, List.set_cons_zero, List.set_cons_succ]
          refine held_take 29 (some 74) undef rfl rfl (by kernel_rfl) (by kernel_rfl) (by kernel_rfl) (fun _ _ _ h => h) (Or.inr ⟨by rfl, rfl⟩) hS3 ?_
          simp only [Act.put, List.setIfInBounds_toArray, List.set_cons_zero, List.set_cons_succ]
          refine held_take 30 (some 75) undef rfl rfl (by kernel_rfl) (by kernel_rfl) (by kernel_rfl) (fun _ _ _ h => h) (Or.inr ⟨by rfl, rfl⟩) hS3 ?_
          simp only [Act.put, List.setIfInBounds_toArray, List.set_cons_zero, List.set_cons_succ]
          refine held_take 31 (some 76) undef rfl rfl (by kernel_rfl) (by kernel_rfl) (by kernel_rfl) (fun _ _ _ h => h) (Or.inr ⟨by rfl, rfl⟩) hS3 ?_
          simp only [Act.put, List.setIfInBounds_toArray, List.set_cons_zero, List.set_cons_succ]
          refine held_take 32 (some 77) undef rfl rfl (by kernel_rfl) (by kernel_rfl) (by kernel_rfl) (fun _ _ _ h => h) (Or.inr ⟨by rfl, rfl⟩) hS3 ?_
          simp only [Act.put, List.setIfInBounds_toArray, List.set_cons_zero, List.set_cons_succ]
          refine held_take 33 (some 78) undef rfl rfl (by kernel_rfl) (by kernel_rfl) (by kernel_rfl) (fun _ _ _ h => h) (Or.inr ⟨by rfl, rfl⟩) hS3 ?_
          simp only [Act.put, List.setIfInBounds_toArray, List.set_cons_zero, List.set_cons_succ]
          refine held_take 34 (some 79) undef rfl rfl (by kernel_rfl) (by kernel_rfl) (by kernel_rfl) (fun _ _ _ h => h) (Or.inr ⟨by rfl, rfl⟩) hS3 ?_
          simp only [Act.put, List.setIfInBounds_toArray, List.set_cons_zero, List.set_cons_succ]
          refine held_take 35 (some 80) undef rfl rfl (by kernel_rfl) (by kernel_rfl) (by kernel_rfl) (fun _ _ _ h => h) (Or.inr ⟨by rfl, rfl⟩) hS3 ?_
          simp only [Act.put, List.setIfInBounds_toArray, List.set_cons_zero, List.set_cons_succ]
          refine held_take 36 (some 81) undef rfl rfl (by kernel_rfl) (by kernel_rfl) (by kernel_rfl) (fun _ _ _ h => h) (Or.inr ⟨by rfl, rfl⟩) hS3 ?_
          simp only [Act.put, List.setIfInBounds_toArray, List.set_cons_zero, List.set_cons_succ]
          refine held_take 37 (some 82) undef rfl rfl (by kernel_rfl) (by kernel_rfl) (by kernel_rfl) (fun _ _ _ h => h) (Or.inr ⟨by rfl, rfl⟩) hS3 ?_
          simp only [Act.put, List.setIfInBounds_toArray, List.set_cons_zero, List.set_cons_succ]
          refine held_take 38 (some 83) undef rfl rfl (by kernel_rfl) (by kernel_rfl) (by kernel_rfl) (fun _ _ _ h => h) (Or.inr ⟨by rfl, rfl⟩) hS3 ?_
          simp only [Act.put, List.setIfInBounds_toArray, List.set_cons_zero, List.set_cons_succ]
          refine held_take 39 (some 84) undef rfl rfl (by kernel_rfl) (by kernel_rfl) (by kernel_rfl) (fun _ _ _ h => h) (Or.inr ⟨by rfl, rfl⟩) hS3 ?_
          simp only [Act.put, List.setIfInBounds_toArray, List.set_cons_zero, List.set_cons_succ]
          refine held_take 40 (some 85) (.bool false) rfl rfl (by kernel_rfl) (by kernel_rfl) (by kernel_rfl) (fun _ _ _ h => h) (Or.inl ⟨by rfl, fun w' hw' => by go_simp⟩) hS3 ?_
          simp only [Act.put, List.setIfInBounds_toArray, List.set_cons_zero, List.set_cons_succ]
          refine held_take 41 (some 86) (.bool false) rfl rfl (by kernel_rfl) (by kernel_rfl) (by kernel_rfl) (fun _ _ _ h => h) (Or.inl ⟨by rfl, fun w' hw' => by go_simp⟩) hS3 ?_
          simp only [Act.put, List.setIfInBounds_toArray, List.set_cons_zero, List.set_cons_succ]
          refine wpAnyH_done (by kernel_rfl) ?_ _
          refine NoPanic.normal ?_
          have hS7 := hS3
          clear hS3 hl1 hl2 hl1K
          generalize w23 = w7 at *
          have HB7 := hid (HB.out.trans (HSB.out.but.trans hS7))
          have hc0 := cell_keep HSB.out.c0 hS7 (by simp)
          have hc1 := cell_keep HSB.out.c1 hS7 (by simp)
          have HF7 := hid (HF.out.keep0 (HSB.out.but.trans hS7))
          have HR7 := hid (HR6.out.keep0 hS7)
          clear hS7 HYP HYR HSB
          go_wp2_with fail
          refine (Lent_c bt m (bt :: bx :: bl :: Y) T f k (T k).gen w7 HF7.out HR.out.wf.lim).mono ?_
          rintro e w8 ⟨A8, n8, c8, rfl, hs8, k8⟩
          rw [lentG_yes HI.out] at hs8
          have HS8 := hid hs8
          have HB8 := hid (HB7.out.trans k8)
          have HR8 := hid (HR7.out.keep0 k8)
          clear hs8 k8 hc0 hc1
          go_wp2_with fail
          refine (rLent_c bx bl m T k w8 HR8.out).mono ?_
          rintro e w9 ⟨rfl, k9⟩
          have HS9 := hid (HS8.out.keep0 k9)
          have HB9 := hid (HB8.out.trans k9)
          clear k9
          go_wp2_with fail
          refine (Sn.same_c A8 n8 c8 _ (lentS T k) w9 HS9.out).mono ?_
          rintro e w10 ⟨rfl, k10⟩
          have HB10 := hid (HB9.out.trans k10)
          clear k10
          go_wp2
          go_roundg (65 - (k + 1))
          case measure => omega
          case rel => exact ⟨k + 1, by omega, by omega, by go_num, by rw [HN.out]; go_num, HB10.out⟩
        · subst his
          rw [hpar] at hyp
          have HYP := hid hyp
          have hxg := HR6.out.g hp64
          rw [hgq] at hxg
          have HXG := hid hxg
          have hpI : (pq : Int) < 64 := by omega
          clear hyp hpar hxg hgq
          refine wp_region_noPanic ?_
          refine wp_region_held_drew (S := fun w' => But [] w6 w') (by kernel_rfl) (But.refl _ _).drew (fun hS0 => ?_)
          generalize w6.drew = wd at *
          refine held_take 0 (some 45) (.bool true) rfl rfl (by kernel_rfl) (by kernel_rfl) (by kernel_rfl) (fun _ _ _ h => h) (Or.inl ⟨by rfl, fun w' hw' => by go_simp⟩) hS0 ?_
          simp only [Act.put, List.setIfInBounds_toArray, List.set_cons_zero, List.set_cons_succ]
          refine held_take 1 (some 46) (.bool false) rfl rfl (by kernel_rfl) (by kernel_rfl) (by kernel_rfl) (fun _ _ _ h => h) (Or.inl ⟨by rfl, fun w' hw' => by go_simp⟩) hS0 ?_
          simp only [Act.put, List.setIfInBounds_toArray, List.set_cons_zero, List.set_cons_succ]
          refine held_take 2 (some 47) (.bool false) rfl rfl (by kernel_rfl) (by kernel_rfl) (by kernel_rfl) (fun _ _ _ h => h) (Or.inl ⟨by rfl, fun w' hw' => by go_simp⟩) hS0 ?_
          simp only [Act.put, List.setIfInBounds_toArray, List.set_cons_zero, List.set_cons_succ]
          refine held_take 3 (some 48) (.agg #[.slice A n c]) rfl rfl (by kernel_rfl) (by kernel_rfl) (by kernel_rfl) (fun _ _ _ h => h) (Or.inl ⟨by rfl, fun w' hw' => by have hq0 := cell_keep HSB.out.s hw' (by simp); go_simp⟩) hS0 ?_
          simp only [Act.put, List.setIfInBounds_toArray, List.set_cons_zero, List.set_cons_succ]
          refine held_take 5 (some 50) (.pointer (some ⟨By, 2, none⟩)) rfl rfl (by kernel_rfl) (by kernel_rfl) (by kernel_rfl) (fun _ _ _ h => h) (Or.inl ⟨by rfl, fun w' hw' => by go_simp⟩) hS0 ?_
          simp only [Act.put, List.setIfInBounds_toArray, List.set_cons_zero, List.set_cons_succ]
          refine held_take 6 (some 51) (.agg (bv (T k).st).toArray) rfl rfl (by kernel_rfl) (by kernel_rfl) (by kernel_rfl) (fun _ _ _ h => h) (yieldsIf_load_mid (by rfl) _ _ rfl By 2 rfl (bv (T k).st) _ (fun w' h => range_keep HYR.out h (by simp)) Try.underlying36 rfl (iSet _)) hS0 ?_
          simp only [Act.put, List.setIfInBounds_toArray, List.set_cons_zero, List.set_cons_succ]
          refine held_one 4 rfl (by kernel_rfl) (by rfl) (fun K hK => ?_)
          go_simp
          refine (allN_c A n c _ (T k).st ln _ (HSB.out.set.keep0 hS0) HLN.out).mono ?_
          rintro e w21 ⟨A1, c1, rfl, hl1, k21, -⟩
          go_wp2_with fail
          have hS1' : But [] w6 w21 := hS0.trans k21
          have hl1K := hl1
          refine hK.out _ _ hS1' (fun hS1 => ?_)
          clear hK K
          try simp only [Act.put, List.setIfInBounds_toArray, List.set_cons_zero, List.set_cons_succ]
          refine held_one 7 rfl (by kernel_rfl) (by rfl) (fun K hK => ?_)
          go_simp
          refine (rallN_c (T k).st ln _ HLN.out).mono ?_
          rintro e w22 ⟨A2, c2, rfl, hl2, k22, -⟩
          go_wp2_with fail
          have hS2' : But [] w6 w22 := hS1.trans k22
          have hl1K := hl1K.keep k22
          refine hK.out _ _ hS2' (fun hS2 => ?_)
          clear hK K
          try simp only [Act.put, List.setIfInBounds_toArray, List.set_cons_zero, List.set_cons_succ]
          refine held_one 8 rfl (by kernel_rfl) (by rfl) (fun K hK => ?_)
          go_simp
          refine (ints_c A1 A2 ln c1 c2 _ _ HLN.out (by omega) hl1K hl2).mono ?_
          rintro e w23 ⟨rfl, k23⟩
          go_wp2_with fail
          have hS3' : But [] w6 w23 := hS2.trans k23
          skip
          refine hK.out _ _ hS3' (fun hS3 => ?_)
          clear hK K
          try simp only [Act.put, List.setIfInBounds_toArray, List.set_cons_zero, List.set_cons_succ]
          refine held_take 9 (some 54) (.bool false) rfl rfl (by kernel_rfl) (by kernel_rfl) (by kernel_rfl) (fun _ _ _ h => h) (Or.inl ⟨by rfl, fun w' hw' => by go_simp⟩) hS3 ?_
          simp only [Act.put, List.setIfInBounds_toArray, List.set_cons_zero, List.set_cons_succ]
          refine held_take 10 (some 55) (.bool false) rfl rfl (by kernel_rfl) (by kernel_rfl) (by kernel_rfl) (fun _ _ _ h => h) (Or.inl ⟨by rfl, fun w' hw' => by go_simp⟩) hS3 ?_
          simp only [Act.put, List.setIfInBounds_toArray, List.set_cons_zero, List.set_cons_succ]
          refine held_take 11 (some 56) (.bool false) rfl rfl (by kernel_rfl) (by kernel_rfl) (by kernel_rfl) (fun _ _ _ h => h) (Or.inl ⟨by rfl, fun w' hw' => by go_simp⟩) hS3 ?_
          simp only [Act.put, List.setIfInBounds_toArray, List.set_cons_zero, List.set_cons_succ]
          refine held_take 12 (some 57) (.bool true) rfl rfl (by kernel_rfl) (by kernel_rfl) (by kernel_rfl) (fun _ _ _ h => h) (Or.inl ⟨by rfl, fun w' hw' => by go_simp⟩) hS3 ?_
          simp only [Act.put, List.setIfInBounds_toArray, List.set_cons_zero, List.set_cons_succ]
          refine held_take 13 (some 58) (.pointer (some ⟨By, 1, none⟩)) rfl rfl (by kernel_rfl) (by kernel_rfl) (by kernel_rfl) (fun _ _ _ h => h) (Or.inl ⟨by rfl, fun w' hw' => by go_simp⟩) hS3 ?_
          simp only [Act.put, List.setIfInBounds_toArray, List.set_cons_zero, List.set_cons_succ]
          refine held_take 14 (some 59) (.int .i64 pq) rfl rfl (by kernel_rfl) (by kernel_rfl) (by kernel_rfl) (fun _ _ _ h => h) (Or.inl ⟨by rfl, fun w' hw' => by have hq0 := cell_keep HYP.out hw' (by simp); go_simp⟩) hS3 ?_
          simp only [Act.put, List.setIfInBounds_toArray, List.set_cons_zero, List.set_cons_succ]
          refine held_take 15 (some 60) (.bool true) rfl rfl (by kernel_rfl) (by kernel_rfl) (by kernel_rfl) (fun _ _ _ h => h) (Or.inl ⟨by rfl, fun w' hw' => by go_simp⟩) hS3 ?_
          simp only [Act.put, List.setIfInBounds_toArray, List.set_cons_zero, List.set_cons_succ]
          refine held_take 16 (some 61) (.bool false) rfl rfl (by kernel_rfl) (by kernel_rfl) (by kernel_rfl) (fun _ _ _ h => h) (Or.inl ⟨by rfl, fun w' hw' => by go_simp⟩) hS3 ?_
          simp only [Act.put, List.setIfInBounds_toArray, List.set_cons_zero, List.set_cons_succ]
          refine held_take 17 (some 62) (.bool false) rfl rfl (by kernel_rfl) (by kernel_rfl) (by kernel_rfl) (fun _ _ _ h => h) (Or.inl ⟨by rfl, fun w' hw' => by go_simp⟩) hS3 ?_
          simp only [Act.put, List.setIfInBounds_toArray, List.set_cons_zero, List.set_cons_succ]
          refine held_take 18 (some 63) (.bool false) rfl rfl (by kernel_rfl) (by kernel_rfl) (by kernel_rfl) (fun _ _ _ h => h) (Or.inl ⟨by rfl, fun w' hw' => by go_simp⟩) hS3 ?_
          simp only [Act.put, List.setIfInBounds_toArray, List.set_cons_zero, List.set_cons_succ]
          refine held_take 19 (some 64) (.bool true) rfl rfl (by kernel_rfl) (by kernel_rfl) (by kernel_rfl) (fun _ _ _ h => h) (Or.inl ⟨by rfl, fun w' hw' => by go_simp⟩) hS3 ?_
          simp only [Act.put, List.setIfInBounds_toArray, List.set_cons_zero, List.set_cons_succ]
          refine held_take 20 (some 65) (.bool true) rfl rfl (by kernel_rfl) (by kernel_rfl) (by kernel_rfl) (fun _ _ _ h => h) (Or.inl ⟨by rfl, fun w' hw' => by go_simp⟩) hS3 ?_
          simp only [Act.put, List.setIfInBounds_toArray, List.set_cons_zero, List.set_cons_succ]
          refine held_take 21 (some 66) (.pointer (some ⟨Bp, 0, none⟩)) rfl rfl (by kernel_rfl) (by kernel_rfl) (by kernel_rfl) (fun _ _ _ h => h) (Or.inl ⟨by rfl, fun w' hw' => by go_simp⟩) hS3 ?_
          simp only [Act.put, List.setIfInBounds_toArray, List.set_cons_zero, List.set_cons_succ]
          refine held_take 22 (some 67) (.int .i64 pq) rfl rfl (by kernel_rfl) (by kernel_rfl) (by kernel_rfl) (fun _ _ _ h => h) (Or.inl ⟨by rfl, fun w' hw' => by have hq0 := cell_keep HSB.out.p0 hw' (by simp); go_simp⟩) hS3 ?_
          simp only [Act.put, List.setIfInBounds_toArray, List.set_cons_zero, List.set_cons_succ]
          refine held_take 23 (some 68) (.pointer (some ⟨By, 1, none⟩)) rfl rfl (by kernel_rfl) (by kernel_rfl) (by kernel_rfl) (fun _ _ _ h => h) (Or.inl ⟨by rfl, fun w' hw' => by go_simp⟩) hS3 ?_
          simp only [Act.put, List.setIfInBounds_toArray, List.set_cons_zero, List.set_cons_succ]
          refine held_take 24 (some 69) (.int .i64 pq) rfl rfl (by kernel_rfl) (by kernel_rfl) (by kernel_rfl) (fun _ _ _ h => h) (Or.inl ⟨by rfl, fun w' hw' => by have hq0 := cell_keep HYP.out hw' (by simp); go_simp⟩) hS3 ?_
          simp only [Act.put, List.setIfInBounds_toArray, List.set_cons_zero, List.set_cons_succ]
          refine held_take 25 (some 70) (.bool false) rfl rfl (by kernel_rfl) (by kernel_rfl) (by kernel_rfl) (fun _ _ _ h => h) (Or.inl ⟨by rfl, fun w' hw' => by go_simp⟩) hS3 ?_
          simp only [Act.put, List.setIfInBounds_toArray, List.set_cons_zero, List.set_cons_succ]
          refine held_take 26 (some 71) (.bool false) rfl rfl (by kernel_rfl) (by kernel_rfl) (by kernel_rfl) (fun _ _ _ h => h) (Or.inl ⟨by rfl, fun w' hw' => by go_simp⟩) hS3 ?_
          simp only [Act.put, List.setIfInBounds_toArray, List.set_cons_zero, List.set_cons_succ]
          refine held_take 27 (some 72) (.pointer (some ⟨Bp, 1, none⟩)) rfl rfl (by kernel_rfl) (by kernel_rfl) (by kernel_rfl) (fun _ _ _ h => h) (Or.inl ⟨by rfl, fun w' hw' => by go_simp⟩) hS3 ?_
          simp only [Act.put, List.setIfInBounds_toArray, List.set_cons_zero, List.set_cons_succ]
          refine held_take 28 (some 73) (.int .u64 gq) rfl rfl (by kernel_rfl) (by kernel_rfl) (by kernel_rfl) (fun _ _ _ h => h) (Or.inl ⟨by rfl, fun w' hw' => by have hq0 := cell_keep HSB.out.p1 hw' (by simp); go_simp⟩) hS3 ?_
          simp only [Act.put, List.setIfInBounds_toArray, List.set_cons_zero, List.set_cons_succ]
          refine held_take 29 (some 74) (.pointer (some ⟨bx, 0, none⟩)) rfl rfl (by kernel_rfl) (by kernel_rfl) (by kernel_rfl) (fun _ _ _ h => h) (Or.inl ⟨by rfl, fun w' hw' => by go_simp⟩) hS3 ?_
          simp only [Act.put, List.setIfInBounds_toArray, List.set_cons_zero, List.set_cons_succ]
          refine held_take 30 (some 75) (.pointer (some ⟨bx, 0, none⟩)) rfl rfl (by kernel_rfl) (by kernel_rfl) (by kernel_rfl) (fun _ _ _ h => h) (Or.inl ⟨by rfl, fun w' hw' => by go_simp⟩) hS3 ?_
          simp only [Act.put, List.setIfInBounds_toArray, List.set_cons_zero, List.set_cons_succ]
          refine held_take 31 (some 76) (.pointer (some ⟨bx, 0, none⟩)) rfl rfl (by kernel_rfl) (by kernel_rfl) (by kernel_rfl) (fun _ _ _ h => h) (Or.inl ⟨by rfl, fun w' hw' => by go_simp⟩) hS3 ?_
          simp only [Act.put, List.setIfInBounds_toArray, List.set_cons_zero, List.set_cons_succ]
          refine held_take 32 (some 77) (.slice (some ⟨bl, 0, none⟩) 64 64) rfl rfl (by kernel_rfl) (by kernel_rfl) (by kernel_rfl) (fun _ _ _ h => h) (Or.inl ⟨by rfl, fun w' hw' => by have hq0 := cell_keep HR6.out.c0 hw' (by simp); go_simp⟩) hS3 ?_
          simp only [Act.put, List.setIfInBounds_toArray, List.set_cons_zero, List.set_cons_succ]
          refine held_take 33 (some 78) (.pointer (some ⟨By, 1, none⟩)) rfl rfl (by kernel_rfl) (by kernel_rfl) (by kernel_rfl) (fun _ _ _ h => h) (Or.inl ⟨by rfl, fun w' hw' => by go_simp⟩) hS3 ?_
          simp only [Act.put, List.setIfInBounds_toArray, List.set_cons_zero, List.set_cons_succ]
          refine held_take 34 (some 79) (.int .i64 pq) rfl rfl (by kernel_rfl) (by kernel_rfl) (by kernel_rfl) (fun _ _ _ h => h) (Or.inl ⟨by rfl, fun w' hw' => by have hq0 := cell_keep HYP.out hw' (by simp); go_simp⟩) hS3 ?_
          simp only [Act.put, List.setIfInBounds_toArray, List.set_cons_zero, List.set_cons_succ]
          refine held_take 35 (some 80) (.pointer (some ⟨bl, pq * 1026, none⟩)) rfl rfl (by kernel_rfl) (by kernel_rfl) (by kernel_rfl) (fun _ _ _ h => h) (Or.inl ⟨by rfl, fun w' hw' => by go_simp⟩) hS3 ?_
          simp only [Act.put, List.setIfInBounds_toArray, List.set_cons_zero, List.set_cons_succ]
          refine held_take 36 (some 81) (.pointer (some ⟨bl, pq * 1026, none⟩)) rfl rfl (by kernel_rfl) (by kernel_rfl) (by kernel_rfl) (fun _ _ _ h => h) (Or.inl ⟨by rfl, fun w' hw' => by go_simp⟩) hS3 ?_
          simp only [Act.put, List.setIfInBounds_toArray, List.set_cons_zero, List.set_cons_succ]
          refine held_take 37 (some 82) (.int .u64 gq) rfl rfl (by kernel_rfl) (by kernel_rfl) (by kernel_rfl) (fun _ _ _ h => h) (Or.inl ⟨by rfl, fun w' hw' => by have hq0 := cell_keep HXG.out hw' (by simp); go_simp⟩) hS3 ?_
          simp only [Act.put, List.setIfInBounds_toArray, List.set_cons_zero, List.set_cons_succ]
          refine held_take 38 (some 83) (.bool false) rfl rfl (by kernel_rfl) (by kernel_rfl) (by kernel_rfl) (fun _ _ _ h => h) (Or.inl ⟨by rfl, fun w' hw' => by go_simp⟩) hS3 ?_
          simp only [Act.put, List.setIfInBounds_toArray, List.set_cons_zero, List.set_cons_succ]
          refine held_take 39 (some 84) (.bool false) rfl rfl (by kernel_rfl) (by kernel_rfl) (by kernel_rfl) (fun _ _ _ h => h) (Or.inl ⟨by rfl, fun w' hw' => by go_simp⟩) hS3 ?_
          simp only [Act.put, List.setIfInBounds_toArray, List.set_cons_zero, List.set_cons_succ]
          refine held_take 40 (some 85) (.bool false) rfl rfl (by kernel_rfl) (by kernel_rfl) (by kernel_rfl) (fun _ _ _ h => h) (Or.inl ⟨by rfl, fun w' hw' => by go_simp⟩) hS3 ?_
          simp only [Act.put, List.setIfInBounds_toArray, List.set_cons_zero, List.set_cons_succ]
          refine held_take 41 (some 86) (.bool false) rfl rfl (by kernel_rfl) (by kernel_rfl) (by kernel_rfl) (fun _ _ _ h => h) (Or.inl ⟨by rfl, fun w' hw' => by go_simp⟩) hS3 ?_
          simp only [Act.put, List.setIfInBounds_toArray, List.set_cons_zero, List.set_cons_succ]
          refine wpAnyH_done (by kernel_rfl) ?_ _
          refine NoPanic.normal ?_
          have hS7 := hS3
          clear hS3 hl1 hl2 hl1K
          generalize w23 = w7 at *
          have HB7 := hid (HB.out.trans (HSB.out.but.trans hS7))
          have hc0 := cell_keep HSB.out.c0 hS7 (by simp)
          have hc1 := cell_keep HSB.out.c1 hS7 (by simp)
          have HF7 := hid (HF.out.keep0 (HSB.out.but.trans hS7))
          have HR7 := hid (HR6.out.keep0 hS7)
          clear hS7 HYP HYR HSB
          go_wp2_with fail
          refine (Lent_c bt m (bt :: bx :: bl :: Y) T f k (T k).gen w7 HF7.out HR.out.wf.lim).mono ?_
          rintro e w8 ⟨A8, n8, c8, rfl, hs8, k8⟩
          rw [lentG_yes HI.out] at hs8
          have HS8 := hid hs8
          have HB8 := hid (HB7.out.trans k8)
          have HR8 := hid (HR7.out.keep0 k8)
          clear hs8 k8 hc0 hc1
          go_wp2_with fail
          refine (rLent_c bx bl m T k w8 HR8.out).mono ?_
          rintro e w9 ⟨rfl, k9⟩
          have HS9 := hid (HS8.out.keep0 k9)
          have HB9 := hid (HB8.out.trans k9)
          clear k9
          go_wp2_with fail
          refine (Sn.same_c A8 n8 c8 _ (lentS T k) w9 HS9.out).mono ?_
          rintro e w10 ⟨rfl, k10⟩
          have HB10 := hid (HB9.out.trans k10)
          clear k10
          go_wp2
          go_roundg (65 - (k + 1))
          case measure => omega
          case rel => exact ⟨k + 1, by omega, by omega, by go_num, by rw [HN.out]; go_num, HB10.out⟩
    · obtain rfl : k = 64 := by omega
      have hd : decide ((64 : Int) < 64) = false := by decide
      obtain ⟨f, hf⟩ := H.out.tr
      have HF := hid (hf.keep0 HB.out)
      have HLE : Hid (lenT T = (nums (isP T) 64).length) := rfl
      clear hf
      obtain ⟨u, hu⟩ : ∃ u, (nums (isP T) 64).length = u := ⟨_, rfl⟩
      rw [hu] at HLE ⊢
      clear hu
      go_wp2_with fail
      refine (Len_c bt m (bt :: bx :: bl :: Y) T f wr HF.out).mono ?_
      rintro e w2 ⟨rfl, k2⟩
      rw [HLE.out]
      have HK2 := hid (HB.out.trans k2)
      clear k2
      go_wp2
      go_ret
      exact ⟨by simp, HK2.out⟩
end Go.Proofs.Ytlppfcoclpdanaa.Cs
