/-
  Layer 12 (caps): the contract of the document's Lent, over the translated program.
-/
import Derived.Test.YtlppfcoclpdanaaCsRefN
namespace Go.Proofs.Ytlppfcoclpdanaa.Cs
open Go.ChangeShapes Go.WideShapes Go.ChangeAt Go.RowKit
open Wh Sn
set_option linter.unusedVariables false
set_option maxRecDepth 20000

theorem l5_keep {wb wp wc : World} {p q r s : Nat} {v1 : Value} {cs ds : List Value} (k : But [] wp wc) (h : wp.rangeAt p 0 cs ∧ wp.cell? ⟨q, 0, none⟩ = some v1 ∧ wp.rangeAt r s ds ∧ wp.there p 0 1024 ∧ But [] wb wp) :
    wc.rangeAt p 0 cs ∧ wc.cell? ⟨q, 0, none⟩ = some v1 ∧ wc.rangeAt r s ds ∧ wc.there p 0 1024 ∧ But [] wb wc :=
  ⟨range_keep h.1 k (by simp), cell_keep h.2.1 k (by simp), range_keep h.2.2.1 k (by simp), there_keep h.2.2.2.1 k (lt_of_there h.2.2.2.1 (by omega)) (by simp), h.2.2.2.2.trans k⟩
set_option maxHeartbeats 4000000 in
theorem rLent_c (bx bl m : Nat) (T : Tr) (a : Int) (w : World) (h : RfAt w bx bl T m) :
    Calls Try.prog 36 #[.pointer (some ⟨bx, 0, none⟩), .int .i64 a] w fun e w' => e = .returned (.agg (bv (lentS T a)).toArray) ∧ But [] w w' := by
  have hz := zSet
  obtain ⟨b, hb⟩ : ∃ b, b = w.heap.size := ⟨_, rfl⟩
  obtain ⟨w1, hw1⟩ : ∃ w1, w1 = (w.alloc (.cells (bv no).toArray 36)).alloc (.cells (bv no).toArray 36) := ⟨_, rfl⟩
  have HB0 : Hid (But [] w w1) := by show But _ _ _; rw [hw1]; exact ((But.refl [] w).alloc _).alloc _
  obtain ⟨t3, t4, t5⟩ := two_new w 36
  rw [← hw1, ← hb] at t3 t4
  rw [← hw1, ← hb] at t5
  have HT3 := hid t3
  have HV4 : Hid (w1.rangeAt (b + 1) 0 (bv no)) := t4.range (bv no) (by rw [bv_len]; omega) (fun i hi => by rw [bv_len] at hi; rw [bv_get _ _ hi]; rfl)
  have HT4 : Hid (w1.there (b + 1) 0 1024) := t4.there (by omega)
  have HS1 := hid t5
  have HBW := hid hb
  have H := hid h
  have hlt := h.lt
  have HNE : Hid (bx < b ∧ bl < b) := by show _ ∧ _; omega
  have hno : no = sAny T [] := funext fun x => by simp [no, sAny]
  have HNO := hid hno
  clear t3 t4 t5 h hlt hno
  go_enter Try.func36, Try.ntmps36
  go_upto_region 2 with (first
    | (refine wpList_build' rfl 36 [] rfl (bv no).toArray ?hb ?_; case hb => exact bSet)
    | (refine wpList_store_newAt rfl 36 _ _ rfl (w.heap.size + 1) (by simp) (bv no).toArray (bv no).toArray rfl rfl (iSet' _) rfl (bv_all _) ?_))
  rw [← hw1, ← hb]
  clear hw1 hb hz
  go_wp2
  go_loopg [6] 65 (fun g0 i wx => ∃ k : Nat, k + g0 = 65 ∧ k ≤ 64 ∧ i = .int .i64 k ∧ Hid (wx.rangeAt (b + 1) 0 (bv (sAny T (nums (kid T a) k)))) ∧ Hid (wx.there (b + 1) 0 1024) ∧ Hid (But [b + 1] w1 wx))
  case atStart => exact ⟨0, by omega, by omega, rfl, by show World.rangeAt _ _ _ _; have := HV4.out; rw [HNO.out] at this; exact this, HT4.out, But.refl _ _⟩
  case round =>
    obtain ⟨k, hkg, hk, rfl, HV, HT, HB⟩ := hrel
    by_cases hlt : k < 64
    · have hkI : (k : Int) < 64 := by omega
      have hR := (H.out.keep0 HB0.out).keep HB.out (by have := HNE.out; simp; omega) (by have := HNE.out; simp; omega)
      have HRr := hid hR
      have hc0 := hR.c0
      have hcg := hR.g hlt
      have hcp := hR.p hlt
      have hn := nums_succ (kid T a) k
      clear hR
      by_cases hg : (T k).gen = 0
      · have hkd : kid T a k = false := by unfold kid; rw [hg]; rfl
        have HN : Hid (nums (kid T a) (k + 1) = nums (kid T a) k) := by show _ = _; rw [hn, hkd]; simp
        rw [hg] at hcg
        clear hn hkd hg hcp
        go_wp2
        go_roundg (65 - (k + 1))
        case measure => omega
        case rel => exact ⟨k + 1, by omega, by omega, by go_num, by rw [HN.out]; exact HV.out, HT.out, HB.out⟩
      · have hd : decide (0 < (T k).gen) = true := decide_eq_true (by omega)
        by_cases hp : (T k).par = a
        · have hkd : kid T a k = true := kid_iff.2 ⟨by omega, hp⟩
          have HN : Hid (wi (sAny T (nums (kid T a) k)) (T k).st = sAny T (nums (kid T a) (k + 1))) := by
            show _ = _
            rw [hn, hkd, sAny_snoc]; rfl
          rw [hp] at hcp
          generalize (T k).gen = gg at hcg hd hg
          have hS0 : wr.drew.rangeAt (b + 1) 0 (bv (sAny T (nums (kid T a) k))) ∧ wr.drew.cell? ⟨bx, 0, none⟩ = some (.slice (some ⟨bl, 0, none⟩) 64 64) ∧ wr.drew.rangeAt bl (k * 1026 + 2) (bv (T k).st) ∧ wr.drew.there (b + 1) 0 1024 ∧ But [] wr wr.drew :=
            ⟨(World.rangeAt_drew _ _ _ _).2 HV.out, HRr.out.c0, (World.rangeAt_drew _ _ _ _).2 (HRr.out.s hlt), there_keep HT.out (But.refl [] wr).drew (lt_of_there HT.out (by omega)) (by simp), (But.refl [] wr).drew⟩
          clear hn hkd hp hg
          go_upto_region 6 with fail
          clear hcg hcp hd
          refine wp_region_noPanic ?_
          refine till_begin (fun w' => w'.rangeAt (b + 1) 0 (bv (sAny T (nums (kid T a) k))) ∧ w'.cell? ⟨bx, 0, none⟩ = some (.slice (some ⟨bl, 0, none⟩) 64 64) ∧ w'.rangeAt bl (k * 1026 + 2) (bv (T k).st) ∧ w'.there (b + 1) 0 1024 ∧ But [] wr w') 10 (by kernel_rfl) ?_
          refine till_take 0 (some 33) (.agg (bv (sAny T (nums (kid T a) k))).toArray) rfl rfl (by kernel_rfl) (by kernel_rfl) (by kernel_rfl) (by kernel_rfl) (by decide) (fun _ _ _ h => h) (yieldsIf_load_mid (by rfl) _ _ rfl (b + 1) 0 rfl (bv (sAny T (nums (kid T a) k))) _ (fun w' h => h.1) Try.underlying36 rfl (iSet _)) hS0 ?_
          simp only [Act.put, List.setIfInBounds_toArray, List.set_cons_zero, List.set_cons_succ]
          refine till_take 1 (some 34) (.pointer (some ⟨bx, 0, none⟩)) rfl rfl (by kernel_rfl) (by kernel_rfl) (by kernel_rfl) (by kernel_rfl) (by decide) (fun _ _ _ h => h) (Or.inl ⟨by rfl, fun w' hw' => by go_simp⟩) hS0 ?_
          simp only [Act.put, List.setIfInBounds_toArray, List.set_cons_zero, List.set_cons_succ]
          refine till_take 2 (some 35) (.pointer (some ⟨bx, 0, none⟩)) rfl rfl (by kernel_rfl) (by kernel_rfl) (by kernel_rfl) (by kernel_rfl) (by decide) (fun _ _ _ h => h) (Or.inl ⟨by rfl, fun w' hw' => by go_simp⟩) hS0 ?_
          simp only [Act.put, List.setIfInBounds_toArray, List.set_cons_zero, List.set_cons_succ]
          refine till_take 3 (some 36) (.pointer (some ⟨bx, 0, none⟩)) rfl rfl (by kernel_rfl) (by kernel_rfl) (by kernel_rfl) (by kernel_rfl) (by decide) (fun _ _ _ h => h) (Or.inl ⟨by rfl, fun w' hw' => by go_simp⟩) hS0 ?_
          simp only [Act.put, List.setIfInBounds_toArray, List.set_cons_zero, List.set_cons_succ]
          refine till_take 4 (some 37) (.slice (some ⟨bl, 0, none⟩) 64 64) rfl rfl (by kernel_rfl) (by kernel_rfl) (by kernel_rfl) (by kernel_rfl) (by decide) (fun _ _ _ h => h) (Or.inl ⟨by rfl, fun w' hw' => by obtain ⟨-, hw1, -⟩ := hw'; go_simp⟩) hS0 ?_
          simp only [Act.put, List.setIfInBounds_toArray, List.set_cons_zero, List.set_cons_succ]
          refine till_take 5 (some 38) (.int .i64 k) rfl rfl (by kernel_rfl) (by kernel_rfl) (by kernel_rfl) (by kernel_rfl) (by decide) (fun _ _ _ h => h) (Or.inl ⟨by rfl, fun w' hw' => by go_simp⟩) hS0 ?_
          simp only [Act.put, List.setIfInBounds_toArray, List.set_cons_zero, List.set_cons_succ]
          refine till_take 6 (some 39) (.pointer (some ⟨bl, k * 1026, none⟩)) rfl rfl (by kernel_rfl) (by kernel_rfl) (by kernel_rfl) (by kernel_rfl) (by decide) (fun _ _ _ h => h) (Or.inl ⟨by rfl, fun w' hw' => by go_simp⟩) hS0 ?_
          simp only [Act.put, List.setIfInBounds_toArray, List.set_cons_zero, List.set_cons_succ]
          refine till_take 7 (some 40) (.pointer (some ⟨bl, k * 1026 + 2, none⟩)) rfl rfl (by kernel_rfl) (by kernel_rfl) (by kernel_rfl) (by kernel_rfl) (by decide) (fun _ _ _ h => h) (Or.inl ⟨by rfl, fun w' hw' => by go_simp⟩) hS0 ?_
          simp only [Act.put, List.setIfInBounds_toArray, List.set_cons_zero, List.set_cons_succ]
          refine till_take 8 (some 41) (.agg (bv (T k).st).toArray) rfl rfl (by kernel_rfl) (by kernel_rfl) (by kernel_rfl) (by kernel_rfl) (by decide) (fun _ _ _ h => h) (yieldsIf_load_mid (by rfl) _ _ rfl bl (k * 1026 + 2) rfl (bv (T k).st) _ (fun w' h => h.2.2.1) Try.underlying36 rfl (iSet _)) hS0 ?_
          simp only [Act.put, List.setIfInBounds_toArray, List.set_cons_zero, List.set_cons_succ]
          refine till_one' 9 rfl (by kernel_rfl) (by rfl) (fun K hK => ?_)
          go_simp
          refine (rlay0_c (sAny T (nums (kid T a) k)) (T k).st _).mono ?_
          rintro e w6 ⟨rfl, k6⟩
          go_wp2_with fail
          have hS9 := l5_keep k6 hS0
          refine hK.out _ _ ⟨fun _ => hS9, ?_⟩
          clear hK K hS0
          try simp only [Act.put, List.setIfInBounds_toArray, List.set_cons_zero, List.set_cons_succ]
          refine till_one' 10 rfl (by kernel_rfl) (by rfl) (fun K hK => ?_)
          refine wp_store_mid _ _ _ rfl (b + 1) 0 (bv (wi (sAny T (nums (kid T a) k)) (T k).st)).toArray rfl rfl (by rw [bvs]; exact hS9.2.2.2.1) (iSet' _) (bv_all _) ?_
          refine hK.out _ _ ⟨fun h => absurd rfl h, ?_⟩
          clear hK K
          refine till_done (by kernel_rfl) ?_ _
          refine NoPanic.normal ?_
          have hk7 : But [b + 1] w6 (w6.setCells (b + 1) 0 (bv (wi (sAny T (nums (kid T a) k)) (T k).st))) := (But.refl [b + 1] _).setCells (by simp) _ _
          have HV7 : Hid ((w6.setCells (b + 1) 0 (bv (wi (sAny T (nums (kid T a) k)) (T k).st))).rangeAt (b + 1) 0 (bv (sAny T (nums (kid T a) (k + 1))))) := by
            show World.rangeAt _ _ _ _
            rw [← HN.out]
            exact World.rangeAt_setCells_same _ _ _ _ (by rw [bv_len]; exact hS9.2.2.2.1)
          have HT7 : Hid ((w6.setCells (b + 1) 0 (bv (wi (sAny T (nums (kid T a) k)) (T k).st))).there (b + 1) 0 1024) := World.there_setCells hS9.2.2.2.1 _ _ _
          have HB7 := hid (HB.out.trans ((hS9.2.2.2.2.any [b + 1]).trans hk7))
          clear hS9 hk7 HV HT
          generalize w6.setCells (b + 1) 0 (bv (wi (sAny T (nums (kid T a) k)) (T k).st)) = w7 at *
          go_wp2
          go_roundg (65 - (k + 1))
          case measure => omega
          case rel => exact ⟨k + 1, by omega, by omega, by go_num, HV7.out, HT7.out, HB7.out⟩
        · have hkd : kid T a k = false := by
            unfold kid
            rw [decide_eq_false hp, Bool.and_false]
          have HN : Hid (nums (kid T a) (k + 1) = nums (kid T a) k) := by show _ = _; rw [hn, hkd]; simp
          have hd2 : ((T k).par == a) = false := by simpa using hp
          generalize (T k).par = q at hcp hd2
          generalize (T k).gen = gg at hcg hd hg
          clear hn hkd hg hp
          go_wp2
          go_roundg (65 - (k + 1))
          case measure => omega
          case rel => exact ⟨k + 1, by omega, by omega, by go_num, by rw [HN.out]; exact HV.out, HT.out, HB.out⟩
    · obtain rfl : k = 64 := by omega
      have hd : decide ((64 : Int) < 64) = false := by decide
      have HX : Hid (wr.rangeAt (b + 1) 0 (bv (lentS T a))) := HV.out
      have HT1 : Hid (wr.there b 0 (bv (lentS T a)).toArray.size) := by
        show World.there _ _ _ _
        rw [bvs]
        exact there_keep HT3.out HB.out (by have := HS1.out; omega) (by simp)
      clear HV
      obtain ⟨s, hs⟩ : ∃ s, lentS T a = s := ⟨_, rfl⟩
      have HSS := hid hs
      rw [hs] at HX HT1
      clear hs
      go_wp2_with (first
        | (refine wpList_load_mid rfl 36 _ rfl (b + 1) 0 rfl (bv s) _ HX.out Try.underlying36 rfl (iSet s) ?_)
        | (refine wpList_store_mid rfl 36 _ _ rfl b 0 (bv s).toArray rfl rfl ?ht (iSet' _) (bv_all _) ?_; case ht => exact HT1.out))
      refine bodyPost_ret (results_range1 rfl _ _ b 0 (bv s) _ rfl (World.rangeAt_setCells_same _ _ _ _ (by have := HT1.out; rwa [bvs, ← bv_len s] at this)) Try.underlying36 rfl (iSet s)) rfl ?_
      exact ⟨by rw [HSS.out], but_own (but_own HB0.out HB.out (fun i hi => by have := HBW.out; simp at hi; omega)) ((But.refl [b] wr).setCells (by simp) _ _) (fun i hi => by have := HBW.out; simp at hi; omega)⟩
end Go.Proofs.Ytlppfcoclpdanaa.Cs
