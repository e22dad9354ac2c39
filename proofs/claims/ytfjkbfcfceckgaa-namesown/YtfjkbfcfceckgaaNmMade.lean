/-
  Layer 11 (names): deeds that came in; the contract of the statements' Made, over the translated program.
-/
import Derived.Test.YtfjkbfcfceckgaaNmRef2
import Derived.Test.YtfjkbfcfceckgaaFlat
import Derived.Test.YtfjkbfcfceckgaaLate
namespace Go.Proofs.Ytfjkbfcfceckgaa
open Go.RowKit
set_option linter.unusedVariables false
def ks_flatDeed : List Pk := [.int .i64, .int .i64]
theorem flatDeed : FlatT Try.prog 24 ks_flatDeed :=
  flat_struct (fun _ => [.int .i64]) Try.underlying24 (by kernel_rfl)
    (by
      intro f hf
      simp only [List.mem_cons, List.not_mem_nil, or_false] at hf
      rcases hf with rfl | rfl
      · exact flat_int Try.underlying3 (by kernel_rfl)
      · exact flat_int Try.underlying3 (by kernel_rfl))
    (by decide)
theorem deed_of {vs : List Value} (h : Fits ks_flatDeed vs) : ∃ K F : Int, vs = [.int .i64 K, .int .i64 F] := by
  obtain ⟨v0, l0, rfl, ⟨K, rfl, _⟩, h0⟩ := fits_cons h
  obtain ⟨v1, l1, rfl, ⟨F, rfl, _⟩, h1⟩ := fits_cons h0
  obtain rfl := fits_nil h1
  exact ⟨K, F, rfl⟩
theorem infoDeed : (Try.prog.info? 24).map (·.size) = some 2 := by kernel_rfl
end Go.Proofs.Ytfjkbfcfceckgaa
namespace Go.Proofs.Ytfjkbfcfceckgaa.Nm
open Go.ChangeShapes Go.WideShapes Go.ChangeAt Go.RowKit
open Wh Sn
set_option linter.unusedVariables false
set_option maxRecDepth 20000

/-- A table, and the document's. -/
def Both (w : World) (e : Ending) (w' : World) : Prop := ∃ T n A c, e = .returned (.tuple #[.agg (tv T).toArray, .slice A n c]) ∧ Tn T n ∧ Dl w' w.heap.size A n T ∧ But [] w w'
/-- What Made has: b holds the table, A the document's. -/
structure Md (w0 : World) (b : Nat) (A : Option Addr) (n : Nat) (T : Tf) (wx : World) : Prop where
  tn : Tn T n
  x : wx.rangeAt b 0 (tv T)
  th : wx.there b 0 512
  dl : Dl wx w0.heap.size A n T
  but : But [b] w0 wx
theorem Md.keep {w0 wx wy : World} {b n : Nat} {A : Option Addr} {T : Tf} (h : Md w0 b A n T wx) (k : But [] wx wy) : Md w0 b A n T wy :=
  ⟨h.tn, range_keep h.x k (by simp), there_keep h.th k (lt_of_there h.th (by omega)) (by simp), h.dl.keep0 k, h.but.trans (k.any _)⟩
theorem m_keep {wb wp wc : World} {p q o : Nat} {cs : List Value} {v1 : Value} (k : But [] wp wc) (h : wp.rangeAt p 0 cs ∧ wp.cell? ⟨q, o, none⟩ = some v1 ∧ wp.there p 0 512 ∧ But [] wb wp) :
    wc.rangeAt p 0 cs ∧ wc.cell? ⟨q, o, none⟩ = some v1 ∧ wc.there p 0 512 ∧ But [] wb wc :=
  ⟨range_keep h.1 k (by simp), cell_keep h.2.1 k (by simp), there_keep h.2.2.1 k (lt_of_there h.2.2.1 (by omega)) (by simp), h.2.2.2.trans k⟩
set_option maxHeartbeats 4000000 in
theorem made_c (A0 : Option Addr) (len0 cap0 : Nat) (w : World) (h : RowOf ks_flatDeed w A0 len0 cap0) :
    Calls Try.prog 7 #[.slice A0 len0 cap0] w (Both w) := by
  have HR : Hid (len0 = 0 ∨ ∃ bA off, A0 = some ⟨bA, off, none⟩ ∧ bA < w.heap.size ∧ ∀ i, i < len0 → ∃ vs, w.rangeAt bA (off + i * 2) vs ∧ Fits ks_flatDeed vs) := h.2.2
  clear h
  have hz := zTab
  obtain ⟨b, hb⟩ : ∃ b, b = w.heap.size := ⟨_, rfl⟩
  obtain ⟨w0, hw0⟩ : ∃ w0, w0 = (w.alloc (.cells (tv t0).toArray 28)).alloc (.cells (tv t0).toArray 28) := ⟨_, rfl⟩
  have HB0 : Hid (But [] w w0) := by show But _ _ _; rw [hw0]; exact ((But.refl [] w).alloc _).alloc _
  obtain ⟨t1, t2, t3⟩ := two_new w 28
  rw [← hw0, ← hb] at t1 t2
  rw [← hw0, ← hb] at t3
  have HT0 := hid t1
  have HM0 : Hid (Md w0 (b + 1) none 0 t0 w0) := ⟨tn0, t2.range, t2.there, .inl rfl, But.refl _ _⟩
  have HPS : Hid (b = w.heap.size ∧ w0.heap.size = b + 2) := ⟨hb, t3⟩
  clear t1 t2 t3
  go_enter Try.func7, Try.ntmps7
  go_upto_region 2 with fail
  rw [← hw0, ← hb]
  clear hw0 hb hz
  go_wp2
  go_loopg [5, 6] 41 (fun g0 xv iv wx => ∃ (i n c : Nat) (A : Option Addr) (T : Tf), i + g0 = 41 ∧ i ≤ 40 ∧ i ≤ len0 ∧ iv = .int .i64 i ∧ xv = .slice A n c ∧ Hid (Md w0 (b + 1) A n T wx))
  case atStart => exact ⟨0, 0, 0, none, t0, by omega, by omega, by omega, rfl, rfl, HM0⟩
  case round =>
    obtain ⟨i, n, c, A, T, hig, hi40, hil, rfl, rfl, HM⟩ := hrel
    clear HM0
    by_cases hlt : i < len0 ∧ i < 40
    · obtain ⟨hlt, h40⟩ := hlt
      obtain ⟨bA, off, rfl, hbl, hall⟩ : ∃ bA off, A0 = some ⟨bA, off, none⟩ ∧ bA < w.heap.size ∧ ∀ i, i < len0 → ∃ vs, w.rangeAt bA (off + i * 2) vs ∧ Fits ks_flatDeed vs := by
        rcases HR.out with h | h
        · omega
        · exact h
      obtain ⟨vs, hr, hfit⟩ := hall i hlt
      obtain ⟨K, F, rfl⟩ := deed_of hfit
      have HRE : Hid (wr.rangeAt bA (off + i * 2) [.int .i64 K, .int .i64 F]) := range_keep (range_keep hr HB0.out (by simp)) HM.out.but (by have := HPS.out; simp; omega)
      have hcK : wr.cell? ⟨bA, off + i * 2, none⟩ = some (.int .i64 K) := HRE.out 0 _ rfl
      have HBA : Hid (bA < b) := by have := HPS.out; show bA < b; omega
      clear hall hr hfit hbl
      have hilt : (i : Int) < (len0 : Int) := by omega
      have hi4 : (i : Int) < 40 := by omega
      by_cases hk0 : K < 0
      · have HC5 : Hid (wr.drew.cell? ⟨bA, off + i * 2 + 1, none⟩ = some (.int .i64 F)) := by show _ = _; have := HRE.out 1 _ rfl; simpa using this
        have HS16 : Hid (wr.drew.rangeAt (b + 1) 0 (tv T) ∧ wr.drew.cell? ⟨bA, off + i * 2 + 1, none⟩ = some (.int .i64 F) ∧ wr.drew.there (b + 1) 0 512 ∧ But [] wr wr.drew) :=
          ⟨(World.rangeAt_drew _ _ _ _).2 HM.out.x, HC5.out, there_keep HM.out.th (But.refl [] wr).drew (lt_of_there HM.out.th (by omega)) (by simp), (But.refl [] wr).drew⟩
        go_upto_region 9 with fail
        refine wp_region_noPanic ?_
        refine late_begin (fun w' => w'.rangeAt (b + 1) 0 (tv T) ∧ w'.cell? ⟨bA, off + i * 2 + 1, none⟩ = some (.int .i64 F) ∧ w'.there (b + 1) 0 512 ∧ But [] wr w') 10 (by kernel_rfl) ?_
        have hS0 := HS16.out
        refine late_take 0 (some 53) (.agg (tv T).toArray) rfl rfl (by kernel_rfl) (by kernel_rfl) (by kernel_rfl) (by kernel_rfl) (by kernel_rfl) (by decide) (fun _ _ _ h => h) (yieldsIf_load_mid (by rfl) _ _ rfl (b + 1) 0 rfl (tv T) _ (fun w' h => h.1) Try.underlying28 rfl (iTab T)) hS0 ?_
        simp only [Act.put, List.setIfInBounds_toArray, List.set_cons_zero, List.set_cons_succ]
        refine late_take 1 (some 54) (.slice (some ⟨bA, off, none⟩) len0 cap0) rfl rfl (by kernel_rfl) (by kernel_rfl) (by kernel_rfl) (by kernel_rfl) (by kernel_rfl) (by decide) (fun _ _ _ h => h) (Or.inl ⟨by rfl, fun w' hw' => by go_simp⟩) hS0 ?_
        simp only [Act.put, List.setIfInBounds_toArray, List.set_cons_zero, List.set_cons_succ]
        refine late_take 2 (some 55) (.int .i64 i) rfl rfl (by kernel_rfl) (by kernel_rfl) (by kernel_rfl) (by kernel_rfl) (by kernel_rfl) (by decide) (fun _ _ _ h => h) (Or.inl ⟨by rfl, fun w' hw' => by go_simp⟩) hS0 ?_
        simp only [Act.put, List.setIfInBounds_toArray, List.set_cons_zero, List.set_cons_succ]
        refine late_take 3 (some 56) (.pointer (some ⟨bA, off + i * 2, none⟩)) rfl rfl (by kernel_rfl) (by kernel_rfl) (by kernel_rfl) (by kernel_rfl) (by kernel_rfl) (by decide) (fun _ _ _ h => h) (Or.inl ⟨by rfl, fun w' hw' => by go_simp⟩) hS0 ?_
        simp only [Act.put, List.setIfInBounds_toArray, List.set_cons_zero, List.set_cons_succ]
        refine late_take 4 (some 57) (.pointer (some ⟨bA, off + i * 2 + 1, none⟩)) rfl rfl (by kernel_rfl) (by kernel_rfl) (by kernel_rfl) (by kernel_rfl) (by kernel_rfl) (by decide) (fun _ _ _ h => h) (Or.inl ⟨by rfl, fun w' hw' => by go_simp⟩) hS0 ?_
        simp only [Act.put, List.setIfInBounds_toArray, List.set_cons_zero, List.set_cons_succ]
        refine late_take 5 (some 58) (.int .i64 F) rfl rfl (by kernel_rfl) (by kernel_rfl) (by kernel_rfl) (by kernel_rfl) (by kernel_rfl) (by decide) (fun _ _ _ h => h) (Or.inl ⟨by rfl, fun w' hw' => by obtain ⟨-, hw1, -⟩ := hw'; go_simp⟩) hS0 ?_
        simp only [Act.put, List.setIfInBounds_toArray, List.set_cons_zero, List.set_cons_succ]
        refine late_one 6 rfl (by kernel_rfl) (by rfl) (fun K hK => ?_)
        go_simp
        refine (drop_c T HM.out.tn.ok F _).mono ?_
        rintro e w5 ⟨rfl, k5⟩
        go_wp2_with fail
        have hS6 := m_keep k5 hS0
        refine hK.out _ _ ⟨fun _ => hS6, ?_⟩
        clear hK K hS0
        try simp only [Act.put, List.setIfInBounds_toArray, List.set_cons_zero, List.set_cons_succ]
        refine late_hand 7 (some 52) (.tuple #[.agg (tv (drT T F)).toArray, .bool (decide (0 ≤ getT T F))]) rfl rfl (by kernel_rfl) (by kernel_rfl) (by kernel_rfl) (by decide) (fun _ _ _ h => h) (Or.inl ⟨by rfl, fun w' hw' => by go_simp⟩) hS6 ?_
        simp only [Act.put, List.setIfInBounds_toArray, List.set_cons_zero, List.set_cons_succ]
        refine late_hand 8 (some 60) (.agg (tv (drT T F)).toArray) rfl rfl (by kernel_rfl) (by kernel_rfl) (by kernel_rfl) (by decide) (fun _ _ _ h => h) (Or.inl ⟨by rfl, fun w' hw' => by go_simp⟩) hS6 ?_
        simp only [Act.put, List.setIfInBounds_toArray, List.set_cons_zero, List.set_cons_succ]
        refine late_hand 9 (some 61) (.bool (decide (0 ≤ getT T F))) rfl rfl (by kernel_rfl) (by kernel_rfl) (by kernel_rfl) (by decide) (fun _ _ _ h => h) (Or.inl ⟨by rfl, fun w' hw' => by go_simp⟩) hS6 ?_
        simp only [Act.put, List.setIfInBounds_toArray, List.set_cons_zero, List.set_cons_succ]
        refine late_one 10 rfl (by kernel_rfl) (by rfl) (fun K hK => ?_)
        refine wp_store_mid _ _ _ rfl (b + 1) 0 (tv (drT T F)).toArray rfl rfl (by rw [tvs]; exact hS6.2.2.1) (iTab' _) (tv_all _) ?_
        refine hK.out _ _ ⟨fun h => absurd rfl h, ?_⟩
        clear hK K
        refine late_done (by kernel_rfl) ?_ _
        refine NoPanic.normal ?_
        have hk7 : But [b + 1] w5 (w5.setCells (b + 1) 0 (tv (drT T F))) := (But.refl [b + 1] _).setCells (by simp) _ _
        have HX7 : Hid ((w5.setCells (b + 1) 0 (tv (drT T F))).rangeAt (b + 1) 0 (tv (drT T F))) := World.rangeAt_setCells_same _ _ _ _ (by rw [tv_len]; exact hS6.2.2.1)
        have HT7 : Hid ((w5.setCells (b + 1) 0 (tv (drT T F))).there (b + 1) 0 512) := World.there_setCells hS6.2.2.1 _ _ _
        have HD7 : Hid (Dl (w5.setCells (b + 1) 0 (tv (drT T F))) w0.heap.size A n T) := (HM.out.dl.keep0 hS6.2.2.2).keep hk7 (fun x hx => by have := HPS.out; simp at hx; omega)
        have HB7 : Hid (But [b + 1] w0 (w5.setCells (b + 1) 0 (tv (drT T F)))) := HM.out.but.trans ((hS6.2.2.2.any _).trans hk7)
        have hcF : (w5.setCells (b + 1) 0 (tv (drT T F))).cell? ⟨bA, off + i * 2 + 1, none⟩ = some (.int .i64 F) := cell_keep hS6.2.1 hk7 (by have := HBA.out; simp; omega)
        have HN := hid (HM.out.tn.drop F)
        have HO := hid HM.out.tn
        generalize w5.setCells (b + 1) 0 (tv (drT T F)) = w7 at HX7 HT7 HD7 HB7 hcF ⊢
        clear hS6 k5 HS16 hk7 HM hcK HC5 HRE
        simp only [Act.put, List.setIfInBounds_toArray]
        go_wp2_with fail
        refine (rdrop_c A n c w0.heap.size T HO.out F _ HD7.out HB7.out.size).mono ?_
        rintro e w8 ⟨A8, c8, rfl, hd8, k8⟩
        have HM8 : Hid (Md w0 (b + 1) A8 (n) (drT T F) w8) := ⟨HN.out, range_keep HX7.out k8 (by simp), there_keep HT7.out k8 (lt_of_there HT7.out (by omega)) (by simp), hd8, HB7.out.trans (k8.any _)⟩
        clear hd8 k8 hcF
        go_wp2
        go_roundg (41 - (i + 1))
        case measure => omega
        case rel => exact ⟨i + 1, n, c8, A8, drT T F, by omega, by omega, by omega, by go_num, rfl, HM8.out⟩
      · by_cases hk3 : 3 < K
        · have hk0 : 0 ≤ K := by omega
          have HC5 : Hid (wr.drew.cell? ⟨bA, off + i * 2 + 1, none⟩ = some (.int .i64 F)) := by show _ = _; have := HRE.out 1 _ rfl; simpa using this
          have HS16 : Hid (wr.drew.rangeAt (b + 1) 0 (tv T) ∧ wr.drew.cell? ⟨bA, off + i * 2 + 1, none⟩ = some (.int .i64 F) ∧ wr.drew.there (b + 1) 0 512 ∧ But [] wr wr.drew) :=
            ⟨(World.rangeAt_drew _ _ _ _).2 HM.out.x, HC5.out, there_keep HM.out.th (But.refl [] wr).drew (lt_of_there HM.out.th (by omega)) (by simp), (But.refl [] wr).drew⟩
          go_upto_region 9 with fail
          refine wp_region_noPanic ?_
          refine late_begin (fun w' => w'.rangeAt (b + 1) 0 (tv T) ∧ w'.cell? ⟨bA, off + i * 2 + 1, none⟩ = some (.int .i64 F) ∧ w'.there (b + 1) 0 512 ∧ But [] wr w') 10 (by kernel_rfl) ?_
          have hS0 := HS16.out
          refine late_take 0 (some 53) (.agg (tv T).toArray) rfl rfl (by kernel_rfl) (by kernel_rfl) (by kernel_rfl) (by kernel_rfl) (by kernel_rfl) (by decide) (fun _ _ _ h => h) (yieldsIf_load_mid (by rfl) _ _ rfl (b + 1) 0 rfl (tv T) _ (fun w' h => h.1) Try.underlying28 rfl (iTab T)) hS0 ?_
          simp only [Act.put, List.setIfInBounds_toArray, List.set_cons_zero, List.set_cons_succ]
          refine late_take 1 (some 54) (.slice (some ⟨bA, off, none⟩) len0 cap0) rfl rfl (by kernel_rfl) (by kernel_rfl) (by kernel_rfl) (by kernel_rfl) (by kernel_rfl) (by decide) (fun _ _ _ h => h) (Or.inl ⟨by rfl, fun w' hw' => by go_simp⟩) hS0 ?_
          simp only [Act.put, List.setIfInBounds_toArray, List.set_cons_zero, List.set_cons_succ]
          refine late_take 2 (some 55) (.int .i64 i) rfl rfl (by kernel_rfl) (by kernel_rfl) (by kernel_rfl) (by kernel_rfl) (by kernel_rfl) (by decide) (fun _ _ _ h => h) (Or.inl ⟨by rfl, fun w' hw' => by go_simp⟩) hS0 ?_
          simp only [Act.put, List.setIfInBounds_toArray, List.set_cons_zero, List.set_cons_succ]
          refine late_take 3 (some 56) (.pointer (some ⟨bA, off + i * 2, none⟩)) rfl rfl (by kernel_rfl) (by kernel_rfl) (by kernel_rfl) (by kernel_rfl) (by kernel_rfl) (by decide) (fun _ _ _ h => h) (Or.inl ⟨by rfl, fun w' hw' => by go_simp⟩) hS0 ?_
          simp only [Act.put, List.setIfInBounds_toArray, List.set_cons_zero, List.set_cons_succ]
          refine late_take 4 (some 57) (.pointer (some ⟨bA, off + i * 2 + 1, none⟩)) rfl rfl (by kernel_rfl) (by kernel_rfl) (by kernel_rfl) (by kernel_rfl) (by kernel_rfl) (by decide) (fun _ _ _ h => h) (Or.inl ⟨by rfl, fun w' hw' => by go_simp⟩) hS0 ?_
          simp only [Act.put, List.setIfInBounds_toArray, List.set_cons_zero, List.set_cons_succ]
          refine late_take 5 (some 58) (.int .i64 F) rfl rfl (by kernel_rfl) (by kernel_rfl) (by kernel_rfl) (by kernel_rfl) (by kernel_rfl) (by decide) (fun _ _ _ h => h) (Or.inl ⟨by rfl, fun w' hw' => by obtain ⟨-, hw1, -⟩ := hw'; go_simp⟩) hS0 ?_
          simp only [Act.put, List.setIfInBounds_toArray, List.set_cons_zero, List.set_cons_succ]
          refine late_one 6 rfl (by kernel_rfl) (by rfl) (fun K hK => ?_)
          go_simp
          refine (drop_c T HM.out.tn.ok F _).mono ?_
          rintro e w5 ⟨rfl, k5⟩
          go_wp2_with fail
          have hS6 := m_keep k5 hS0
          refine hK.out _ _ ⟨fun _ => hS6, ?_⟩
          clear hK K hS0
          try simp only [Act.put, List.setIfInBounds_toArray, List.set_cons_zero, List.set_cons_succ]
          refine late_hand 7 (some 52) (.tuple #[.agg (tv (drT T F)).toArray, .bool (decide (0 ≤ getT T F))]) rfl rfl (by kernel_rfl) (by kernel_rfl) (by kernel_rfl) (by decide) (fun _ _ _ h => h) (Or.inl ⟨by rfl, fun w' hw' => by go_simp⟩) hS6 ?_
          simp only [Act.put, List.setIfInBounds_toArray, List.set_cons_zero, List.set_cons_succ]
          refine late_hand 8 (some 60) (.agg (tv (drT T F)).toArray) rfl rfl (by kernel_rfl) (by kernel_rfl) (by kernel_rfl) (by decide) (fun _ _ _ h => h) (Or.inl ⟨by rfl, fun w' hw' => by go_simp⟩) hS6 ?_
          simp only [Act.put, List.setIfInBounds_toArray, List.set_cons_zero, List.set_cons_succ]
          refine late_hand 9 (some 61) (.bool (decide (0 ≤ getT T F))) rfl rfl (by kernel_rfl) (by kernel_rfl) (by kernel_rfl) (by decide) (fun _ _ _ h => h) (Or.inl ⟨by rfl, fun w' hw' => by go_simp⟩) hS6 ?_
          simp only [Act.put, List.setIfInBounds_toArray, List.set_cons_zero, List.set_cons_succ]
          refine late_one 10 rfl (by kernel_rfl) (by rfl) (fun K hK => ?_)
          refine wp_store_mid _ _ _ rfl (b + 1) 0 (tv (drT T F)).toArray rfl rfl (by rw [tvs]; exact hS6.2.2.1) (iTab' _) (tv_all _) ?_
          refine hK.out _ _ ⟨fun h => absurd rfl h, ?_⟩
          clear hK K
          refine late_done (by kernel_rfl) ?_ _
          refine NoPanic.normal ?_
          have hk7 : But [b + 1] w5 (w5.setCells (b + 1) 0 (tv (drT T F))) := (But.refl [b + 1] _).setCells (by simp) _ _
          have HX7 : Hid ((w5.setCells (b + 1) 0 (tv (drT T F))).rangeAt (b + 1) 0 (tv (drT T F))) := World.rangeAt_setCells_same _ _ _ _ (by rw [tv_len]; exact hS6.2.2.1)
          have HT7 : Hid ((w5.setCells (b + 1) 0 (tv (drT T F))).there (b + 1) 0 512) := World.there_setCells hS6.2.2.1 _ _ _
          have HD7 : Hid (Dl (w5.setCells (b + 1) 0 (tv (drT T F))) w0.heap.size A n T) := (HM.out.dl.keep0 hS6.2.2.2).keep hk7 (fun x hx => by have := HPS.out; simp at hx; omega)
          have HB7 : Hid (But [b + 1] w0 (w5.setCells (b + 1) 0 (tv (drT T F)))) := HM.out.but.trans ((hS6.2.2.2.any _).trans hk7)
          have hcF : (w5.setCells (b + 1) 0 (tv (drT T F))).cell? ⟨bA, off + i * 2 + 1, none⟩ = some (.int .i64 F) := cell_keep hS6.2.1 hk7 (by have := HBA.out; simp; omega)
          have HN := hid (HM.out.tn.drop F)
          have HO := hid HM.out.tn
          generalize w5.setCells (b + 1) 0 (tv (drT T F)) = w7 at HX7 HT7 HD7 HB7 hcF ⊢
          clear hS6 k5 HS16 hk7 HM hcK HC5 HRE
          simp only [Act.put, List.setIfInBounds_toArray]
          go_wp2_with fail
          refine (rdrop_c A n c w0.heap.size T HO.out F _ HD7.out HB7.out.size).mono ?_
          rintro e w8 ⟨A8, c8, rfl, hd8, k8⟩
          have HM8 : Hid (Md w0 (b + 1) A8 (n) (drT T F) w8) := ⟨HN.out, range_keep HX7.out k8 (by simp), there_keep HT7.out k8 (lt_of_there HT7.out (by omega)) (by simp), hd8, HB7.out.trans (k8.any _)⟩
          clear hd8 k8 hcF
          go_wp2
          go_roundg (41 - (i + 1))
          case measure => omega
          case rel => exact ⟨i + 1, n, c8, A8, drT T F, by omega, by omega, by omega, by go_num, rfl, HM8.out⟩
        · have hk0 : 0 ≤ K := by omega
          have hk3 : K ≤ 3 := by omega
          have HC5 : Hid (wr.drew.cell? ⟨bA, off + i * 2 + 1, none⟩ = some (.int .i64 F)) := by show _ = _; have := HRE.out 1 _ rfl; simpa using this
          have HS16 : Hid (wr.drew.rangeAt (b + 1) 0 (tv T) ∧ wr.drew.cell? ⟨bA, off + i * 2 + 1, none⟩ = some (.int .i64 F) ∧ wr.drew.there (b + 1) 0 512 ∧ But [] wr wr.drew) :=
            ⟨(World.rangeAt_drew _ _ _ _).2 HM.out.x, HC5.out, there_keep HM.out.th (But.refl [] wr).drew (lt_of_there HM.out.th (by omega)) (by simp), (But.refl [] wr).drew⟩
          go_upto_region 7 with fail
          refine wp_region_noPanic ?_
          refine late_begin (fun w' => w'.rangeAt (b + 1) 0 (tv T) ∧ w'.cell? ⟨bA, off + i * 2 + 1, none⟩ = some (.int .i64 F) ∧ w'.there (b + 1) 0 512 ∧ But [] wr w') 11 (by kernel_rfl) ?_
          have hS0 := HS16.out
          refine late_take 0 (some 32) (.agg (tv T).toArray) rfl rfl (by kernel_rfl) (by kernel_rfl) (by kernel_rfl) (by kernel_rfl) (by kernel_rfl) (by decide) (fun _ _ _ h => h) (yieldsIf_load_mid (by rfl) _ _ rfl (b + 1) 0 rfl (tv T) _ (fun w' h => h.1) Try.underlying28 rfl (iTab T)) hS0 ?_
          simp only [Act.put, List.setIfInBounds_toArray, List.set_cons_zero, List.set_cons_succ]
          refine late_take 1 (some 33) (.slice (some ⟨bA, off, none⟩) len0 cap0) rfl rfl (by kernel_rfl) (by kernel_rfl) (by kernel_rfl) (by kernel_rfl) (by kernel_rfl) (by decide) (fun _ _ _ h => h) (Or.inl ⟨by rfl, fun w' hw' => by go_simp⟩) hS0 ?_
          simp only [Act.put, List.setIfInBounds_toArray, List.set_cons_zero, List.set_cons_succ]
          refine late_take 2 (some 34) (.int .i64 i) rfl rfl (by kernel_rfl) (by kernel_rfl) (by kernel_rfl) (by kernel_rfl) (by kernel_rfl) (by decide) (fun _ _ _ h => h) (Or.inl ⟨by rfl, fun w' hw' => by go_simp⟩) hS0 ?_
          simp only [Act.put, List.setIfInBounds_toArray, List.set_cons_zero, List.set_cons_succ]
          refine late_take 3 (some 35) (.pointer (some ⟨bA, off + i * 2, none⟩)) rfl rfl (by kernel_rfl) (by kernel_rfl) (by kernel_rfl) (by kernel_rfl) (by kernel_rfl) (by decide) (fun _ _ _ h => h) (Or.inl ⟨by rfl, fun w' hw' => by go_simp⟩) hS0 ?_
          simp only [Act.put, List.setIfInBounds_toArray, List.set_cons_zero, List.set_cons_succ]
          refine late_take 4 (some 36) (.pointer (some ⟨bA, off + i * 2 + 1, none⟩)) rfl rfl (by kernel_rfl) (by kernel_rfl) (by kernel_rfl) (by kernel_rfl) (by kernel_rfl) (by decide) (fun _ _ _ h => h) (Or.inl ⟨by rfl, fun w' hw' => by go_simp⟩) hS0 ?_
          simp only [Act.put, List.setIfInBounds_toArray, List.set_cons_zero, List.set_cons_succ]
          refine late_take 5 (some 37) (.int .i64 F) rfl rfl (by kernel_rfl) (by kernel_rfl) (by kernel_rfl) (by kernel_rfl) (by kernel_rfl) (by decide) (fun _ _ _ h => h) (Or.inl ⟨by rfl, fun w' hw' => by obtain ⟨-, hw1, -⟩ := hw'; go_simp⟩) hS0 ?_
          simp only [Act.put, List.setIfInBounds_toArray, List.set_cons_zero, List.set_cons_succ]
          refine late_one 6 rfl (by kernel_rfl) (by rfl) (fun K hK => ?_)
          go_simp
          refine (add_c T HM.out.tn.ok F _).mono ?_
          rintro e w5 ⟨rfl, k5⟩
          unfold Pr3
          go_wp2_with fail
          have hS6 := m_keep k5 hS0
          refine hK.out _ _ ⟨fun _ => hS6, ?_⟩
          clear hK K hS0
          try simp only [Act.put, List.setIfInBounds_toArray, List.set_cons_zero, List.set_cons_succ]
          refine late_hand 7 (some 31) (.tuple #[.agg (tv (adT T F)).toArray, .int .i64 (sg (adk T F)), .bool (decide (0 ≤ adk T F))]) rfl rfl (by kernel_rfl) (by kernel_rfl) (by kernel_rfl) (by decide) (fun _ _ _ h => h) (Or.inl ⟨by rfl, fun w' hw' => by go_simp⟩) hS6 ?_
          simp only [Act.put, List.setIfInBounds_toArray, List.set_cons_zero, List.set_cons_succ]
          refine late_hand 8 (some 39) (.agg (tv (adT T F)).toArray) rfl rfl (by kernel_rfl) (by kernel_rfl) (by kernel_rfl) (by decide) (fun _ _ _ h => h) (Or.inl ⟨by rfl, fun w' hw' => by go_simp⟩) hS6 ?_
          simp only [Act.put, List.setIfInBounds_toArray, List.set_cons_zero, List.set_cons_succ]
          refine late_hand 9 (some 40) (.int .i64 (sg (adk T F))) rfl rfl (by kernel_rfl) (by kernel_rfl) (by kernel_rfl) (by decide) (fun _ _ _ h => h) (Or.inl ⟨by rfl, fun w' hw' => by go_simp⟩) hS6 ?_
          simp only [Act.put, List.setIfInBounds_toArray, List.set_cons_zero, List.set_cons_succ]
          refine late_hand 10 (some 41) (.bool (decide (0 ≤ adk T F))) rfl rfl (by kernel_rfl) (by kernel_rfl) (by kernel_rfl) (by decide) (fun _ _ _ h => h) (Or.inl ⟨by rfl, fun w' hw' => by go_simp⟩) hS6 ?_
          simp only [Act.put, List.setIfInBounds_toArray, List.set_cons_zero, List.set_cons_succ]
          refine late_one 11 rfl (by kernel_rfl) (by rfl) (fun K hK => ?_)
          refine wp_store_mid _ _ _ rfl (b + 1) 0 (tv (adT T F)).toArray rfl rfl (by rw [tvs]; exact hS6.2.2.1) (iTab' _) (tv_all _) ?_
          refine hK.out _ _ ⟨fun h => absurd rfl h, ?_⟩
          clear hK K
          refine late_done (by kernel_rfl) ?_ _
          refine NoPanic.normal ?_
          have hk7 : But [b + 1] w5 (w5.setCells (b + 1) 0 (tv (adT T F))) := (But.refl [b + 1] _).setCells (by simp) _ _
          have HX7 : Hid ((w5.setCells (b + 1) 0 (tv (adT T F))).rangeAt (b + 1) 0 (tv (adT T F))) := World.rangeAt_setCells_same _ _ _ _ (by rw [tv_len]; exact hS6.2.2.1)
          have HT7 : Hid ((w5.setCells (b + 1) 0 (tv (adT T F))).there (b + 1) 0 512) := World.there_setCells hS6.2.2.1 _ _ _
          have HD7 : Hid (Dl (w5.setCells (b + 1) 0 (tv (adT T F))) w0.heap.size A n T) := (HM.out.dl.keep0 hS6.2.2.2).keep hk7 (fun x hx => by have := HPS.out; simp at hx; omega)
          have HB7 : Hid (But [b + 1] w0 (w5.setCells (b + 1) 0 (tv (adT T F)))) := HM.out.but.trans ((hS6.2.2.2.any _).trans hk7)
          have hcF : (w5.setCells (b + 1) 0 (tv (adT T F))).cell? ⟨bA, off + i * 2 + 1, none⟩ = some (.int .i64 F) := cell_keep hS6.2.1 hk7 (by have := HBA.out; simp; omega)
          have HN := hid (HM.out.tn.add F)
          have HO := hid HM.out.tn
          generalize w5.setCells (b + 1) 0 (tv (adT T F)) = w7 at HX7 HT7 HD7 HB7 hcF ⊢
          clear hS6 k5 HS16 hk7 HM hcK HC5 HRE
          simp only [Act.put, List.setIfInBounds_toArray]
          go_wp2_with fail
          refine (radd_c A n c w0.heap.size T HO.out F _ HD7.out HB7.out.size).mono ?_
          rintro e w8 ⟨A8, c8, rfl, hd8, k8⟩
          have HM8 : Hid (Md w0 (b + 1) A8 (adn T n F) (adT T F) w8) := ⟨HN.out, range_keep HX7.out k8 (by simp), there_keep HT7.out k8 (lt_of_there HT7.out (by omega)) (by simp), hd8, HB7.out.trans (k8.any _)⟩
          clear hd8 k8 hcF
          go_wp2
          go_roundg (41 - (i + 1))
          case measure => omega
          case rel => exact ⟨i + 1, adn T n F, c8, A8, adT T F, by omega, by omega, by omega, by go_num, rfl, HM8.out⟩
    · by_cases h1 : i < len0
      · obtain rfl : i = 40 := by omega
        have hI : (40 : Int) < (len0 : Int) := by omega
        have hd : decide ((40 : Int) < 40) = false := by decide
        have HT1 : Hid (wr.there b 0 (tv T).toArray.size) := by
          show World.there _ _ _ _
          rw [tvs]
          exact there_keep HT0.out HM.out.but (by have := HPS.out; omega) (by simp)
        have HX := hid HM.out.x
        clear HR
        go_wp2_with (first
          | (refine wpList_load_mid rfl 28 _ rfl (b + 1) 0 rfl (tv T) _ HX.out Try.underlying28 rfl (iTab _) ?_)
          | (refine wpList_store_mid rfl 28 _ _ rfl b 0 (tv T).toArray rfl rfl ?ht (iTab' _) (tv_all _) ?_; case ht => exact HT1.out))
        refine bodyPost_ret (results_range rfl _ _ b 0 (tv T) _ rfl (World.rangeAt_setCells_same _ _ _ _ (by have := HT1.out; rwa [tvs, ← tv_len T] at this)) Try.underlying28 rfl (iTab _)) rfl ?_
        have hbw := HPS.out
        have hk9 : But [b] wr (wr.setCells b 0 (tv T)) := (But.refl [b] _).setCells (by simp) _ _
        exact ⟨T, n, A, c, rfl, HM.out.tn, (HM.out.dl.keep hk9 (fun x hx => by simp at hx; omega)).wider (by omega), but_own (but_own HB0.out HM.out.but (fun i hi => by simp at hi; omega)) hk9 (fun i hi => by simp at hi; omega)⟩
      · obtain rfl : i = len0 := by omega
        have hd : decide ((i : Int) < (i : Int)) = false := by simp
        have HT1 : Hid (wr.there b 0 (tv T).toArray.size) := by
          show World.there _ _ _ _
          rw [tvs]
          exact there_keep HT0.out HM.out.but (by have := HPS.out; omega) (by simp)
        have HX := hid HM.out.x
        clear HR
        go_wp2_with (first
          | (refine wpList_load_mid rfl 28 _ rfl (b + 1) 0 rfl (tv T) _ HX.out Try.underlying28 rfl (iTab _) ?_)
          | (refine wpList_store_mid rfl 28 _ _ rfl b 0 (tv T).toArray rfl rfl ?ht (iTab' _) (tv_all _) ?_; case ht => exact HT1.out))
        refine bodyPost_ret (results_range rfl _ _ b 0 (tv T) _ rfl (World.rangeAt_setCells_same _ _ _ _ (by have := HT1.out; rwa [tvs, ← tv_len T] at this)) Try.underlying28 rfl (iTab _)) rfl ?_
        have hbw := HPS.out
        have hk9 : But [b] wr (wr.setCells b 0 (tv T)) := (But.refl [b] _).setCells (by simp) _ _
        exact ⟨T, n, A, c, rfl, HM.out.tn, (HM.out.dl.keep hk9 (fun x hx => by simp at hx; omega)).wider (by omega), but_own (but_own HB0.out HM.out.but (fun i hi => by simp at hi; omega)) hk9 (fun i hi => by simp at hi; omega)⟩
end Go.Proofs.Ytfjkbfcfceckgaa.Nm
