/-
  Layer 16 (slots): contracts of slices.IndexFunc and slices.DeleteFunc with Without's closure, over the translated program.
-/
import Derived.Test.YteenclhmdnnniaaVtOf
namespace Go.Proofs.Yteenclhmdnnniaa.Vt
open Go.ChangeShapes Go.WideShapes Go.ChangeAt Go.RowKit
open Wh
set_option linter.unusedVariables false
set_option maxRecDepth 20000

theorem pred_c (x e : Int) (c : Nat) (w : World) (hc : w.cell? ⟨c, 0, none⟩ = some (.int .i64 e)) :
    Calls Try.prog 21 #[.int .i64 x, .pointer (some ⟨c, 0, none⟩)] w fun r w' => r = .returned (.bool (x == e)) ∧ w = w' := by
  go_enter Try.func21, Try.ntmps21
  go_wp2
  go_ret
  exact ⟨rfl, rfl⟩
/-- Without's closure: its number lies in box c. -/
def clo (c : Nat) : Value := .func (.func 21) #[] #[.pointer (some ⟨c, 0, none⟩)]
set_option maxHeartbeats 1000000 in
theorem indexFunc_c (A : Option Addr) (n c : Nat) (e : Int) (cl : Nat) (l : List Int) (w : World) (h : Li w A l) (hn : l.length = n) (hm : n ≤ 100000) (hc : w.cell? ⟨cl, 0, none⟩ = some (.int .i64 e)) :
    Calls Try.prog 24 #[.slice A n c, clo cl] w fun r w' => r = .returned (.int .i64 (wt e l)) ∧ But [] w w' := by
  have HL := hid h
  have HN := hid hn
  have HC := hid hc
  clear h hn hc
  unfold clo
  go_enter Try.func24, Try.ntmps24
  go_wp2
  go_loopg [8] (n + 1) (fun g0 i wx => ∃ j : Nat, j + g0 = n + 1 ∧ j ≤ n ∧ i = .int .i64 j ∧ Hid (∀ q, q < j → l.getD q 0 ≠ e) ∧ Hid (But [] w wx))
  case atStart => exact ⟨0, by omega, by omega, rfl, fun q hq => absurd hq (Nat.not_lt_zero _), But.refl _ _⟩
  case round =>
    obtain ⟨j, hjg, hj, rfl, HX, HB⟩ := hrel
    by_cases hlt : j < n
    · have hlx : j < l.length := by have := HN.out; omega
      obtain ⟨b, off, hA, hb, hcell⟩ := HL.out.at_ hlx
      have hc := cell_keep (hcell j hlx) HB.out (by simp)
      have HC1 : Hid (wr.cell? ⟨cl, 0, none⟩ = some (.int .i64 e)) := cell_keep HC.out HB.out (by simp)
      have HHIT : Hid (l.getD j 0 = e → wt e l = j) := fun hv => wt_hit hlx HX.out hv
      have HX1 : Hid (l.getD j 0 ≠ e → ∀ q, q < j + 1 → l.getD q 0 ≠ e) := fun hv q hq => by
        rcases Nat.lt_or_ge q j with h | h
        · exact HX.out q h
        · obtain rfl : q = j := by omega
          exact hv
      generalize l.getD j 0 = x at hc HHIT HX1
      subst hA
      clear hcell hlx HX
      go_wp2_with fail
      refine (pred_c x e cl _ HC1.out).mono ?_
      rintro r w2 ⟨rfl, rfl⟩
      by_cases hv : x = e
      · have hb1 : (x == e) = true := by simp [hv]
        have HE := hid (HHIT.out hv)
        rw [hb1]
        clear hv hb1 HHIT HX1
        go_wp2
        go_ret
        exact ⟨by rw [HE.out]; rfl, HB.out⟩
      · have hb1 : (x == e) = false := by simp [hv]
        have HX2 := hid (HX1.out hv)
        rw [hb1]
        clear hv hb1 HHIT HX1
        go_wp2
        go_roundg (n + 1 - (j + 1))
        case measure => omega
        case rel => exact ⟨j + 1, by omega, by omega, by go_num, HX2.out, HB.out⟩
    · obtain rfl : j = n := by omega
      have HE : Hid (wt e l = -1) := wt_no fun q hq => HX.out q (by have := HN.out; omega)
      go_wp2
      go_ret
      exact ⟨by rw [HE.out]; rfl, HB.out⟩
/-- A row of numbers that is being rid of one: k places have been looked at, i numbers stay so far. -/
structure Dz (w : World) (g off n : Nat) (e : Int) (l : List Int) (i k : Nat) : Prop where
  len : (wo e (l.take k)).length = i
  at_ : ∀ j, j < n → ∃ y : Int, w.cell? ⟨g, off + j, none⟩ = some (.int .i64 y) ∧ w.frozen? ⟨g, off + j, none⟩ = false ∧ (j < i → y = (wo e (l.take k)).getD j 0) ∧ (k ≤ j → y = l.getD j 0)
theorem Dz.skip {w : World} {g off n : Nat} {e : Int} {l : List Int} {i k : Nat} (h : Dz w g off n e l i k) (hk : k < l.length) (he : l.getD k 0 = e) : Dz w g off n e l i (k + 1) := by
  have e1 := wo_take e l k hk
  rw [if_pos he] at e1
  refine ⟨by rw [e1]; exact h.len, fun j hj => ?_⟩
  obtain ⟨y, h1, h2, h3, h4⟩ := h.at_ j hj
  exact ⟨y, h1, h2, by rw [e1]; exact h3, fun hkj => h4 (by omega)⟩
theorem Dz.put {w : World} {g off n : Nat} {e : Int} {l : List Int} {i k : Nat} (h : Dz w g off n e l i k) (hk : k < l.length) (he : l.getD k 0 ≠ e) (hi : i < k) : Dz (w.setCell ⟨g, off + i, none⟩ (.int .i64 (l.getD k 0))) g off n e l (i + 1) (k + 1) := by
  have e1 := wo_take e l k hk
  rw [if_neg he] at e1
  refine ⟨by rw [e1, List.length_append, h.len]; rfl, fun j hj => ?_⟩
  obtain ⟨y, h1, h2, h3, h4⟩ := h.at_ j hj
  generalize l.getD k 0 = x at *
  by_cases hji : j = i
  · subst hji
    refine ⟨x, World.cell?_setCell_same _ _ _ h1, by rw [World.frozen?_setCell]; exact h2, fun _ => ?_, fun hh => by omega⟩
    rw [e1, List.getD_eq_getElem?_getD, List.getElem?_append_right (by rw [h.len]; omega), h.len]
    simp
  · refine ⟨y, by rw [World.cell?_setCell_other _ _ _ _ (by intro e'; injection e' with e1 e2; omega)]; exact h1, by rw [World.frozen?_setCell]; exact h2, fun hh => ?_, fun hh => h4 (by omega)⟩
    rw [e1, h3 (by omega), List.getD_eq_getElem?_getD, List.getD_eq_getElem?_getD, List.getElem?_append_left (by rw [h.len]; omega)]
theorem run_from (w : World) (g off n c i : Nat) (h : i < n) (hc : n ≤ c) : (Instr.sliceAt 22 (.slice (some ⟨g, off, none⟩) n c) (some (.int .i64 (i : Nat))) none none).run Try.prog w = .ok (.slice (some ⟨g, off + i, none⟩) (n - i) (c - i)) w := by
  obtain ⟨i0, hi, hz0, hz1, hz2⟩ := info_parts infoInt
  have he : Try.prog.elem 22 = 3 := by kernel_rfl
  have ht : Try.prog.underlying 22 = some (.slice (Try.prog.elem 22)) := by rw [he]; exact Try.underlying22
  have hci : ¬ c = i := by omega
  rw [run_sliceAt_slice w _ _ _ _ _ ht, run_slice_l w _ _ _ _ ht .i64 (i : Nat) (by omega) (by omega)]
  simp [sizeOf, typeInfo, he, hi, hz1, sliced, hci, Addr.add_lit]
theorem run_upto (w : World) (g off n c i : Nat) (h : i ≤ n) (hc : n ≤ c) : (Instr.sliceAt 22 (.slice (some ⟨g, off, none⟩) n c) none (some (.int .i64 (i : Nat))) none).run Try.prog w = .ok (.slice (some ⟨g, off, none⟩) i c) w := by
  obtain ⟨i0, hi, hz0, hz1, hz2⟩ := info_parts infoInt
  have he : Try.prog.elem 22 = 3 := by kernel_rfl
  have ht : Try.prog.underlying 22 = some (.slice (Try.prog.elem 22)) := by rw [he]; exact Try.underlying22
  rw [run_sliceAt_slice w _ _ _ _ _ ht, run_slice_h w _ _ _ _ ht .i64 (i : Nat) (by omega) (by omega)]
  simp [sizeOf, typeInfo, he, hi, hz1, sliced, Addr.add_lit]
theorem zInt (w : World) : Sem.run Try.prog (zeroValue 3) w = .ok (.int .i64 0) w := by kernel_rfl
/-- What is left, behind a row's end that is cleared. -/
theorem Dz.done {w : World} {g off n : Nat} {e : Int} {l : List Int} {i : Nat} (h : Dz w g off n e l i n) (hn : l.length = n) (hg : g < w.heap.size) (hi : i ≤ n) (cs : List Value) : Li (w.setCells g (off + i) cs) (some ⟨g, off, none⟩) (wo e l) := by
  have ht : l.take n = l := by rw [← hn]; exact List.take_length
  have hlen := h.len
  rw [ht] at hlen
  refine .inr ⟨g, off, rfl, Nat.zero_le _, ?_, fun j hj => ?_⟩
  · exact Nat.lt_of_lt_of_le hg (((But.refl [g] w).setCells (by simp) cs (off + i)).size)
  · rw [hlen] at hj
    obtain ⟨y, h1, -, h3, -⟩ := h.at_ j (by omega)
    rw [World.cell?_setCells_out g cs (off + i) w ⟨g, off + j, none⟩ (fun _ _ => by show off + j < _ ∨ _ ≤ off + j; omega), h1, h3 hj, ht]
set_option maxHeartbeats 2000000 in
theorem deleteFunc_c (v : Value) (base n : Nat) (e : Int) (cl : Nat) (l : List Int) (w : World) (h : Que w base 1 v n (zi l)) (hm : n ≤ 100000) (hc : w.cell? ⟨cl, 0, none⟩ = some (.int .i64 e)) (hcl : cl < base) :
    Calls Try.prog 20 #[v, clo cl] w fun r w' => ∃ A c, r = .returned (.slice A (wo e l).length c) ∧ Li w' A (wo e l) ∧ But v.ownBlock.toList w w' := by
  obtain ⟨A, c, rfl, hn, hli⟩ := que_li h
  have HIF := hid (indexFunc_c A n c e cl l w hli hn hm hc)
  unfold clo at HIF ⊢
  rcases wt_cases e l with ⟨e1, hno⟩ | ⟨j, hj, e1, hat, hbe⟩
  · have hw : wo e l = l := wo_self hno
    have HL := hid hli
    have HN := hid hn
    rw [hw]
    rw [e1] at HIF
    clear e1 hno hli h hn hc
    go_enter Try.func20, Try.ntmps20
    go_wp2_with fail
    refine HIF.out.mono ?_
    rintro r w1 ⟨rfl, k1⟩
    have K1 := hid k1
    clear k1 HIF
    go_wp2
    go_ret
    exact ⟨A, c, by rw [HN.out]; rfl, HL.out.keep K1.out, K1.out.any _⟩
  · rcases h.2 with ⟨h0, h00⟩ | ⟨g, off, cap, hv, hbg, hg, hnc, hcm, hth, hr⟩
    · omega
    injection hv with e2 e3 e4
    subst e2
    subst e4
    have hgc : cl ≠ g := by omega
    have HD0 : Hid (Dz w g off n e l j (j + 1)) := by
      have e5 : wo e (l.take (j + 1)) = l.take j := by
        rw [wo_take e l j hj, if_pos hat]
        exact wo_self fun q hq => by
          rw [List.length_take] at hq
          have := hbe q (by omega)
          rw [List.getD_eq_getElem?_getD, List.getElem?_take, if_pos (by omega), ← List.getD_eq_getElem?_getD]
          exact this
      refine ⟨by rw [e5, List.length_take]; omega, fun q hq => ⟨l.getD q 0, hr q _ (zi_get l q (by omega)), (hth q (by omega)).2, fun hh => ?_, fun _ => rfl⟩⟩
      rw [e5, List.getD_eq_getElem?_getD, List.getD_eq_getElem?_getD, List.getElem?_take, if_pos hh]
    have HN := hid hn
    have HC := hid hc
    rw [e1] at HIF
    have hjn : j < n := by omega
    have HG := hid hg
    clear e1 hat hbe hli h hc hbg hcm hth hr hj e3 hg
    have hn' := hn
    clear hn
    go_enter Try.func20, Try.ntmps20
    go_wp2_with fail
    refine HIF.out.mono ?_
    rintro r w1 ⟨rfl, k1⟩
    have HD1 : Hid (Dz w1 g off n e l j (j + 1)) := ⟨HD0.out.len, fun q hq => by
      obtain ⟨y, h1, h2, h3, h4⟩ := HD0.out.at_ q hq
      exact ⟨y, (k1.cell (p := ⟨g, off + q, none⟩) HG.out (by simp)).trans h1, (k1.frozen (p := ⟨g, off + q, none⟩) HG.out (by simp)).trans h2, h3, h4⟩⟩
    have HC1 : Hid (w1.cell? ⟨cl, 0, none⟩ = some (.int .i64 e)) := cell_keep HC.out k1 (by simp)
    have hg1 : g < w1.heap.size := Nat.lt_of_lt_of_le HG.out k1.size
    have K1 := hid k1
    clear k1 HIF HD0 hn'
    have hjm : ((j : Int) == -1) = false := by simp
    go_wp2
    go_loopg [5, 6] (n - j) (fun g0 s5 s6 wx => ∃ i k : Nat, k + g0 = n + 1 ∧ k ≤ n ∧ i < k ∧ s5 = .int .i64 i ∧ s6 = .int .i64 k ∧ Hid (Dz wx g off n e l i k) ∧ Hid (But [g] w1 wx))
    case atStart => exact ⟨j, j + 1, by omega, by omega, by omega, rfl, by go_num, HD1.out, But.refl _ _⟩
    case round =>
      obtain ⟨i, k, hkg, hk, hik, rfl, rfl, HD, HB⟩ := hrel
      have hgr : g < wr.heap.size := Nat.lt_of_lt_of_le hg1 HB.out.size
      by_cases hlt : k < n
      · have hlx : k < l.length := by have := HN.out; omega
        have HCr : Hid (wr.cell? ⟨cl, 0, none⟩ = some (.int .i64 e)) := cell_keep HC1.out HB.out (by simp; omega)
        obtain ⟨y, hck, -, -, hy⟩ := HD.out.at_ k hlt
        rw [hy (Nat.le_refl _)] at hck
        obtain ⟨y1, hci, hfi, -, -⟩ := HD.out.at_ i (by omega)
        have HSK : Hid (l.getD k 0 = e → Dz wr g off n e l i (k + 1)) := fun he => HD.out.skip hlx he
        have HPT : Hid (l.getD k 0 ≠ e → Dz (wr.setCell ⟨g, off + i, none⟩ (.int .i64 (l.getD k 0))) g off n e l (i + 1) (k + 1)) := fun he => HD.out.put hlx he hik
        generalize l.getD k 0 = x at *
        clear hlx hy HD
        go_wp2_with fail
        refine (pred_c x e cl _ HCr.out).mono ?_
        rintro r w2 ⟨rfl, rfl⟩
        by_cases hv : x = e
        · have hb1 : (x == e) = true := by simp [hv]
          have HE := hid (HSK.out hv)
          rw [hb1]
          clear hv hb1 HSK HPT
          go_wp2
          go_roundg (n + 1 - (k + 1))
          case measure => omega
          case rel => exact ⟨i, k + 1, by omega, by omega, by omega, rfl, by go_num, HE.out, HB.out⟩
        · have hb1 : (x == e) = false := by simp [hv]
          have HE := hid (HPT.out hv)
          rw [hb1]
          clear hv hb1 HSK HPT
          go_wp2
          go_roundg (n + 1 - (k + 1))
          case measure => omega
          case rel => exact ⟨i + 1, k + 1, by omega, by omega, by omega, by go_num, by go_num, HE.out, HB.out.setCell (.inl (by simp)) _⟩
      · obtain rfl : k = n := by omega
        have hs1 := fun w => run_from w g off k c i hik hnc
        have hs2 := fun w => run_upto w g off k c i (Nat.le_of_lt hik) hnc
        have hclr := fun ty => Lib.run_clear_slice (P := Try.prog) wr 22 3 ty (.int .i64 0) Try.underlying22 zInt rfl rfl g (off + i) (k - i) (c - i) (by omega)
          (fun q hq => by
            obtain ⟨y, h1, -⟩ := HD.out.at_ (i + q) (by omega)
            rw [Nat.add_assoc, h1]; rfl)
          (fun q hq => by
            obtain ⟨y, -, h2, -⟩ := HD.out.at_ (i + q) (by omega)
            rw [Nat.add_assoc]; exact h2)
        have HLEN : Hid ((wo e l).length = i) := by
          have h1 := HD.out.len
          rwa [← HN.out, List.take_length] at h1
        go_wp2
        go_ret
        exact ⟨_, c, by rw [HLEN.out]; rfl, HD.out.done HN.out hgr (Nat.le_of_lt hik) _, (K1.out.any _).trans ((HB.out.wider (by simp [Value.ownBlock])).setCells (.inl (by simp [Value.ownBlock])) _ _)⟩
end Go.Proofs.Yteenclhmdnnniaa.Vt
