/-
  Layer 16 (slots): contracts of the document's functions (Right, Next, Without, Wait) and of its comparison of numbers (layer 10), over the translated program.
-/
import Derived.Test.YteenclhmdnnniaaVtOf
namespace Go.Proofs.Yteenclhmdnnniaa.Vt
open Go.ChangeShapes Go.WideShapes Go.ChangeAt Go.RowKit
open Wh
set_option linter.unusedVariables false
set_option maxRecDepth 20000

set_option maxHeartbeats 1000000 in
theorem right_c (A : Option Addr) (n c : Nat) (l : List Int) (w : World) (h : Li w A l) (hn : l.length = n) :
    Calls Try.prog 7 #[.slice A n c] w fun r w' => r = .returned (.bool (okB l)) ∧ But [] w w' := by
  have HL := hid h
  have HN := hid hn
  clear h hn
  by_cases h32 : n ≤ 32
  · go_enter Try.func7, Try.ntmps7
    go_wp2
    go_loopg [3] (n + 1) (fun g0 i wx => ∃ j : Nat, j + g0 = n + 1 ∧ j ≤ n ∧ i = .int .i64 j ∧ Hid (∀ q, q < j → mb (l.getD q 0) = true) ∧ Hid (But [] w wx))
    case atStart => exact ⟨0, by omega, by omega, rfl, fun q hq => absurd hq (Nat.not_lt_zero _), But.refl _ _⟩
    case round =>
      obtain ⟨j, hjg, hj, rfl, HX, HB⟩ := hrel
      by_cases hlt : j < n
      · have hlx : j < l.length := by have := HN.out; omega
        obtain ⟨b, off, hA, hb, hcell⟩ := HL.out.at_ hlx
        have hc := cell_keep (hcell j hlx) HB.out (by simp)
        have HNO : Hid (mb (l.getD j 0) = false → okB l = false) := ok_no hlx
        have HX1 : Hid (mb (l.getD j 0) = true → ∀ q, q < j + 1 → mb (l.getD q 0) = true) := fun h0 q hq => by
          rcases Nat.lt_or_ge q j with h | h
          · exact HX.out q h
          · obtain rfl : q = j := by omega
            exact h0
        generalize l.getD j 0 = x at hc HNO HX1
        subst hA
        clear hcell hlx HX
        by_cases h0 : 0 ≤ x
        · by_cases h1 : x < 16
          · have HX2 := hid (HX1.out (mb_iff.2 ⟨h0, h1⟩))
            clear HX1 HNO
            go_wp2
            go_roundg (n + 1 - (j + 1))
            case measure => omega
            case rel => exact ⟨j + 1, by omega, by omega, by go_num, HX2.out, HB.out⟩
          · have HE := hid (HNO.out (Bool.eq_false_iff.2 fun hh => h1 (mb_iff.1 hh).2))
            clear HX1 HNO
            go_wp2
            go_ret
            exact ⟨by rw [HE.out]; rfl, HB.out⟩
        · have HE := hid (HNO.out (Bool.eq_false_iff.2 fun hh => h0 (mb_iff.1 hh).1))
          clear HX1 HNO
          go_wp2
          go_ret
          exact ⟨by rw [HE.out]; rfl, HB.out⟩
      · obtain rfl : j = n := by omega
        have HE : Hid (okB l = true) := ok_all (by have := HN.out; omega) fun q hq => HX.out q (by have := HN.out; omega)
        go_wp2
        go_ret
        exact ⟨by rw [HE.out]; rfl, HB.out⟩
  · have HE : Hid (okB l = false) := by
      show okB l = false
      rw [Bool.eq_false_iff]
      intro hh
      have := okB_len hh
      have := HN.out
      omega
    go_enter Try.func7, Try.ntmps7
    go_wp2
    go_ret
    exact ⟨by rw [HE.out]; rfl, But.refl _ _⟩
set_option maxHeartbeats 1000000 in
theorem rwait_c (A : Option Addr) (n c : Nat) (e : Int) (l : List Int) (w : World) (h : Li w A l) (hn : l.length = n) (hm : n ≤ 100000) :
    Calls Try.prog 15 #[.slice A n c, .int .i64 e] w fun r w' => r = .returned (.int .i64 (wt e l)) ∧ But [] w w' := by
  have HL := hid h
  have HN := hid hn
  clear h hn
  go_enter Try.func15, Try.ntmps15
  go_wp2
  go_loopg [5] (n + 1) (fun g0 i wx => ∃ j : Nat, j + g0 = n + 1 ∧ j ≤ n ∧ i = .int .i64 j ∧ Hid (∀ q, q < j → l.getD q 0 ≠ e) ∧ Hid (But [] w wx))
  case atStart => exact ⟨0, by omega, by omega, rfl, fun q hq => absurd hq (Nat.not_lt_zero _), But.refl _ _⟩
  case round =>
    obtain ⟨j, hjg, hj, rfl, HX, HB⟩ := hrel
    by_cases hlt : j < n
    · have hlx : j < l.length := by have := HN.out; omega
      obtain ⟨b, off, hA, hb, hcell⟩ := HL.out.at_ hlx
      have hc := cell_keep (hcell j hlx) HB.out (by simp)
      subst hA
      by_cases hv : l.getD j 0 = e
      · have HE : Hid (wt e l = j) := wt_hit hlx HX.out hv
        rw [hv] at hc
        clear hcell hv hlx
        go_wp2
        go_ret
        exact ⟨by rw [HE.out]; rfl, HB.out⟩
      · have HX1 : Hid (∀ q, q < j + 1 → l.getD q 0 ≠ e) := fun q hq => by
          rcases Nat.lt_or_ge q j with h | h
          · exact HX.out q h
          · obtain rfl : q = j := by omega
            exact hv
        generalize l.getD j 0 = x at hc hv
        have hne : (x == e) = false := by simp [hv]
        clear hcell hlx hv HX
        go_wp2
        go_roundg (n + 1 - (j + 1))
        case measure => omega
        case rel => exact ⟨j + 1, by omega, by omega, by go_num, HX1.out, HB.out⟩
    · obtain rfl : j = n := by omega
      have HE : Hid (wt e l = -1) := wt_no fun q hq => HX.out q (by have := HN.out; omega)
      go_wp2
      go_ret
      exact ⟨by rw [HE.out]; rfl, HB.out⟩
set_option maxHeartbeats 1000000 in
theorem ints_c (A B : Option Addr) (n c d : Nat) (l : List Int) (w : World) (hn : l.length = n) (hm : n ≤ 100000) (hr : Li w A l) (hs : Li w B l) :
    Calls Try.prog 16 #[.slice A n c, .slice B n d] w fun e w' => e = .returned (.bool true) ∧ But [] w w' := by
  have HN := hid hn
  have HR := hid hr
  have HS := hid hs
  clear hn hr hs
  go_enter Try.func16, Try.ntmps16
  go_wp2
  go_loopg [5] (n + 1) (fun g0 i wr => ∃ m : Nat, m + g0 = n + 1 ∧ m ≤ n ∧ i = .int .i64 m ∧ Hid (But [] w wr))
  case atStart => exact ⟨0, by omega, Nat.zero_le _, rfl, But.refl _ _⟩
  case round =>
    obtain ⟨m, hmg, hmn, rfl, hbel⟩ := hrel
    by_cases hlt : m < n
    · have hlx : m < l.length := by have := HN.out; omega
      obtain ⟨b, off, hA, hb, hcell⟩ := HR.out.at_ hlx
      obtain ⟨b2, off2, hB, hb2, hcell2⟩ := HS.out.at_ hlx
      have hc1 := cell_keep (hcell m hlx) hbel.out (by simp)
      have hc2 := cell_keep (hcell2 m hlx) hbel.out (by simp)
      generalize l.getD m 0 = q at *
      subst hA
      subst hB
      clear hcell hcell2 hlx
      go_wp2
      go_quiet (fail)
      go_wp2
      go_roundg (n + 1 - (m + 1))
      case measure => omega
      case rel => exact ⟨m + 1, by omega, by omega, by go_num, hbel.out.drewN _⟩
    · obtain rfl : m = n := by omega
      go_wp2
      go_ret
      exact ⟨rfl, hbel.out⟩
/-- A row that is copied behind an empty one. -/
theorem que_copy {w : World} {n c : Nat} {A : Option Addr} {l : List Int} (h : Li w A l) (hl : l.length = n) (hn : n ≤ 100000) :
    ∃ v' w', (Builtin.append_ #[22, 22] 22 #[.slice none 0 0, .slice A n c]).run Try.prog w = .ok v' w' ∧ Que w' w.heap.size 1 v' n (zi l) ∧ But [] w w' := by
  obtain ⟨i0, hi, hz0, hz1, hz2⟩ := info_parts infoInt
  have hs : Src Try.prog 1 22 (.slice A n c) n (zi l) w := by
    cases A with
    | none =>
      have h0 : l = [] := by
        rcases h with h | ⟨g, off, e, _⟩
        · exact h
        · cases e
      subst h0
      obtain rfl : n = 0 := hl.symm
      exact Src.ofNil w Try.underlying22 c
    | some a =>
      refine Src.ofSlice w Try.underlying22 a n c (zi l) (by rw [zi_len, Nat.mul_one]; exact hl) (fun j u hu => ?_) (zi_one l)
      have hj : j < l.length := by have := (List.getElem?_eq_some_iff.1 hu).1; rwa [zi_len] at this
      rw [zi_get _ _ hj] at hu
      obtain rfl := Option.some.inj hu
      obtain ⟨g, off, e, h1, hc⟩ := h.at_ hj
      injection e with e
      subst e
      rw [Addr.add_mid]
      exact hc j hj
  obtain ⟨v', w', hr, hq, hk, ho⟩ := run_append_que (P := Try.prog) w w.heap.size 22 22 3 i0 _ 1 8 Try.underlying22 hi hz0 hz1 hz2 rfl (by decide) (.slice none 0 0) 0 [] (Que.nil _ _ _) (.slice A n c) n (zi l) hs (by unfold maxLen; omega) (by omega) (Nat.le_refl _)
  refine ⟨v', w', hr, by simpa using hq, hk.wider (by simp [Value.ownBlock])⟩
theorem run_tail (w : World) (g off n c : Nat) (hc : n + 1 ≤ c) : ∃ off' c', (∀ w, (Instr.sliceAt 22 (.slice (some ⟨g, off, none⟩) (n + 1) c) (some (.int .i64 1)) none none).run Try.prog w = .ok (.slice (some ⟨g, off', none⟩) n c') w) ∧ (n = 0 ∨ off' = off + 1) := by
  obtain ⟨i0, hi, hz0, hz1, hz2⟩ := info_parts infoInt
  have he : Try.prog.elem 22 = 3 := by kernel_rfl
  have ht : Try.prog.underlying 22 = some (.slice (Try.prog.elem 22)) := by rw [he]; exact Try.underlying22
  by_cases h1 : c = 1
  · subst h1
    obtain rfl : n = 0 := by omega
    refine ⟨off, 0, fun w => ?_, .inl rfl⟩
    rw [run_sliceAt_slice w _ _ _ _ _ ht, run_slice_l w _ _ _ _ ht .i64 1 (by omega) (by omega)]
    simp [sizeOf, typeInfo, he, hi, hz1, sliced]
  · refine ⟨off + 1, c - 1, fun w => ?_, .inr rfl⟩
    rw [run_sliceAt_slice w _ _ _ _ _ ht, run_slice_l w _ _ _ _ ht .i64 1 (by omega) (by omega)]
    simp [sizeOf, typeInfo, he, hi, hz1, sliced, h1, Addr.add_lit]
set_option maxHeartbeats 2000000 in
theorem rnext_c (A : Option Addr) (n c : Nat) (l : List Int) (w : World) (h : Li w A l) (hn : l.length = n) (hnc : n ≤ c) (hm : n ≤ 100000) :
    Calls Try.prog 11 #[.slice A n c] w fun r w' => ∃ v, r = .returned v ∧ Que w' w.heap.size 1 v n (zi (rt l)) ∧ But [] w w' := by
  cases l with
  | nil =>
    obtain rfl : n = 0 := hn.symm
    go_enter Try.func11, Try.ntmps11
    go_wp2
    go_ret
    exact ⟨_, rfl, Que.nil _ _ _, But.refl _ _⟩
  | cons x l =>
    obtain ⟨m, hlm⟩ : ∃ m, l.length = m := ⟨_, rfl⟩
    obtain rfl : n = m + 1 := by rw [← hn, ← hlm]; rfl
    obtain ⟨g, off, rfl, hg, hcell⟩ := h.at_ (k := 0) (by simp)
    obtain ⟨off', c', hsl, hoff⟩ := run_tail w g off m c hnc
    have hli : Li w (some ⟨g, off', none⟩) l := by
      rcases hoff with h0 | h0
      · subst h0
        exact .inl (List.eq_nil_of_length_eq_zero hlm)
      · subst h0
        exact .inr ⟨g, off + 1, rfl, Nat.zero_le _, hg, fun j hj => by
          have := hcell (j + 1) (by simpa using hj)
          rwa [show off + (j + 1) = off + 1 + j by omega] at this⟩
    obtain ⟨v1, w1, hr1, hq1, hk1⟩ := que_copy (c := c') hli hlm (by omega)
    have hx : w1.cell? ⟨g, off, none⟩ = some (.int .i64 x) := by
      have := hcell 0 (by simp)
      rw [Nat.add_zero] at this
      exact cell_keep this hk1 (by simp)
    obtain ⟨g5, off5, c5, w5, hr5, hq5, hk5, -⟩ := que_push (P := Try.prog) 22 3 (.int .i64 0) Try.underlying22 infoInt rfl (by decide) (by decide) hq1 [.int .i64 x] rfl (one_int _ _) hk1.size (by omega)
    have HSL := hid hsl
    have HR1 := hid hr1
    have HR5 := hid hr5
    have HX := hid hx
    have HQ5 : Hid (Que w5 w.heap.size 1 (.slice (some ⟨g5, off5, none⟩) (m + 1) c5) (m + 1) (zi (rt (x :: l)))) := by
      show Que _ _ _ _ _ _
      rw [show rt (x :: l) = l ++ [x] from rfl, zi_app]
      exact hq5
    have HK5 : Hid (But [] w w5) := but_own hk1 hk5 (fun i hi => (hq1.lt i hi).1)
    clear hsl hr1 hr5 hx hq5 hk5 hq1 hk1 hli hoff hcell h hn
    have hx := HX.out
    go_enter Try.func11, Try.ntmps11
    go_wp2_with (first
      | (refine wpList_slice_known _ rfl 22 _ _ _ _ rfl (HSL.out _) ?_)
      | (refine wpList_append_known _ rfl _ _ 22 rfl _ _ rfl rfl HR1.out ?_)
      | (refine wpList_append_known _ rfl _ _ 22 rfl _ _ rfl rfl HR5.out ?_))
    go_ret
    exact ⟨_, rfl, HQ5.out, HK5.out⟩
set_option maxHeartbeats 2000000 in
theorem rwithout_c (A : Option Addr) (n c : Nat) (e : Int) (l : List Int) (w : World) (h : Li w A l) (hn : l.length = n) (hm : n ≤ 1000) :
    Calls Try.prog 13 #[.slice A n c, .int .i64 e] w fun r w' => ∃ v, r = .returned v ∧ Que w' w.heap.size 1 v (wo e l).length (zi (wo e l)) ∧ But [] w w' := by
  have HL := hid h
  have HN := hid hn
  clear h hn
  go_enter Try.func13, Try.ntmps13
  go_wp2
  go_loopg [5, 6] (n + 1) (fun g0 v i wx => ∃ j : Nat, j + g0 = n + 1 ∧ j ≤ n ∧ i = .int .i64 j ∧ Hid (Que wx w.heap.size 1 v (wo e (l.take j)).length (zi (wo e (l.take j)))) ∧ Hid (But [] w wx))
  case atStart => exact ⟨0, by omega, by omega, rfl, Que.nil _ _ _, But.refl _ _⟩
  case round =>
    obtain ⟨j, hjg, hj, rfl, HQ, HB⟩ := hrel
    by_cases hlt : j < n
    · have hlx : j < l.length := by have := HN.out; omega
      obtain ⟨b, off, hA, hb, hcell⟩ := HL.out.at_ hlx
      have hc := cell_keep (hcell j hlx) HB.out (by simp)
      have HW := hid (wo_take e l j hlx)
      have hle := wo_le e (l.take j)
      rw [List.length_take] at hle
      generalize l.getD j 0 = x at hc HW
      generalize wo e (l.take j) = y at *
      subst hA
      clear hcell hlx
      by_cases hv : x = e
      · have HW2 : Hid (wo e (l.take (j + 1)) = y) := by have := HW.out; rwa [if_pos hv] at this
        have hne : (x == e) = true := by simp [hv]
        clear hv HW
        go_wp2
        go_roundg (n + 1 - (j + 1))
        case measure => omega
        case rel => exact ⟨j + 1, by omega, by omega, by go_num, by rw [HW2.out]; exact HQ.out, HB.out⟩
      · have HW2 : Hid (wo e (l.take (j + 1)) = y ++ [x]) := by have := HW.out; rwa [if_neg hv] at this
        have hne : (x == e) = false := by simp [hv]
        obtain ⟨g5, off5, c5, w5, hr5, hq5, hk5, -⟩ := que_push (P := Try.prog) 22 3 (.int .i64 0) Try.underlying22 infoInt rfl (by decide) (by decide) HQ.out [.int .i64 x] rfl (one_int _ _) HB.out.size (by omega)
        have HR5 := hid hr5
        have HQ5 : Hid (Que w5 w.heap.size 1 (.slice (some ⟨g5, off5, none⟩) (y.length + 1) c5) (wo e (l.take (j + 1))).length (zi (wo e (l.take (j + 1))))) := by
          show Que _ _ _ _ _ _
          rw [HW2.out, zi_app, List.length_append]
          exact hq5
        have HK5 : Hid (But [] w w5) := but_own HB.out hk5 (fun i hi => (HQ.out.lt i hi).1)
        obtain ⟨A0, c0, rfl, -⟩ := HQ.out.form
        clear hv HW hr5 hq5 hk5
        go_wp2_with (first
          | (refine wpList_append_known _ rfl _ _ 22 rfl _ _ rfl rfl HR5.out ?_))
        go_roundg (n + 1 - (j + 1))
        case measure => omega
        case rel => exact ⟨j + 1, by omega, by omega, by go_num, HQ5.out, HK5.out⟩
    · obtain rfl : j = n := by omega
      have HT : Hid (l.take j = l) := by show _ = _; rw [← HN.out]; exact List.take_length
      go_wp2
      go_ret
      exact ⟨_, rfl, by have := HQ.out; rwa [HT.out] at this, HB.out⟩
end Go.Proofs.Yteenclhmdnnniaa.Vt
