/-
  Layer 9 (port): how a port lies in the machine's memory; contracts of place, Len, Room, Send, Receive, Clear, over the translated program.
-/
import Derived.Test.YtlpibbbjmmoifaaProg
import Derived.Test.YtlpibbbjmmoifaaBut
import Derived.Deep.RegionHeld3
import Derived.Deep.CutBlock
import Derived.Deep.DeepCutAuto
namespace Go.Proofs.Ytlpibbbjmmoifaa.Pt
open Go.ChangeShapes Go.WideShapes Go.ChangeAt Go.RowKit
set_option linter.unusedVariables false
set_option maxRecDepth 20000

/-- From place o of block b on there is a port in which the words xs wait, the first one at place s. -/
structure PtAt (w : World) (b o s : Nat) (xs : List Int) : Prop where
  first : s < 64
  most : xs.length ≤ 64
  cf : w.cell? ⟨b, o + 64, none⟩ = some (.int .i64 s)
  cc : w.cell? ⟨b, o + 65, none⟩ = some (.int .i64 xs.length)
  there : w.there b o 66
  ws : ∀ i, i < xs.length → w.cell? ⟨b, o + (s + i) % 64, none⟩ = some (.int .u32 (xs.getD i 0))
theorem PtAt.lt {w : World} {b o s : Nat} {xs : List Int} (h : PtAt w b o s xs) : b < w.heap.size := lt_of_cell h.cf
theorem PtAt.keep {l : List Nat} {w w' : World} {b o s : Nat} {xs : List Int} (h : PtAt w b o s xs) (hk : But l w w') (hn : b ∉ l) : PtAt w' b o s xs :=
  ⟨h.first, h.most, cell_keep h.cf hk hn, cell_keep h.cc hk hn, fun j hj => by
    obtain ⟨h1, h2⟩ := h.there j hj
    exact ⟨by rw [hk.cell (p := ⟨b, o + j, none⟩) h.lt hn]; exact h1, by rw [hk.frozen (p := ⟨b, o + j, none⟩) h.lt hn]; exact h2⟩, fun i hi => cell_keep (h.ws i hi) hk hn⟩
theorem PtAt.keep0 {w w' : World} {b o s : Nat} {xs : List Int} (h : PtAt w b o s xs) (hk : But [] w w') : PtAt w' b o s xs := h.keep hk (by simp)
theorem PtAt.fz {w : World} {b o s : Nat} {xs : List Int} (h : PtAt w b o s xs) {j : Nat} (hj : j < 66) : w.frozen? ⟨b, o + j, none⟩ = false := (h.there j hj).2
theorem PtAt.ex {w : World} {b o s : Nat} {xs : List Int} (h : PtAt w b o s xs) {j : Nat} (hj : j < 66) : ∃ v, w.cell? ⟨b, o + j, none⟩ = some v := Option.isSome_iff_exists.1 (h.there j hj).1

theorem place_c (b o s n : Nat) (xs : List Int) (w : World) (h : PtAt w b o s xs) (hn : n ≤ 64) :
    Calls Try.prog 15 #[.pointer (some ⟨b, o, none⟩), .int .i64 n] w fun e w' => e = .returned (.int .i64 ((s + n) % 64 : Nat)) ∧ w' = w := by
  have hs := h.first
  have hc := h.cf
  have he : Int.tmod ((s : Int) + n) 64 = ((s + n) % 64 : Nat) := by rw [Int.tmod_eq_emod_of_nonneg (by omega)]; omega
  clear h
  go_enter Try.func15, Try.ntmps15
  go_wp2
  go_ret
  exact ⟨rfl, rfl⟩
theorem len_c (b o s : Nat) (xs : List Int) (w : World) (h : PtAt w b o s xs) :
    Calls Try.prog 10 #[.pointer (some ⟨b, o, none⟩)] w fun e w' => e = .returned (.int .i64 xs.length) ∧ w' = w := by
  have hc := h.cc
  clear h
  go_enter Try.func10, Try.ntmps10
  go_wp2
  go_ret
  exact ⟨rfl, rfl⟩
theorem len_nil (w : World) :
    Calls Try.prog 10 #[.pointer none] w fun e w' => e = .returned (.int .i64 0) ∧ w' = w := by
  go_enter Try.func10, Try.ntmps10
  go_wp2
  go_ret
  exact ⟨rfl, rfl⟩
theorem room_c (b o s : Nat) (xs : List Int) (w : World) (h : PtAt w b o s xs) :
    Calls Try.prog 11 #[.pointer (some ⟨b, o, none⟩)] w fun e w' => e = .returned (.int .i64 (64 - xs.length : Nat)) ∧ w' = w := by
  have hc := h.cc
  have hm := h.most
  have he : ((64 - xs.length : Nat) : Int) = 64 - (xs.length : Int) := by omega
  rw [he]
  clear h he
  go_enter Try.func11, Try.ntmps11
  go_wp2
  go_ret
  exact ⟨rfl, rfl⟩
theorem room_nil (w : World) :
    Calls Try.prog 11 #[.pointer none] w fun e w' => e = .returned (.int .i64 0) ∧ w' = w := by
  go_enter Try.func11, Try.ntmps11
  go_wp2
  go_ret
  exact ⟨rfl, rfl⟩

/-- Behind the last word one more. -/
theorem get_snoc (xs : List Int) (v : Int) (i : Nat) : (xs ++ [v]).getD i 0 = if i = xs.length then v else xs.getD i 0 := by
  simp only [List.getD_eq_getElem?_getD]
  by_cases h : i < xs.length
  · rw [List.getElem?_append_left h, if_neg (by omega)]
  · by_cases e : i = xs.length
    · subst e; simp
    · rw [if_neg e, List.getElem?_eq_none (by simp; omega), List.getElem?_eq_none (by omega)]
theorem there_set {w : World} {b o n : Nat} (h : w.there b o n) (p : Addr) (v : Value) : (w.setCell p v).there b o n := fun j hj => by
  obtain ⟨h1, h2⟩ := h j hj
  refine ⟨?_, by rw [World.frozen?_setCell]; exact h2⟩
  obtain ⟨u, hu⟩ := Option.isSome_iff_exists.1 h1
  by_cases e : p = ⟨b, o + j, none⟩
  · subst e; rw [World.cell?_setCell_same _ _ _ hu]; rfl
  · rw [World.cell?_setCell_other _ _ _ _ e]; exact h1
theorem cell_set {w : World} {b p q : Nat} {v u : Value} (h : w.cell? ⟨b, p, none⟩ = some u) : (w.setCell ⟨b, q, none⟩ v).cell? ⟨b, p, none⟩ = some (if p = q then v else u) := by
  by_cases e : p = q
  · subst e; rw [if_pos rfl]; exact World.cell?_setCell_same _ _ _ h
  · rw [if_neg e, World.cell?_setCell_other _ _ _ _ (by intro e'; injection e' with e1 e2; exact e e2.symm)]; exact h
theorem PtAt.send {w : World} {b o s : Nat} {xs : List Int} (h : PtAt w b o s xs) (hx : xs.length < 64) (v : Int) :
    PtAt ((w.setCell ⟨b, o + (s + xs.length) % 64, none⟩ (.int .u32 v)).setCell ⟨b, o + 65, none⟩ (.int .i64 (xs.length + 1))) b o s (xs ++ [v]) := by
  have hs := h.first
  obtain ⟨u, hu⟩ := h.ex (j := (s + xs.length) % 64) (by omega)
  refine ⟨hs, by simp; omega, ?_, ?_, there_set (there_set h.there _ _) _ _, fun i hi => ?_⟩
  · rw [cell_set (cell_set h.cf), if_neg (by omega), if_neg (by omega)]
  · rw [cell_set (cell_set h.cc), if_pos rfl]; simp
  · rw [get_snoc]
    simp at hi
    by_cases e : i = xs.length
    · subst e
      rw [cell_set (cell_set hu), if_neg (by omega), if_pos rfl, if_pos rfl]
    · rw [cell_set (cell_set (h.ws i (by omega))), if_neg (by omega), if_neg (by omega), if_neg e]
theorem PtAt.receive {w : World} {b o s : Nat} {x : Int} {xs : List Int} (h : PtAt w b o s (x :: xs)) :
    PtAt (((w.setCell ⟨b, o + s, none⟩ (.int .u32 0)).setCell ⟨b, o + 64, none⟩ (.int .i64 ((s + 1) % 64 : Nat))).setCell ⟨b, o + 65, none⟩ (.int .i64 xs.length)) b o ((s + 1) % 64) xs := by
  have hs := h.first
  have hm := h.most
  simp at hm
  refine ⟨by omega, by omega, ?_, ?_, there_set (there_set (there_set h.there _ _) _ _) _ _, fun i hi => ?_⟩
  · rw [cell_set (cell_set (cell_set h.cf)), if_neg (by omega), if_pos rfl]
  · rw [cell_set (cell_set (cell_set h.cc)), if_pos rfl]
  · have := h.ws (i + 1) (by simp; omega)
    rw [show o + ((s + 1) % 64 + i) % 64 = o + (s + (i + 1)) % 64 by omega, cell_set (cell_set (cell_set this)), if_neg (by omega), if_neg (by omega), if_neg (by omega)]
    simp

set_option maxHeartbeats 1000000 in
theorem send_c (b o s : Nat) (v : Int) (xs : List Int) (w : World) (h : PtAt w b o s xs) (hx : xs.length < 64) :
    Calls Try.prog 6 #[.pointer (some ⟨b, o, none⟩), .int .u32 v] w fun e w' => e = .returned (.bool true) ∧ PtAt w' b o s (xs ++ [v]) ∧ But [b] w w' := by
  have hs := h.first
  have H : Hid (PtAt w b o s xs) := h
  have H1 : Hid (PtAt w.drew b o s xs) := h.keep0 (But.refl [] w).drew
  obtain ⟨u, hu⟩ := H1.out.ex (j := (s + xs.length) % 64) (by omega)
  have hz : w.drew.frozen? ⟨b, o + (s + xs.length) % 64, none⟩ = false := H1.out.fz (by omega)
  have hc : w.drew.cell? ⟨b, o + 65, none⟩ = some (.int .i64 xs.length) := H1.out.cc
  have hcz : w.drew.frozen? ⟨b, o + 65, none⟩ = false := H1.out.fz (by omega)
  have hp : Hid (Calls Try.prog 15 #[.pointer (some ⟨b, o, none⟩), .int .i64 xs.length] w.drew fun e w' => e = .returned (.int .i64 ((s + xs.length) % 64 : Nat)) ∧ w' = w.drew) := place_c b o s xs.length xs _ H1.out (by omega)
  clear h
  generalize hn : xs.length = n at *
  have HN : Hid (xs.length = n) := hn
  clear hn
  obtain ⟨k, hk⟩ : ∃ k, k = (s + n) % 64 := ⟨_, rfl⟩
  rw [← hk] at hu hz hp
  have HK : Hid (k = (s + n) % 64) := hk
  have hk64 : k < 64 := by omega
  have hki : (k : Int) < 64 := by omega
  have hk0 : 0 ≤ (k : Int) := by omega
  have hne : ¬ (k = 65) := by omega
  have hne' : ¬ (65 = k) := by omega
  have hro : ¬ ((64 - n : Nat) : Int) = 0 := by omega
  clear hk
  go_enter Try.func6, Try.ntmps6
  go_wp2_with fail
  refine (room_c b o s xs _ H.out).mono ?_
  rintro e w1 ⟨rfl, rfl⟩
  rw [HN.out]
  go_wp2
  refine wp_region_still_tail 11 (by kernel_rfl) (by kernel_rfl) ?_
  simp only [List.take_succ_cons, List.take_zero, List.drop_succ_cons, List.drop_zero]
  change wpStill _ _ w1.drew _ _ _
  repeat (first | still_step | still_call hp.out)
  refine wpStill_nil ?_
  change wpList _ _ _ _ _ w1.drew
  have hB : But [b] w1 w1.drew := (But.refl [b] w1).drew
  clear hp
  generalize w1.drew = wd at *
  have hX := H1.out.send (by rw [HN.out]; exact hx) v
  rw [HN.out, ← HK.out] at hX
  have HX : Hid (PtAt ((wd.setCell ⟨b, o + k, none⟩ (.int .u32 v)).setCell ⟨b, o + 65, none⟩ (.int .i64 (n + 1))) b o s (xs ++ [v])) := hX
  have HB : Hid (But [b] w1 (wd.setCell ⟨b, o + k, none⟩ (.int .u32 v))) := hB.setCell (by simp) _
  have hc2 : (wd.setCell ⟨b, o + k, none⟩ (.int .u32 v)).cell? ⟨b, o + 65, none⟩ = some (.int .i64 n) := by rw [cell_set hc, if_neg (by omega)]
  have hz2 : (wd.setCell ⟨b, o + k, none⟩ (.int .u32 v)).frozen? ⟨b, o + 65, none⟩ = false := by rw [World.frozen?_setCell]; exact hcz
  clear hX hc hcz hB
  go_upto_region 4 with fail
  generalize wd.setCell ⟨b, o + k, none⟩ (.int .u32 v) = w2 at *
  clear hu hz
  go_wp2
  go_ret
  exact ⟨rfl, HX.out, HB.out.setCell (by simp) _⟩
theorem send_no (b o s : Nat) (v : Int) (xs : List Int) (w : World) (h : PtAt w b o s xs) (hx : xs.length = 64) :
    Calls Try.prog 6 #[.pointer (some ⟨b, o, none⟩), .int .u32 v] w fun e w' => e = .returned (.bool false) ∧ w' = w := by
  have H : Hid (PtAt w b o s xs) := h
  have HX : Hid (xs.length = 64) := hx
  clear h hx
  go_enter Try.func6, Try.ntmps6
  go_wp2_with fail
  refine (room_c b o s xs _ H.out).mono ?_
  rintro e w1 ⟨rfl, rfl⟩
  rw [HX.out]
  go_wp2
  go_ret
  exact ⟨rfl, rfl⟩
theorem send_nil (v : Int) (w : World) :
    Calls Try.prog 6 #[.pointer none, .int .u32 v] w fun e w' => e = .returned (.bool false) ∧ w' = w := by
  go_enter Try.func6, Try.ntmps6
  go_wp2_with fail
  refine (room_nil _).mono ?_
  rintro e w1 ⟨rfl, rfl⟩
  go_wp2
  go_ret
  exact ⟨rfl, rfl⟩
set_option maxHeartbeats 1000000 in
theorem receive_c (b o s : Nat) (x : Int) (xs : List Int) (w : World) (h : PtAt w b o s (x :: xs)) :
    Calls Try.prog 7 #[.pointer (some ⟨b, o, none⟩)] w fun e w' => e = .returned (.tuple #[.int .u32 x, .bool true]) ∧ PtAt w' b o ((s + 1) % 64) xs ∧ But [b] w w' := by
  have hs := h.first
  have hm : xs.length < 64 := by have := h.most; simp at this; omega
  have H : Hid (PtAt w b o s (x :: xs)) := h
  have hx : w.cell? ⟨b, o + s, none⟩ = some (.int .u32 x) := by have := h.ws 0 (by simp); rwa [show o + (s + 0) % 64 = o + s by omega] at this
  have hf : w.cell? ⟨b, o + 64, none⟩ = some (.int .i64 s) := h.cf
  clear h
  have hls : Hid ((x :: xs).length = xs.length + 1) := rfl
  generalize hn : xs.length = n at *
  have HN : Hid (xs.length = n) := hn
  clear hn
  have hsi : (s : Int) < 64 := by omega
  have hs0 : 0 ≤ (s : Int) := by omega
  go_enter Try.func7, Try.ntmps7
  go_wp2_with fail
  refine (len_c b o s (x :: xs) _ H.out).mono ?_
  rintro e w1 ⟨rfl, rfl⟩
  rw [hls.out]
  go_upto_region 3 with fail
  go_quiet (fail)
  go_upto_region 4 with fail
  have hP := H.out.keep0 ((But.refl [] w1).drewN nq).drew
  have hB : But [b] w1 (w1.drewN nq).drew := ((But.refl [b] w1).drewN nq).drew
  have hx : (w1.drewN nq).drew.cell? ⟨b, o + s, none⟩ = some (.int .u32 x) := hx
  have hf : (w1.drewN nq).drew.cell? ⟨b, o + 64, none⟩ = some (.int .i64 s) := hf
  have hz : (w1.drewN nq).drew.frozen? ⟨b, o + s, none⟩ = false := hP.fz (by omega)
  generalize w1.drewN nq = wq at *
  refine wp_region_still_tail 8 (by kernel_rfl) (by kernel_rfl) ?_
  simp only [List.take_succ_cons, List.take_zero, List.drop_succ_cons, List.drop_zero]
  change wpStill _ _ wq.drew _ _ _
  repeat (first | still_step)
  refine wpStill_nil ?_
  change wpList _ _ _ _ _ wq.drew
  generalize wq.drew = wd at *
  have HP : Hid (PtAt wd b o s (x :: xs)) := hP
  have HB : Hid (But [b] w1 (wd.setCell ⟨b, o + s, none⟩ (.int .u32 0))) := hB.setCell (by simp) _
  have HX : Hid (PtAt (((wd.setCell ⟨b, o + s, none⟩ (.int .u32 0)).setCell ⟨b, o + 64, none⟩ (.int .i64 ((s + 1) % 64 : Nat))).setCell ⟨b, o + 65, none⟩ (.int .i64 n)) b o ((s + 1) % 64) xs) := by
    show PtAt _ _ _ _ _
    have := hP.receive
    rw [HN.out] at this
    exact this
  clear hP hB hf
  go_upto_region 5 with fail
  generalize hw : wd.setCell ⟨b, o + s, none⟩ (.int .u32 0) = w2 at *
  clear hx hz
  have hp : PtAt w2 b o s ((0 : Int) :: xs) := by
    rw [← hw]
    have h := HP.out
    refine ⟨h.first, h.most, ?_, ?_, there_set h.there _ _, fun i hi => ?_⟩
    · rw [cell_set h.cf, if_neg (by omega)]
    · rw [cell_set h.cc, if_neg (by omega)]; simp
    · rw [cell_set (h.ws i hi)]
      by_cases e : i = 0
      · subst e; rw [if_pos (by omega)]; simp
      · have h64 := h.most
        rw [if_neg (by simp at h64 hi; omega)]
        obtain ⟨q, rfl⟩ : ∃ q, i = q + 1 := ⟨i - 1, by omega⟩
        simp
  clear hw
  have hfz : w2.frozen? ⟨b, o + 64, none⟩ = false := hp.fz (by omega)
  have hfc : w2.cell? ⟨b, o + 64, none⟩ = some (.int .i64 s) := hp.cf
  have HQ : Hid (PtAt w2 b o s ((0 : Int) :: xs)) := hp
  clear hp
  go_wp2_with fail
  refine (place_c b o s 1 (0 :: xs) _ HQ.out (by omega)).mono ?_
  rintro e w3 ⟨rfl, rfl⟩
  have hc3 : (w3.setCell ⟨b, o + 64, none⟩ (.int .i64 ((s + 1) % 64 : Nat))).cell? ⟨b, o + 65, none⟩ = some (.int .i64 (n + 1)) := by rw [cell_set HQ.out.cc, if_neg (by omega)]; simp [HN.out]
  have hz3 : (w3.setCell ⟨b, o + 64, none⟩ (.int .i64 ((s + 1) % 64 : Nat))).frozen? ⟨b, o + 65, none⟩ = false := by rw [World.frozen?_setCell]; exact HQ.out.fz (by omega)
  have HB3 : Hid (But [b] w1 (w3.setCell ⟨b, o + 64, none⟩ (.int .i64 ((s + 1) % 64 : Nat)))) := HB.out.setCell (by simp) _
  generalize hq : (s + 1) % 64 = q at *
  have HE : Hid ((s + 1) % 64 = q) := hq
  clear hq
  go_upto_region 6 with fail
  generalize w3.setCell ⟨b, o + 64, none⟩ (.int .i64 q) = w4 at *
  clear hfz hfc
  go_wp2
  go_ret2
  exact ⟨rfl, by rw [HE.out]; exact HX.out, HB3.out.setCell (by simp) _⟩
theorem receive_no (b o s : Nat) (w : World) (h : PtAt w b o s []) :
    Calls Try.prog 7 #[.pointer (some ⟨b, o, none⟩)] w fun e w' => e = .returned (.tuple #[.int .u32 0, .bool false]) ∧ w' = w := by
  have H : Hid (PtAt w b o s []) := h
  clear h
  go_enter Try.func7, Try.ntmps7
  go_wp2_with fail
  refine (len_c b o s [] _ H.out).mono ?_
  rintro e w1 ⟨rfl, rfl⟩
  go_wp2
  go_ret2
  exact ⟨rfl, rfl⟩
theorem receive_nil (w : World) :
    Calls Try.prog 7 #[.pointer none] w fun e w' => e = .returned (.tuple #[.int .u32 0, .bool false]) ∧ w' = w := by
  go_enter Try.func7, Try.ntmps7
  go_wp2_with fail
  refine (len_nil _).mono ?_
  rintro e w1 ⟨rfl, rfl⟩
  go_wp2
  go_ret2
  exact ⟨rfl, rfl⟩
end Go.Proofs.Ytlpibbbjmmoifaa.Pt
