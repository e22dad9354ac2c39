/-
  Layer 8 (disk): contracts of Twin, over the translated program.
-/
import Derived.Test.YtnjnplepecmfaaaDkTwo
import Derived.Laws.AppendOwnNone
import Derived.Deep.RegionHeld3
namespace Go.Proofs.Ytnjnplepecmfaaa.Dk
open Go.ChangeShapes Go.WideShapes Go.ChangeAt Go.RowKit
set_option linter.unusedVariables false
set_option maxRecDepth 20000

/-- The cells of what lasts, as a list. -/
def rwL (n : Nat) (L : Nat → Dat) : List Value := (List.range (n * 64)).map (rwF L)
theorem rwL_len (n : Nat) (L : Nat → Dat) : (rwL n L).length = n * 64 := by simp [rwL]
theorem rwL_get (n : Nat) (L : Nat → Dat) (j : Nat) (h : j < n * 64) : (rwL n L)[j]? = some (rwF L j) := by simp [rwL, h]
theorem rwL_one (n : Nat) (L : Nat → Dat) : ∀ v ∈ rwL n L, v.oneCell' = true := by
  intro v hv
  simp only [rwL, List.mem_map] at hv
  obtain ⟨i, _, rfl⟩ := hv
  rfl
attribute [irreducible] rwL
theorem own_vb {w : World} {base n : Nat} {e : TypeId} {v : Value} {L : Nat → Dat} (h : w.ownsRow base e 64 v n (rwL n L)) (hn : 0 < n) : ∃ g cap, v = .slice (some ⟨g, 0, none⟩) n cap ∧ base ≤ g ∧ g < w.heap.size ∧ VB w g (64 * n) (rwF L) := by
  obtain ⟨hl, h | ⟨g, cap, cur, rfl, hg, hh, hnc, hcm, hsz, htk⟩⟩ := h
  · exact absurd h.2 (by omega)
  · refine ⟨g, cap, rfl, hg, ?_, fun j hj => ⟨?_, by simp [World.frozen?, hh]⟩⟩
    · rcases Nat.lt_or_ge g w.heap.size with hlt | hge
      · exact hlt
      · rw [Array.getElem?_eq_none hge] at hh; cases hh
    · have hj' := rwL_get n L j (by omega)
      rw [← htk, List.getElem?_take, if_pos (by omega)] at hj'
      simp only [World.cell?, hh]
      simpa using hj'
theorem cloneData_c (bl n cl : Nat) (L : Nat → Dat) (w : World) (h : VB w bl (64 * n) (rwF L)) (h0 : 0 < n) (h1 : n ≤ 512) :
    Calls Try.prog 30 #[.slice (some ⟨bl, 0, none⟩) n cl] w fun e w' => ∃ g cap, e = .returned (.slice (some ⟨g, 0, none⟩) n cap) ∧ w.heap.size ≤ g ∧ VB w' g (64 * n) (rwF L) ∧ But [] w w' := by
  have H : Hid (VB w bl (64 * n) (rwF L)) := h
  obtain ⟨i0, hi, hz0, hz1, hz2⟩ := info_parts infData
  have HI : Hid (Try.prog.info? 34 = some i0) := hi
  have HZ0 : Hid (i0.zero = some (.agg (dv d0).toArray)) := hz0
  have HZ1 : Hid (i0.size = 64) := hz1
  have HZ2 : Hid (i0.bytes = 64) := hz2
  have HO : Hid ((w.alloc (.cells #[] 34)).ownsRow w.heap.size 34 64 (.slice (some ⟨w.heap.size, 0, none⟩) 0 0) 0 []) := ⟨rfl, .inr ⟨w.heap.size, 0, #[], rfl, Nat.le_refl _, heap_alloc_last w _, Nat.le_refl _, Nat.zero_le _, rfl, rfl⟩⟩
  have HN : Hid (∀ j u, (rwL n L)[j]? = some u → (w.alloc (.cells #[] 34)).cell? ((⟨bl, 0, none⟩ : Addr).add j) = some u) := fun j u hu => by
    have hj : j < n * 64 := by have := (List.getElem?_eq_some_iff.1 hu).1; rwa [rwL_len] at this
    rw [rwL_get n L j hj] at hu
    rw [Addr.add_mid, Nat.zero_add, ← hu]
    exact ((h.keep ((But.refl [] w).alloc _) (by simp)) j (by omega)).1
  clear h hi hz0 hz1 hz2
  have hsn := fun (a : Option Addr) (l c : Nat) (w : World) => Lib.run_eql_slice_nil (P := Try.prog) w 56 34 a l c 0 0 Try.underlying56
  go_enter Try.func30, Try.ntmps30
  go_wp2_with (first
    | (at_builtin; refine wpList_append_own _ rfl _ _ 56 rfl w.heap.size 34 i0 (.agg (dv d0).toArray) 64 64 Try.underlying56 HI.out HZ0.out HZ1.out HZ2.out ?c0 (by decide) _ _ _ rfl HO.out ⟨bl, 0, none⟩ n cl (rwL n L) rfl (rwL_len n L) HN.out (rwL_one n L) ?c3 ?c4 ?c5 ?_))
  case c0 => simp [Value.cells, dv_len]
  case c3 => unfold maxLen; omega
  case c4 => omega
  case c5 => simp
  intro v2 w2 hown hgrow hnil
  have hown' : w2.ownsRow w.heap.size 34 64 v2 n (rwL n L) := by simpa using hown
  obtain ⟨g, cap, rfl, hg, hgl, hvb⟩ := own_vb hown' h0
  have HV : Hid (VB w2 g (64 * n) (rwF L)) := hvb
  have HB : Hid (But [] w w2) := (((But.refl _ w).alloc _).grown hgrow (fun k e => .inr (by have := (own_lt HO.out e).1; exact this)))
  clear hown hown' hgrow hnil hvb
  go_wp2
  go_ret
  exact ⟨g, cap, rfl, hg, HV.out, HB.out⟩
theorem cat_news {w : World} {g : Nat} {W : List Wr} (h : ∀ i, i < W.length → w.rangeAt g (i * 65) (wv (W.getD i w0))) : ∀ j u, (cat W)[j]? = some u → w.cell? ((⟨g, 0, none⟩ : Addr).add j) = some u := by
  intro j u hu
  have hj : j < W.length * 65 := by have := (List.getElem?_eq_some_iff.1 hu).1; rwa [cat_len] at this
  have h1 := cat_get W (j / 65) (j % 65) (by omega) (by omega)
  rw [show j / 65 * 65 + j % 65 = j by omega, hu] at h1
  rw [Addr.add_mid]
  have := h (j / 65) (by omega) (j % 65) u h1.symm
  rwa [show j / 65 * 65 + j % 65 = 0 + j by omega] at this
theorem cloneWrite_nil (w : World) : Calls Try.prog 31 #[.slice none 0 0] w fun e w' => e = .returned (.slice none 0 0) ∧ w = w' := by
  have hsn := fun (a : Option Addr) (l c : Nat) (w : World) => Lib.run_eql_slice_nil (P := Try.prog) w 57 71 a l c 0 0 Try.underlying57
  go_enter Try.func31, Try.ntmps31
  go_wp2
  go_ret
  exact ⟨rfl, rfl⟩
theorem cloneWrite_some (g c : Nat) (W : List Wr) (w : World) (h : ∀ i, i < W.length → w.rangeAt g (i * 65) (wv (W.getD i w0))) (hW : W.length ≤ 1000) :
    Calls Try.prog 31 #[.slice (some ⟨g, 0, none⟩) W.length c] w fun e w' => ∃ A' c', e = .returned (.slice A' W.length c') ∧ w'.ownsRow w.heap.size tP 65 (.slice A' W.length c') W.length (cat W) ∧ But [] w w' := by
  obtain ⟨i0, hi, hz0, hz1, hz2⟩ := info_parts infWrite
  have HI : Hid (Try.prog.info? 71 = some i0) := hi
  have HZ0 : Hid (i0.zero = some (.agg (wv w0).toArray)) := hz0
  have HZ1 : Hid (i0.size = 65) := hz1
  have HZ2 : Hid (i0.bytes = 72) := hz2
  have HO : Hid ((w.alloc (.cells #[] 71)).ownsRow w.heap.size 71 65 (.slice (some ⟨w.heap.size, 0, none⟩) 0 0) 0 []) := ⟨rfl, .inr ⟨w.heap.size, 0, #[], rfl, Nat.le_refl _, heap_alloc_last w _, Nat.le_refl _, Nat.zero_le _, rfl, rfl⟩⟩
  have HN : Hid (∀ j u, (cat W)[j]? = some u → (w.alloc (.cells #[] 71)).cell? ((⟨g, 0, none⟩ : Addr).add j) = some u) := cat_news (fun i hi' => range_keep (h i hi') ((But.refl [] w).alloc _) (by simp))
  have HL : Hid ((cat W).length = W.length * 65) := cat_len W
  have H1 : Hid (∀ v ∈ cat W, v.oneCell' = true) := cat_one W
  clear h hi hz0 hz1 hz2
  have hsn := fun (a : Option Addr) (l c : Nat) (w : World) => Lib.run_eql_slice_nil (P := Try.prog) w 57 71 a l c 0 0 Try.underlying57
  go_enter Try.func31, Try.ntmps31
  go_wp2_with (first
    | (at_builtin; refine wpList_append_own _ rfl _ _ 57 rfl w.heap.size 71 i0 (.agg (wv w0).toArray) 65 72 Try.underlying57 HI.out HZ0.out HZ1.out HZ2.out ?c0 (by decide) _ _ _ rfl HO.out ⟨g, 0, none⟩ W.length c (cat W) rfl HL.out HN.out H1.out ?c3 ?c4 ?c5 ?_))
  case c0 => simp [Value.cells, wv_len]
  case c3 => unfold maxLen; omega
  case c4 => omega
  case c5 => simp
  intro v2 w2 hown hgrow hnil
  have hown' : w2.ownsRow w.heap.size tP 65 v2 W.length (cat W) := by simpa using hown
  obtain ⟨A', c', rfl, -⟩ := Ws.of_own hown'
  have HO2 : Hid (w2.ownsRow w.heap.size tP 65 (.slice A' W.length c') W.length (cat W)) := hown'
  have HB : Hid (But [] w w2) := (((But.refl _ w).alloc _).grown hgrow (fun k e => .inr (by have := (own_lt HO.out e).1; exact this)))
  clear hown hown' hgrow hnil
  go_wp2
  go_ret
  exact ⟨A', c', rfl, HO2.out, HB.out⟩
theorem cloneWrite_c {lo b bl cl n : Nat} {v : Value} {L : Nat → Dat} {W : List Wr} {w : World} (h : DkAt tP w lo b bl cl n v L W) (hW : W.length ≤ 1000) :
    Calls Try.prog 31 #[v] w fun e w' => ∃ A' c', e = .returned (.slice A' W.length c') ∧ w'.ownsRow w.heap.size tP 65 (.slice A' W.length c') W.length (cat W) ∧ But [] w w' := by
  obtain ⟨hl, hv | ⟨g, cap, cur, hv, hg, hh, hr⟩⟩ := h.own
  · obtain ⟨rfl, hn⟩ := hv
    obtain rfl : W = [] := List.eq_nil_of_length_eq_zero hn
    refine (cloneWrite_nil w).mono ?_
    rintro e w1 ⟨rfl, rfl⟩
    exact ⟨none, 0, rfl, own_nil _ _ _, But.refl _ _⟩
  · obtain ⟨A, c, hv2, -, -, h3, -⟩ := h.ws
    rw [hv] at hv2
    injection hv2 with e1 e2 e3
    subst hv
    subst e1
    refine cloneWrite_some g cap W w ?_ hW
    rcases h3 with h3 | ⟨g', e, -, -, hrows⟩
    · subst h3
      intro i hi
      simp at hi
    · injection e with e
      injection e with e
      subst e
      exact hrows
theorem twin_nil (w : World) : Calls Try.prog 16 #[.pointer none] w fun e w' => e = .returned (.pointer none) ∧ w = w' := by
  go_enter Try.func16, Try.ntmps16
  go_wp2
  go_ret
  exact ⟨rfl, rfl⟩
theorem t_keep {w w' : World} {b : Nat} {u v : Value} (h : w.cell? ⟨b, 0, none⟩ = some u ∧ w.cell? ⟨b, 1, none⟩ = some v) (hk : But [] w w') : w'.cell? ⟨b, 0, none⟩ = some u ∧ w'.cell? ⟨b, 1, none⟩ = some v :=
  ⟨cell_keep h.1 hk (by simp), cell_keep h.2 hk (by simp)⟩
set_option maxHeartbeats 1000000 in
theorem twin_c {lo b bl cl n : Nat} {v : Value} {L : Nat → Dat} {W : List Wr} {w : World} (h : DkAt tP w lo b bl cl n v L W) (hW : W.length ≤ 1000) :
    Calls Try.prog 16 #[.pointer (some ⟨b, 0, none⟩)] w fun e w' => ∃ b' bl' cl' v', e = .returned (.pointer (some ⟨b', 0, none⟩)) ∧ DkAt tP w' w.heap.size b' bl' cl' n v' L W ∧ But [] w w' := by
  have H : Hid (DkAt tP w lo b bl cl n v L W) := h
  have hcc : w.cell? ⟨b, 0, none⟩ = some (.slice (some ⟨bl, 0, none⟩) n cl) ∧ w.cell? ⟨b, 1, none⟩ = some v := ⟨h.c0, h.c1⟩
  have HD : Hid (DkAt tP w.drew lo b bl cl n v L W) := h.keep0 (But.refl [] w).drew
  have HW : Hid (W.length ≤ 1000) := hW
  clear h hW
  go_enter Try.func16, Try.ntmps16
  go_wp2
  go_region_held3 (fun w' => w'.cell? ⟨b, 0, none⟩ = some (.slice (some ⟨bl, 0, none⟩) n cl) ∧ w'.cell? ⟨b, 1, none⟩ = some v)
    (first | assumption | exact t_keep hcc (But.refl [] w).drew | exact hS3 | exact hS4 | exact t_keep hS4 ((But.refl [] _).alloc _))
    (first
      | (go_at_call 30
         refine (cloneData_c bl n cl L _ HD.out.rows HD.out.pos HD.out.most).mono ?_
         rintro e w3 ⟨g, cap, rfl, hg, hvb, hb3⟩
         have HD3 : Hid (DkAt tP w3 lo b bl cl n v L W) := HD.out.keep0 hb3
         have HV3 : Hid (VB w3 g (64 * n) (rwF L) ∧ w.heap.size ≤ g ∧ But [] w w3 ∧ g < w3.heap.size) := ⟨hvb, hg, (But.refl [] w).drew.trans hb3, hvb.lt (by have := HD.out.pos; omega)⟩
         have hS3 := t_keep (t_keep hcc (But.refl [] w).drew) hb3
         clear hg hvb hb3)
      | (go_at_call 31
         refine (cloneWrite_c HD3.out HW.out).mono ?_
         rintro e w4 ⟨A', c', rfl, ho, hb4⟩
         have HO4 : Hid (w4.ownsRow w3.heap.size tP 65 (.slice A' W.length c') W.length (cat W) ∧ But [] w3 w4) := ⟨ho, hb4⟩
         have hS4 := t_keep hS3 hb4
         clear ho hb4))
  clear hS3 hS4 hcc
  go_wp2
  go_ret
  have hp := H.out.pos
  obtain ⟨h1, h2, h3, h4⟩ := HV3.out
  obtain ⟨h5, h6⟩ := HO4.out
  have hs3 := h3.size
  have hs4 := h6.size
  refine ⟨w4.heap.size, g, cap, _, rfl, ⟨by omega, h2, by omega, VB.new _ _ _ 2 rfl _ (fun j hj => ?_), (h1.keep h6 (by simp)).keep ((But.refl [] w4).alloc _) (by simp), own_base (own_keep h5 ((But.refl [] w4).alloc _) (by simp)) hs3, fun k e => ?_, H.out.inn, hp, H.out.most⟩, (h3.trans h6).alloc _⟩
  · have : j = 0 ∨ j = 1 := by omega
    rcases this with rfl | rfl <;> rfl
  · have := own_lt h5 e
    omega
end Go.Proofs.Ytnjnplepecmfaaa.Dk
