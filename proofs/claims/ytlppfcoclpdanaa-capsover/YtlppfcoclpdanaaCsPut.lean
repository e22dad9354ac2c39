/-
  Layer 12 (caps): what stores make of a tree; contracts of put, New, over the translated program.
-/
import Derived.Test.YtlppfcoclpdanaaCsOv
namespace Go.Proofs.Ytlppfcoclpdanaa.Cs
open Go.ChangeShapes Go.WideShapes Go.ChangeAt Go.RowKit
open Wh Sn
set_option linter.unusedVariables false
set_option maxRecDepth 20000

theorem TrAt.setMade {w : World} {b m : Nat} {Z : List Nat} {T : Tr} {f : Nat → Value} (h : TrAt w b Z T m f) (m' : Nat) : TrAt (w.setCell ⟨b, 192, none⟩ (.int .u64 m')) b Z T m' (fun j => if j = 192 then .int .u64 m' else f j) := by
  have k : But [b] w (w.setCell ⟨b, 192, none⟩ (.int .u64 m')) := (But.refl [b] w).setCell (by simp) _
  refine ⟨h.vb.set _, h.mem, fun z hz => Nat.lt_of_lt_of_le (h.low z hz) k.size, fun p hp => ?_, fun p hp => ?_, fun p hp => ?_, if_pos rfl⟩
  · rw [if_neg (by omega)]; exact h.gen p hp
  · rw [if_neg (by omega)]; exact h.par p hp
  · obtain ⟨A, n, c, e, h1, h2⟩ := h.set p hp
    exact ⟨A, n, c, by rw [if_neg (by omega)]; exact e, h1.keep k (fun g off e0 h0 hm => h2 g off e0 h0 (by simp at hm; rw [hm]; exact h.mem)), h2⟩
theorem TrAt.setNode {w : World} {b m : Nat} {Z : List Nat} {T : Tr} {f : Nat → Value} (h : TrAt w b Z T m f) {p : Nat} (hp : p < 64) (x : Nd) (A : Option Addr) (n c : Nat) (hs : SetAt w 0 A n x.st) (ho : Off Z A n) :
    TrA (((w.setCell ⟨b, p * 3, none⟩ (.int .u64 x.gen)).setCell ⟨b, p * 3 + 1, none⟩ (.int .i64 x.par)).setCell ⟨b, p * 3 + 2, none⟩ (.slice A n c)) b Z (updN T p x) m := by
  have k : But [b] w (((w.setCell ⟨b, p * 3, none⟩ (.int .u64 x.gen)).setCell ⟨b, p * 3 + 1, none⟩ (.int .i64 x.par)).setCell ⟨b, p * 3 + 2, none⟩ (.slice A n c)) :=
    (((But.refl [b] w).setCell (by simp) _).setCell (by simp) _).setCell (by simp) _
  have hk : ∀ {A' : Option Addr} {n' : Nat} {g : Nat → Bool}, SetAt w 0 A' n' g → Off Z A' n' → SetAt (((w.setCell ⟨b, p * 3, none⟩ (.int .u64 x.gen)).setCell ⟨b, p * 3 + 1, none⟩ (.int .i64 x.par)).setCell ⟨b, p * 3 + 2, none⟩ (.slice A n c)) 0 A' n' g :=
    fun h1 h2 => h1.keep k (fun g off e0 h0 hm => h2 g off e0 h0 (by simp at hm; rw [hm]; exact h.mem))
  refine ⟨_, ((h.vb.set _).set _).set _, h.mem, fun z hz => Nat.lt_of_lt_of_le (h.low z hz) k.size, fun q hq => ?_, fun q hq => ?_, fun q hq => ?_, ?_⟩
  · show (if q * 3 = p * 3 + 2 then _ else if q * 3 = p * 3 + 1 then _ else if q * 3 = p * 3 then _ else f (q * 3)) = _
    rw [if_neg (by omega), if_neg (by omega)]
    by_cases e : q = p
    · subst e; rw [if_pos rfl, updN_same]
    · rw [if_neg (by omega), updN_other _ _ e]; exact h.gen q hq
  · show (if q * 3 + 1 = p * 3 + 2 then _ else if q * 3 + 1 = p * 3 + 1 then _ else if q * 3 + 1 = p * 3 then _ else f (q * 3 + 1)) = _
    rw [if_neg (by omega)]
    by_cases e : q = p
    · subst e; rw [if_pos rfl, updN_same]
    · rw [if_neg (by omega), if_neg (by omega), updN_other _ _ e]; exact h.par q hq
  · show ∃ A' n' c', (if q * 3 + 2 = p * 3 + 2 then _ else if q * 3 + 2 = p * 3 + 1 then _ else if q * 3 + 2 = p * 3 then _ else f (q * 3 + 2)) = _ ∧ _
    by_cases e : q = p
    · subst e
      rw [if_pos rfl, updN_same]
      exact ⟨A, n, c, rfl, hk hs ho, ho⟩
    · rw [if_neg (by omega), if_neg (by omega), if_neg (by omega), updN_other _ _ e]
      obtain ⟨A', n', c', e', h1, h2⟩ := h.set q hq
      exact ⟨A', n', c', e', hk h1 h2, h2⟩
  · show (if 192 = p * 3 + 2 then _ else if 192 = p * 3 + 1 then _ else if 192 = p * 3 then _ else f 192) = _
    rw [if_neg (by omega), if_neg (by omega), if_neg (by omega)]
    exact h.made
theorem TrAt.setSet {w : World} {b m : Nat} {Z : List Nat} {T : Tr} {f : Nat → Value} (h : TrAt w b Z T m f) {p : Nat} (hp : p < 64) (g : Nat → Bool) (A : Option Addr) (n c : Nat) (hs : SetAt w 0 A n g) (ho : Off Z A n) :
    TrA (w.setCell ⟨b, p * 3 + 2, none⟩ (.slice A n c)) b Z (updN T p { T p with st := g }) m := by
  have k : But [b] w (w.setCell ⟨b, p * 3 + 2, none⟩ (.slice A n c)) := (But.refl [b] w).setCell (by simp) _
  have hk : ∀ {A' : Option Addr} {n' : Nat} {g : Nat → Bool}, SetAt w 0 A' n' g → Off Z A' n' → SetAt (w.setCell ⟨b, p * 3 + 2, none⟩ (.slice A n c)) 0 A' n' g :=
    fun h1 h2 => h1.keep k (fun g off e0 h0 hm => h2 g off e0 h0 (by simp at hm; rw [hm]; exact h.mem))
  refine ⟨_, h.vb.set _, h.mem, fun z hz => Nat.lt_of_lt_of_le (h.low z hz) k.size, fun q hq => ?_, fun q hq => ?_, fun q hq => ?_, ?_⟩
  · show (if q * 3 = p * 3 + 2 then _ else f (q * 3)) = _
    rw [if_neg (by omega), h.gen q hq]
    by_cases e : q = p
    · subst e; rw [updN_same]
    · rw [updN_other _ _ e]
  · show (if q * 3 + 1 = p * 3 + 2 then _ else f (q * 3 + 1)) = _
    rw [if_neg (by omega), h.par q hq]
    by_cases e : q = p
    · subst e; rw [updN_same]
    · rw [updN_other _ _ e]
  · show ∃ A' n' c', (if q * 3 + 2 = p * 3 + 2 then _ else f (q * 3 + 2)) = _ ∧ _
    by_cases e : q = p
    · subst e
      rw [if_pos rfl, updN_same]
      exact ⟨A, n, c, rfl, hk hs ho, ho⟩
    · rw [if_neg (by omega), updN_other _ _ e]
      obtain ⟨A', n', c', e', h1, h2⟩ := h.set q hq
      exact ⟨A', n', c', e', hk h1 h2, h2⟩
  · show (if 192 = p * 3 + 2 then _ else f 192) = _
    rw [if_neg (by omega)]
    exact h.made
theorem TrAt.fz {w : World} {b m : Nat} {Z : List Nat} {T : Tr} {f : Nat → Value} (h : TrAt w b Z T m f) {j : Nat} (hj : j < 193) : w.frozen? ⟨b, j, none⟩ = false := (h.vb j hj).2
theorem TrAt.cm {w : World} {b m : Nat} {Z : List Nat} {T : Tr} {f : Nat → Value} (h : TrAt w b Z T m f) : w.cell? ⟨b, 192, none⟩ = some (.int .u64 m) := by rw [(h.vb 192 (by omega)).1, h.made]
theorem Off.old {w : World} {lo n : Nat} {A : Option Addr} {f : Nat → Bool} {l : List Nat} (h : SetAt w lo A n f) (hl : ∀ x, x ∈ l → w.heap.size ≤ x) : Off l A n := fun g off e h0 hm => by
  obtain ⟨g', off', e', _, h2, _⟩ := h.at_ (k := 0) (by omega)
  rw [e] at e'
  injection e' with e'
  injection e' with e' _ _
  subst e'
  have := hl _ hm
  omega
theorem Off.app {l Z : List Nat} {n : Nat} {A : Option Addr} (h1 : Off l A n) (h2 : Off Z A n) : Off (l ++ Z) A n := fun g off e h0 hm => by
  rcases List.mem_append.1 hm with h | h
  · exact h1 g off e h0 h
  · exact h2 g off e h0 h
/-- New blocks hold none of its sets. -/
theorem TrAt.wide {w w0 : World} {b m : Nat} {Z : List Nat} {T : Tr} {f : Nat → Value} (h : TrAt w b Z T m f) (k : But [] w w0) (l : List Nat) (hl : ∀ x, x ∈ l → w.heap.size ≤ x ∧ x < w0.heap.size) : TrAt w0 b (l ++ Z) T m f :=
  ⟨h.vb.keep k (by simp), List.mem_append.2 (.inr h.mem), fun z hz => by
    rcases List.mem_append.1 hz with h1 | h1
    · exact (hl z h1).2
    · exact Nat.lt_of_lt_of_le (h.low z h1) k.size, h.gen, h.par, fun p hp => by
    obtain ⟨A, n, c, e, h1, h2⟩ := h.set p hp
    exact ⟨A, n, c, e, h1.keep0 k, (Off.old h1 (fun x hx => (hl x hx).1)).app h2⟩, h.made⟩
theorem TrAt.less {w : World} {b m : Nat} {l Z : List Nat} {T : Tr} {f : Nat → Value} (h : TrAt w b (l ++ Z) T m f) (hb : b ∈ Z) : TrAt w b Z T m f :=
  ⟨h.vb, hb, fun z hz => h.low z (List.mem_append.2 (.inr hz)), h.gen, h.par, fun p hp => by
    obtain ⟨A, n, c, e, h1, h2⟩ := h.set p hp
    exact ⟨A, n, c, e, h1, fun g off e0 h0 hm => h2 g off e0 h0 (List.mem_append.2 (.inr hm))⟩, h.made⟩
theorem TrA.less {w : World} {b m : Nat} {l Z : List Nat} {T : Tr} (h : TrA w b (l ++ Z) T m) (hb : b ∈ Z) : TrA w b Z T m := by
  obtain ⟨f, hf⟩ := h
  exact ⟨f, hf.less hb⟩
theorem but_more {l l' : List Nat} {u w1 w2 : World} (h : But l u w1) (k : But l' w1 w2) (hl : ∀ i, i ∈ l' → i ∈ l ∨ u.heap.size ≤ i) : But l u w2 :=
  ((h.wider (l' := l ++ l') (fun i hi => List.mem_append.2 (.inl hi))).trans (k.wider (fun i hi => List.mem_append.2 (.inr hi)))).strike (fun i hi hlt => by
    rcases List.mem_append.1 hi with h1 | h1
    · exact h1
    · rcases hl i h1 with h2 | h2
      · exact h2
      · omega)
theorem three_box (w : World) (x : Int) (y : Int) (v : Value) (t t' : TypeId) :
    ((w.alloc (.cells #[.int .u64 x, .int .i64 y, v] t)).alloc (.cells #[.int .i64 0, .int .u64 0] t')).there w.heap.size 0 3 := by
  have h1 := there_new w #[.int .u64 x, .int .i64 y, v] t 3 rfl
  exact there_keep (l := []) h1 ((But.refl [] _).alloc _) (by simp) (by simp)
set_option maxHeartbeats 2000000 in
theorem put_c (b m : Nat) (Z : List Nat) (T : Tr) (f : Nat → Value) (p : Nat) (hp : p < 64) (g0 par : Int) (A : Option Addr) (n c : Nat) (st : Nat → Bool) (w : World) (h : TrAt w b Z T m f) (hs : SetAt w 0 A n st) (ho : Off Z A n) (hm : m ≤ 1000000) :
    Calls Try.prog 27 #[.pointer (some ⟨b, 0, none⟩), .int .i64 p, .agg #[.int .u64 g0, .int .i64 par, .slice A n c]] w fun e w' =>
      e = .returned (.agg #[.int .i64 p, .int .u64 (m + 1 : Nat)]) ∧ TrA w' b Z (updN T p ⟨m + 1, par, st⟩) (m + 1) ∧ But [b] w w' := by
  obtain ⟨B, hB⟩ : ∃ B, B = w.heap.size := ⟨_, rfl⟩
  obtain ⟨r1, r2, r3, r4, r5⟩ := two_box w [.int .u64 g0, .int .i64 par, .slice A n c] [.int .i64 0, .int .u64 0] 70 26
  have r6 := three_box w g0 par (.slice A n c) 70 26
  obtain ⟨w0, hw0⟩ : ∃ w0, w0 = (w.alloc (.cells #[.int .u64 g0, .int .i64 par, .slice A n c] 70)).alloc (.cells #[.int .i64 0, .int .u64 0] 26) := ⟨_, rfl⟩
  rw [← hw0, ← hB] at r1 r2 r3 r4 r6
  rw [← hw0] at r5
  have HC1 : Hid (w0.cell? ⟨B, 0, none⟩ = some (.int .u64 g0)) := range_cells r1 0 _ rfl
  have HC2 : Hid (w0.cell? ⟨B, 1, none⟩ = some (.int .i64 par)) := range_cells r1 1 _ rfl
  have HC3 : Hid (w0.cell? ⟨B, 2, none⟩ = some (.slice A n c)) := range_cells r1 2 _ rfl
  have HF1 : Hid (w0.frozen? ⟨B, 0, none⟩ = false) := there_cell r6 (j := 0) (by simp)
  have HT3 : Hid (w0.there (B + 1) 0 2) := r3
  have HS0 := hid r4
  have HK0 := hid r5
  have HBW := hid hB
  have hB1 : B + 1 < w0.heap.size := by omega
  have hl : ∀ x, x ∈ [B, B + 1] → w.heap.size ≤ x ∧ x < w0.heap.size := fun x hx => by
    simp at hx
    omega
  have H0 := hid (h.wide r5 [B, B + 1] hl)
  have HS := hid (hs.keep0 r5)
  have HO := hid ((Off.old hs (fun x hx => (hl x hx).1)).app ho)
  have HBM := hid h.mem
  have hb1 : b ≠ B := by have := h.low b h.mem; omega
  have hb2 : b ≠ B + 1 := by have := h.low b h.mem; omega
  clear h hs ho r1 r2 r3 r4 r5 r6 hl
  obtain ⟨M, hM⟩ : ∃ M : Nat, m + 1 = M := ⟨_, rfl⟩
  have HMM := hid hM
  have e1 : (m : Int) + 1 = (M : Int) := by omega
  clear hM
  go_enter Try.func27, Try.ntmps27
  go_upto_region 1 with fail
  rw [← hw0, ← hB]
  clear hw0 hB
  have hcm := H0.out.cm
  have hfm := H0.out.fz (show 192 < 193 by omega)
  have HM1 := hid (H0.out.setMade M)
  have HK1 : Hid (But [b] w0 (w0.setCell ⟨b, 192, none⟩ (.int .u64 M))) := (But.refl [b] w0).setCell (by simp) _
  go_upto_region 2 with fail
  clear e1 hcm hfm
  generalize w0.setCell ⟨b, 192, none⟩ (.int .u64 M) = w1 at *
  have hcm := HM1.out.cm
  have hbB : B ∉ [b] := by simpa using Ne.symm hb1
  have hc1 := cell_keep HC1.out HK1.out hbB
  have hf1 : w1.frozen? ⟨B, 0, none⟩ = false := (HK1.out.frozen (p := ⟨B, 0, none⟩) (lt_of_cell HC1.out) hbB).trans HF1.out
  have HC12 := hid (cell_keep HC2.out HK1.out hbB)
  have HC13 := hid (cell_keep HC3.out HK1.out hbB)
  have HT1 := hid (there_keep HT3.out HK1.out hB1 (by simpa using Ne.symm hb2))
  have HX1 := hid (HS.out.keep HK1.out (fun g off e h0 hm => HO.out g off e h0 (by simp at hm; rw [hm]; exact H0.out.mem)))
  have HK2 : Hid (But [B] w1 (w1.setCell ⟨B, 0, none⟩ (.int .u64 M))) := (But.refl [B] w1).setCell (by simp) _
  have HC21 : Hid ((w1.setCell ⟨B, 0, none⟩ (.int .u64 M)).cell? ⟨B, 0, none⟩ = some (.int .u64 M)) := World.cell?_setCell_same _ _ _ hc1
  have HC22 : Hid ((w1.setCell ⟨B, 0, none⟩ (.int .u64 M)).cell? ⟨B, 1, none⟩ = some (.int .i64 par)) := by
    show _ = _
    rw [World.cell?_setCell_other _ _ _ _ (by intro e'; injection e' with e1 e2; omega)]
    exact HC12.out
  have HC23 : Hid ((w1.setCell ⟨B, 0, none⟩ (.int .u64 M)).cell? ⟨B, 2, none⟩ = some (.slice A n c)) := by
    show _ = _
    rw [World.cell?_setCell_other _ _ _ _ (by intro e'; injection e' with e1 e2; omega)]
    exact HC13.out
  go_upto_region 3 with fail
  clear hc1 hf1 hcm
  generalize w1.setCell ⟨B, 0, none⟩ (.int .u64 M) = w2 at *
  have H2 := hid (HM1.out.keep HK2.out (by simpa using hb1) (by simp))
  have HX2 := hid (HX1.out.keep HK2.out (fun g off e h0 hm => HO.out g off e h0 (by simp at hm; rw [hm]; simp)))
  have HT2 := hid (there_keep HT1.out HK2.out (Nat.lt_of_lt_of_le hB1 HK1.out.size) (by simp))
  have HK02 : Hid (But [b] w w2) := but_more (but_more (HK0.out.any [b]) HK1.out (by simp)) HK2.out (fun i hi => .inr (by have := HBW.out; simp at hi; omega))
  refine wp_region_still_tail 6 (by kernel_rfl) (by kernel_rfl) ?_
  simp only [List.take_succ_cons, List.take_zero, List.drop_succ_cons, List.drop_zero]
  change wpStill _ _ w2.drew _ _ _
  have hkd : But [] w2 w2.drew := (But.refl [] w2).drew
  have H3 := hid (H2.out.keep0 hkd)
  have HX3 := hid (HX2.out.keep0 hkd)
  have HT3 := hid (there_keep HT2.out hkd (lt_of_there HT2.out (by omega)) (by simp))
  have HK3 := hid (HK02.out.trans (hkd.any _))
  have hc1 := cell_keep HC21.out hkd (by simp)
  have hc2 := cell_keep HC22.out hkd (by simp)
  have hc3 := cell_keep HC23.out hkd (by simp)
  clear hkd
  have hpI : (p : Int) < 64 := by omega
  repeat (first | still_step)
  refine wpStill_nil ?_
  change wpList _ _ _ _ _ w2.drew
  generalize w2.drew = w3 at *
  clear hc1 hc2 hc3
  obtain ⟨hc1, hc2, A1, n1, c1, -, hc3, -, -⟩ := H3.out.cells hp
  have hf1 := H3.out.fz (show p * 3 < 193 by omega)
  have hf2 := H3.out.fz (show p * 3 + 1 < 193 by omega)
  have hf3 := H3.out.fz (show p * 3 + 2 < 193 by omega)
  have H4 := hid (H3.out.setNode hp ⟨M, par, st⟩ A n c HX3.out HO.out)
  have HK4 : Hid (But [b] w3 (((w3.setCell ⟨b, p * 3, none⟩ (.int .u64 M)).setCell ⟨b, p * 3 + 1, none⟩ (.int .i64 par)).setCell ⟨b, p * 3 + 2, none⟩ (.slice A n c))) :=
    (((But.refl [b] w3).setCell (by simp) _).setCell (by simp) _).setCell (by simp) _
  have H4 : Hid (TrA (((w3.setCell ⟨b, p * 3, none⟩ (.int .u64 M)).setCell ⟨b, p * 3 + 1, none⟩ (.int .i64 par)).setCell ⟨b, p * 3 + 2, none⟩ (.slice A n c)) b ([B, B + 1] ++ Z) (updN T p ⟨M, par, st⟩) M) := H4.out
  go_upto_region 4 with fail
  clear hc1 hc2 hc3 hf1 hf2 hf3
  generalize ((w3.setCell ⟨b, p * 3, none⟩ (.int .u64 M)).setCell ⟨b, p * 3 + 1, none⟩ (.int .i64 par)).setCell ⟨b, p * 3 + 2, none⟩ (.slice A n c) = w4 at *
  have HT4 := hid (there_keep HT3.out HK4.out (lt_of_there HT3.out (by omega)) (by simpa using Ne.symm hb2))
  have HK5 := hid (HK3.out.trans HK4.out)
  have hH4 := H4.out
  obtain ⟨f4, hf4⟩ := hH4
  have HG : Hid ((updN T p ⟨M, par, st⟩ p).gen = M) := by show _ = _; rw [updN_same]
  have H4 := hid hf4
  clear hf4
  go_wp2_with fail
  refine (cap_c b M _ _ f4 p hp w4 H4.out).mono ?_
  rintro e w5 ⟨rfl, k5⟩
  rw [HG.out]
  have HT5 := there_keep HT4.out k5 (lt_of_there HT4.out (by omega)) (by simp)
  have HK6 := hid (HK5.out.trans (k5.any _))
  have H6 := hid (H4.out.keep0 k5)
  obtain ⟨u1, u2, hu1, hu2, hz1, hz2⟩ := there_two HT5
  clear k5 HT5
  go_wp2
  refine bodyPost_ret (results_range1 rfl _ _ (B + 1) 0 [.int .i64 p, .int .u64 M] _ rfl (range_two hu1 hu2) Try.underlying26 rfl sizeCap) rfl ?_
  have hk9 : But [B + 1] w5 ((w5.setCell ⟨B + 1, 0, none⟩ (.int .i64 p)).setCell ⟨B + 1, 1, none⟩ (.int .u64 M)) := ((But.refl [B + 1] w5).setCell (by simp) _).setCell (by simp) _
  refine ⟨by rw [HMM.out], ⟨f4, ?_⟩, but_more HK6.out hk9 (fun i hi => .inr (by have := HBW.out; simp at hi; omega))⟩
  rw [HMM.out]
  exact (H6.out.keep hk9 (by simpa using hb2) (by simp)).less HBM.out
end Go.Proofs.Ytlppfcoclpdanaa.Cs
