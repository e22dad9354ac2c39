/-
  Layer 12 (caps): contracts of Revoke, Drop, over the translated program.
-/
import Derived.Test.YtlppfcoclpdanaaCsPut
namespace Go.Proofs.Ytlppfcoclpdanaa.Cs
open Go.ChangeShapes Go.WideShapes Go.ChangeAt Go.RowKit
open Wh Sn
set_option linter.unusedVariables false
set_option maxRecDepth 20000

/-- Without these places. -/
def rvL (T : Tr) (l : List Nat) : Tr := fun i => if i ∈ l then nd0 else T i
theorem rvL_nil (T : Tr) : rvL T [] = T := funext fun i => by simp [rvL]
theorem rvL_snoc (T : Tr) (l : List Nat) (p : Nat) : updN (rvL T l) p nd0 = rvL T (l ++ [p]) := funext fun i => by
  by_cases e : i = p
  · subst e; rw [updN_same]; simp [rvL]
  · rw [updN_other _ _ e]; simp [rvL, e]
theorem rvL_all {T : Tr} {a : Nat} {l : List Nat} (h : ∀ x, x ∈ l ↔ und T a x = true) : rvL T l = rvT T a false := funext fun i => by
  unfold rvL rvT
  rw [Bool.false_and, Bool.or_false]
  by_cases e : i ∈ l
  · rw [if_pos e, if_pos ((h i).1 e)]
  · rw [if_neg e, if_neg (fun h2 => e ((h i).2 h2))]
theorem rvT_self (T : Tr) (a : Nat) : updN (rvT T a false) a nd0 = rvT T a true := funext fun i => by
  by_cases e : i = a
  · subst e; rw [updN_same]; unfold rvT; rw [if_pos (by simp)]
  · rw [updN_other _ _ e]; unfold rvT; simp [e]
def rvC (T : Tr) (a : Nat) : Nat := (nums (und T a) 64).length
theorem rvC_eq {T : Tr} {m : Nat} (hW : Wf T m) {a : Nat} {l : List Nat} (hn : l.Nodup) (h : ∀ x, x ∈ l ↔ und T a x = true) : l.length = rvC T a :=
  nodup_eq hn (nums_nodup _ _) (fun x => by rw [nums_mem, h x]; exact ⟨fun h1 => ⟨(und_lt hW h1).2.2.2.2, h1⟩, fun h1 => h1.2⟩)
def RevV (T : Tr) (at_ : Int) (g : Nat) : Value := if isB T at_ g = true then .tuple #[.int .i64 (rvC T at_.toNat : Nat), .int .i64 0] else .tuple #[.int .i64 0, .int .i64 3]
def RevT (T : Tr) (at_ : Int) (g : Nat) : Tr := if isB T at_ g = true then rvT T at_.toNat false else T
set_option maxHeartbeats 2000000 in
theorem Revoke_c (b m : Nat) (Z : List Nat) (T : Tr) (f : Nat → Value) (at_ : Int) (g : Nat) (w : World) (h : TrAt w b Z T m f) (hW : Wf T m) :
    Calls Try.prog 24 #[.pointer (some ⟨b, 0, none⟩), .agg #[.int .i64 at_, .int .u64 g]] w fun e w' =>
      e = .returned (RevV T at_ g) ∧ TrA w' b Z (RevT T at_ g) m ∧ But [b] w w' := by
  obtain ⟨B, hB⟩ : ∃ B, B = w.heap.size := ⟨_, rfl⟩
  obtain ⟨w0, hw0⟩ : ∃ w0, w0 = w.alloc (.cells #[.int .i64 at_, .int .u64 g] 26) := ⟨_, rfl⟩
  have hr := new_range w [.int .i64 at_, .int .u64 g] 26
  have HK0 : Hid (But [] w w0) := by show But _ _ _; rw [hw0]; exact (But.refl [] w).alloc _
  change (w.alloc (.cells #[.int .i64 at_, .int .u64 g] 26)).rangeAt _ _ _ at hr
  rw [← hw0, ← hB] at hr
  have HC1 : Hid (w0.cell? ⟨B, 0, none⟩ = some (.int .i64 at_)) := range_cells hr 0 _ rfl
  have HC2 : Hid (w0.cell? ⟨B, 1, none⟩ = some (.int .u64 g)) := range_cells hr 1 _ rfl
  have HBW := hid hB
  have HW := hid hW
  have HBB : Hid (b < w.heap.size) := h.low b h.mem
  have H0 := hid (h.keep0 HK0.out)
  clear h hr hW
  go_enter Try.func24, Try.ntmps24
  go_upto_region 1 with fail
  rw [← hw0, ← hB]
  clear hw0 hB
  have hc1 := HC1.out
  have hc2 := HC2.out
  go_wp2_with fail
  clear hc1 hc2
  refine (there_c b m Z T f at_ g w0 H0.out).mono ?_
  rintro e w1 ⟨rfl, k1⟩
  have HK1 := hid (HK0.out.trans k1)
  have hc1 := cell_keep HC1.out k1 (by simp)
  have H1 := hid (H0.out.keep0 k1)
  clear k1
  by_cases hi : isB T at_ g = true
  · obtain ⟨a, rfl, ha, hg0, hga⟩ := isB_iff.1 hi
    have HV : Hid (RevV T a g = .tuple #[.int .i64 (rvC T a : Nat), .int .i64 0]) := if_pos hi
    have HT : Hid (RevT T a g = rvT T a false) := if_pos hi
    rw [hi]
    clear hi hga
    go_wp2_with fail
    refine (under_c b m Z T f a w1 H1.out HW.out).mono ?_
    rintro e w2 ⟨L, A, n, c, rfl, hq2, k2, hnd, hmem⟩
    obtain ⟨hn, hat⟩ := que_at hq2
    have hL64 : ∀ x, x ∈ L → x < 64 := fun x hx => (und_lt HW.out ((hmem x).1 hx)).2.2.2.2
    have hn64 : n ≤ 64 := by have := nodup_64 hnd hL64; omega
    have HAT := hid hat
    have HLT : Hid (∀ j, j < n → L.getD j 0 < 64) := fun j hj => hL64 _ (getD_mem (by omega))
    have HN := hid hn
    have HE : Hid (rvC T a = n) := by show _ = _; rw [hn]; exact (rvC_eq HW.out hnd hmem).symm
    have HALL := hid (rvL_all hmem)
    have H2 := hid (H1.out.keep0 k2)
    have HK2 := hid (HK1.out.trans k2)
    have HSZ : Hid (w.heap.size ≤ w1.heap.size) := HK1.out.size
    clear hn hat hL64 hnd hmem hq2 k2 hc1
    go_wp2
    go_loopg [19] (n + 1) (fun g0 i wx => ∃ (k : Nat), k + g0 = n + 1 ∧ k ≤ n ∧ i = .int .i64 k ∧ Hid (TrA wx b Z (rvL T (L.take k)) m) ∧ Hid (But [b] w2 wx))
    case atStart => exact ⟨0, by omega, by omega, rfl, by show TrA _ _ _ _ _; rw [List.take_zero, rvL_nil]; exact ⟨f, H2.out⟩, But.refl _ _⟩
    case round =>
      obtain ⟨k, hkg, hk, rfl, HR, HB⟩ := hrel
      by_cases hlt : k < n
      · have hkI : (k : Int) < (n : Int) := by omega
        obtain ⟨ga, oa, rfl, hga0, hga, hca⟩ := HAT.out k hlt
        have hca := cell_keep hca HB.out (by have := HBB.out; have := HSZ.out; simp; omega)
        have hp64 := HLT.out k hlt
        have hsn := rvL_snoc T (L.take k) (L.getD k 0)
        rw [← take_snoc (by have := HN.out; omega)] at hsn
        have HSN := hid hsn
        generalize L.getD k 0 = p at *
        have hpI : (p : Int) < 64 := by omega
        obtain ⟨fr, hfr⟩ := HR.out
        have HFR := hid hfr
        obtain ⟨hc1, hc2, A3, n3, c3, -, hc3, -, -⟩ := hfr.cells hp64
        have hf1 := hfr.fz (show p * 3 < 193 by omega)
        have hf2 := hfr.fz (show p * 3 + 1 < 193 by omega)
        have hf3 := hfr.fz (show p * 3 + 2 < 193 by omega)
        have ht := hfr.setNode hp64 nd0 none 0 0 (SetAt.nil _ _ (fun _ => rfl)) (Off.nil _ _)
        rw [hsn] at ht
        have HT4 : Hid (TrA (((wr.setCell ⟨b, p * 3, none⟩ (.int .u64 0)).setCell ⟨b, p * 3 + 1, none⟩ (.int .i64 0)).setCell ⟨b, p * 3 + 2, none⟩ (.slice none 0 0)) b Z (rvL T (L.take (k + 1))) m) := ht
        have HB4 : Hid (But [b] w2 (((wr.setCell ⟨b, p * 3, none⟩ (.int .u64 0)).setCell ⟨b, p * 3 + 1, none⟩ (.int .i64 0)).setCell ⟨b, p * 3 + 2, none⟩ (.slice none 0 0))) :=
          HB.out.trans ((((But.refl [b] wr).setCell (by simp) _).setCell (by simp) _).setCell (by simp) _)
        clear hsn hfr ht hga0 hga HR
        go_wp2
        go_roundg (n + 1 - (k + 1))
        case measure => omega
        case rel => exact ⟨k + 1, by omega, by omega, by go_num, HT4.out, HB4.out⟩
      · obtain rfl : k = n := by omega
        have HR9 : Hid (TrA wr b Z (rvT T a false) m) := by
          have := HR.out
          rw [List.take_of_length_le (by have := HN.out; omega), HALL.out] at this
          exact this
        clear HR
        go_wp2
        go_ret2
        exact ⟨by rw [HV.out, HE.out]; rfl, by rw [HT.out]; exact HR9.out, but_more (HK2.out.any [b]) HB.out (by simp)⟩
  · have hi : isB T at_ g = false := by simpa using hi
    have HV : Hid (RevV T at_ g = .tuple #[.int .i64 0, .int .i64 3]) := if_neg (by rw [hi]; simp)
    have HT : Hid (RevT T at_ g = T) := if_neg (by rw [hi]; simp)
    rw [hi]
    clear hi
    go_wp2
    go_ret2
    exact ⟨by rw [HV.out]; rfl, by rw [HT.out]; exact ⟨f, H1.out⟩, HK1.out.any _⟩

def DrV (T : Tr) (at_ : Int) (g : Nat) : Value := if isB T at_ g = true then (if at_ = 0 then .tuple #[.int .i64 0, .int .i64 2] else .tuple #[.int .i64 (rvC T at_.toNat + 1 : Nat), .int .i64 0]) else .tuple #[.int .i64 0, .int .i64 3]
def DrT (T : Tr) (at_ : Int) (g : Nat) : Tr := if isB T at_ g = true then (if at_ = 0 then T else rvT T at_.toNat true) else T
set_option maxHeartbeats 2000000 in
theorem Drop_c (b m : Nat) (Z : List Nat) (T : Tr) (f : Nat → Value) (at_ : Int) (g : Nat) (w : World) (h : TrAt w b Z T m f) (hW : Wf T m) :
    Calls Try.prog 25 #[.pointer (some ⟨b, 0, none⟩), .agg #[.int .i64 at_, .int .u64 g]] w fun e w' =>
      e = .returned (DrV T at_ g) ∧ TrA w' b Z (DrT T at_ g) m ∧ But [b] w w' := by
  obtain ⟨B, hB⟩ : ∃ B, B = w.heap.size := ⟨_, rfl⟩
  obtain ⟨w0, hw0⟩ : ∃ w0, w0 = w.alloc (.cells #[.int .i64 at_, .int .u64 g] 26) := ⟨_, rfl⟩
  have hr := new_range w [.int .i64 at_, .int .u64 g] 26
  have HK0 : Hid (But [] w w0) := by show But _ _ _; rw [hw0]; exact (But.refl [] w).alloc _
  change (w.alloc (.cells #[.int .i64 at_, .int .u64 g] 26)).rangeAt _ _ _ at hr
  rw [← hw0, ← hB] at hr
  have HC1 : Hid (w0.cell? ⟨B, 0, none⟩ = some (.int .i64 at_)) := range_cells hr 0 _ rfl
  have HC2 : Hid (w0.cell? ⟨B, 1, none⟩ = some (.int .u64 g)) := range_cells hr 1 _ rfl
  have HBW := hid hB
  have HW := hid hW
  have HBB : Hid (b < w.heap.size) := h.low b h.mem
  have hb1 : B ≠ b := by have := h.low b h.mem; omega
  have H0 := hid (h.keep0 HK0.out)
  clear h hr hW
  go_enter Try.func25, Try.ntmps25
  go_upto_region 1 with fail
  rw [← hw0, ← hB]
  clear hw0 hB
  have hc1 := HC1.out
  have hc2 := HC2.out
  go_wp2_with fail
  clear hc1 hc2
  refine (there_c b m Z T f at_ g w0 H0.out).mono ?_
  rintro e w1 ⟨rfl, k1⟩
  have HK1 := hid (HK0.out.trans k1)
  have hc1 := cell_keep HC1.out k1 (by simp)
  have hc2 := cell_keep HC2.out k1 (by simp)
  have HC11 := hid hc1
  have H1 := hid (H0.out.keep0 k1)
  clear k1
  by_cases hi : isB T at_ g = true
  · obtain ⟨a, rfl, ha, hg0, hga⟩ := isB_iff.1 hi
    have HI := hid hi
    by_cases ha0 : a = 0
    · subst ha0
      have HV : Hid (DrV T ((0 : Nat) : Int) g = .tuple #[.int .i64 0, .int .i64 2]) := by show _ = _; unfold DrV; rw [if_pos hi]; rfl
      have HT : Hid (DrT T ((0 : Nat) : Int) g = T) := by show _ = _; unfold DrT; rw [if_pos hi]; rfl
      rw [hi]
      clear hi hga hc2
      go_wp2
      go_ret2
      exact ⟨by rw [HV.out]; rfl, by rw [HT.out]; exact ⟨f, H1.out⟩, HK1.out.any _⟩
    · have ha0' : ¬ ((a : Int) = 0) := by omega
      have HV : Hid (DrV T a g = .tuple #[.int .i64 (rvC T a + 1 : Nat), .int .i64 0]) := by show _ = _; unfold DrV; rw [if_pos hi, if_neg ha0']; rfl
      have HT : Hid (DrT T a g = rvT T a true) := by show _ = _; unfold DrT; rw [if_pos hi, if_neg ha0']; rfl
      have HRV : Hid (RevV T a g = .tuple #[.int .i64 (rvC T a : Nat), .int .i64 0]) := if_pos hi
      have HRT : Hid (RevT T a g = rvT T a false) := if_pos hi
      have hne : ((a : Int) == 0) = false := by simp; omega
      have hrc : rvC T a ≤ 64 := nums_le _ _
      rw [hi]
      clear hi hga ha0' ha0
      go_wp2_with fail
      refine (Revoke_c b m Z T f a g w1 H1.out HW.out).mono ?_
      rintro e w2 ⟨rfl, ht2, k2⟩
      rw [HRV.out]
      rw [HRT.out] at ht2
      obtain ⟨f2, hf2⟩ := ht2
      have H2 := hid hf2
      have HK2 := hid ((HK1.out.any [b]).trans k2)
      have hc1 := cell_keep HC11.out k2 (by simpa using hb1)
      have haI : (a : Int) < 64 := by omega
      have haI0 : (0 : Int) ≤ (a : Int) := by omega
      clear hf2 k2 hc2
      generalize rvC T a = u at *
      go_upto_region 6 with fail
      refine wp_region_still_tail 7 (by kernel_rfl) (by kernel_rfl) ?_
      simp only [List.take_succ_cons, List.take_zero, List.drop_succ_cons, List.drop_zero]
      change wpStill _ _ w2.drew _ _ _
      have hkd : But [] w2 w2.drew := (But.refl [] w2).drew
      have H3 := hid (H2.out.keep0 hkd)
      have HK3 := hid (HK2.out.trans (hkd.any _))
      have hc1 := cell_keep hc1 hkd (by simp)
      clear hkd
      repeat (first | still_step)
      refine wpStill_nil ?_
      change wpList _ _ _ _ _ w2.drew
      generalize w2.drew = w3 at *
      clear hc1
      obtain ⟨hc1, hc2, A3, n3, c3, -, hc3, -, -⟩ := H3.out.cells ha
      have hf1 := H3.out.fz (show a * 3 < 193 by omega)
      have hf2 := H3.out.fz (show a * 3 + 1 < 193 by omega)
      have hf3 := H3.out.fz (show a * 3 + 2 < 193 by omega)
      have ht := H3.out.setNode ha nd0 none 0 0 (SetAt.nil _ _ (fun _ => rfl)) (Off.nil _ _)
      rw [rvT_self] at ht
      have HT4 : Hid (TrA (((w3.setCell ⟨b, a * 3, none⟩ (.int .u64 0)).setCell ⟨b, a * 3 + 1, none⟩ (.int .i64 0)).setCell ⟨b, a * 3 + 2, none⟩ (.slice none 0 0)) b Z (rvT T a true) m) := ht
      clear ht
      go_wp2
      go_ret2
      refine ⟨by rw [HV.out]; go_num, by rw [HT.out]; exact HT4.out, HK3.out.trans ((((But.refl [b] w3).setCell (by simp) _).setCell (by simp) _).setCell (by simp) _)⟩
  · have hi : isB T at_ g = false := by simpa using hi
    have HV : Hid (DrV T at_ g = .tuple #[.int .i64 0, .int .i64 3]) := if_neg (by rw [hi]; simp)
    have HT : Hid (DrT T at_ g = T) := if_neg (by rw [hi]; simp)
    have HRV : Hid (RevV T at_ g = .tuple #[.int .i64 0, .int .i64 3]) := if_neg (by rw [hi]; simp)
    have HRT : Hid (RevT T at_ g = T) := if_neg (by rw [hi]; simp)
    rw [hi]
    clear hi
    go_wp2_with fail
    refine (Revoke_c b m Z T f at_ g w1 H1.out HW.out).mono ?_
    rintro e w2 ⟨rfl, ht2, k2⟩
    rw [HRV.out]
    rw [HRT.out] at ht2
    have H2 := hid ht2
    have HK2 := hid ((HK1.out.any [b]).trans k2)
    clear ht2 k2 hc1 hc2
    go_wp2
    go_ret2
    exact ⟨by rw [HV.out]; rfl, by rw [HT.out]; exact H2.out, HK2.out⟩
end Go.Proofs.Ytlppfcoclpdanaa.Cs
