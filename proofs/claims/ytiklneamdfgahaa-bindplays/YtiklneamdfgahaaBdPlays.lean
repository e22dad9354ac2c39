/-
  Layer 15 (bind): the contract of the statement that the table is the document's at each moment, over the translated program. (One region's walk is written by tools/gen_bdp.py.)
-/
import Derived.Test.YtiklneamdfgahaaBdLaw
import Derived.Test.YtiklneamdfgahaaFloat
namespace Go.Proofs.Ytiklneamdfgahaa.Bd
open Go.ChangeShapes Go.WideShapes Go.ChangeAt Go.RowKit
open Wh
set_option linter.unusedVariables false
set_option maxRecDepth 20000

theorem ls_li {w : World} {base n c : Nat} {A : Option Addr} {l : List Nat} (h : Que w base 1 (.slice A n c) n (ic l)) : Nt.Li w A l := by
  obtain ⟨A', c', e, _, hr⟩ := que_rd h
  injection e with e1 e2 e3
  subst e1
  exact Nt.Li.of hr
theorem s_keep {w0 wp wc : World} {a : Nat} {v : Value} (k : But [] wp wc) (h : wp.cell? ⟨a, 3, none⟩ = some v ∧ But [] w0 wp) : wc.cell? ⟨a, 3, none⟩ = some v ∧ But [] w0 wc :=
  ⟨cell_keep h.1 k (by simp), h.2.trans k⟩
theorem s_but {w0 wp : World} {p : Prop} (h : p ∧ But [] w0 wp) : But [] w0 wp := h.2
/-- A pair in a row. -/
theorem pair_at {w : World} {base n : Nat} {v : Value} {xs : List Value} (h : Que w base 2 v n xs) {k : Nat} (hk : k < n) (x y : Value) (hx : xs[k * 2]? = some x) (hy : xs[k * 2 + 1]? = some y) :
    ∃ g off cap, v = .slice (some ⟨g, off, none⟩) n cap ∧ w.cell? ⟨g, off + k * 2, none⟩ = some x ∧ w.cell? ⟨g, off + k * 2 + 1, none⟩ = some y := by
  obtain ⟨g, off, cap, e, _, _, _, hr⟩ := h.row (by omega)
  exact ⟨g, off, cap, e, hr _ _ hx, by have := hr _ _ hy; rwa [← Nat.add_assoc] at this⟩
set_option maxHeartbeats 8000000 in
theorem plays_c (A1 : Option Addr) (len1 cap1 : Nat) (w : World) (r1 : RowOf ks_flatDeed w A1 len1 cap1) :
    Calls Try.prog 3 #[.slice A1 len1 cap1] w fun r w' => r = .returned (.bool true) ∧ But [] w w' := by
  obtain ⟨hlc, hcm, hrow⟩ := r1
  have HR : Hid (len1 = 0 ∨ ∃ b off, A1 = some ⟨b, off, none⟩ ∧ b < w.heap.size ∧ ∀ i, i < len1 → ∃ vs, w.rangeAt b (off + i * 5) vs ∧ Fits ks_flatDeed vs) := hrow
  unfold maxLen at hcm
  clear hrow
  obtain ⟨bx, hbx⟩ : ∃ bx, bx = w.heap.size := ⟨_, rfl⟩
  have HN := hid (new_c w)
  rw [← hbx] at HN
  have HX := hid hbx
  clear hbx
  go_enter Try.func3, Try.ntmps3
  go_wp2_with fail
  refine HN.out.mono ?_
  rintro e w1 ⟨rfl, h1, k1⟩
  obtain ⟨bl, hbl⟩ : ∃ bl, bl = w1.heap.size := ⟨_, rfl⟩
  have HL2 : Hid (Lw w bx bl none no no (w1.alloc (.cells rz.toArray 31))) := by
    have hr := rz_new w1 31
    rw [← hbl] at hr
    have h2 := h1.lt
    have h3 := HX.out
    have h4 := k1.size
    exact ⟨h1.keep0 ((But.refl [] w1).alloc _), hr, k1.alloc _, by omega, by omega, by omega, fun m hm => by cases hm⟩
  clear h1 k1 HN
  go_upto_region 3 with (first | (refine wpList_build' rfl 31 [] rfl rz.toArray bTab ?_))
  rw [← hbl]
  clear hbl
  generalize w1.alloc (.cells rz.toArray 31) = w2 at *
  go_wp2
  go_loopg [5] 60 (fun g0 iv wx => ∃ (i : Nat) (mo : Option Nat) (T : Tb), i + g0 = 60 ∧ i ≤ len1 ∧ iv = .int .i64 i ∧ Hid (Lw w bx bl mo T T wx))
  case atStart => exact ⟨0, _, _, by omega, Nat.zero_le _, rfl, HL2.out⟩
  case round =>
  obtain ⟨i, mo, T, hig, hil, rfl, HS⟩ := hrel
  clear HL2
  rename World => wa
  obtain ⟨z, hz⟩ : ∃ z : Bool, z = decide (i < len1 ∧ i < 60) := ⟨_, rfl⟩
  have HZ := hid hz
  clear hz
  go_upto_region 4 with fail
  go_cut [25] from 18 to 24 (fun s25 wx => s25 = .bool z ∧ wx = wa)
  case first =>
    by_cases hlt : i < len1
    · have hilt : decide ((i : Int) < (len1 : Int)) = true := decide_eq_true (by omega)
      by_cases h80 : i < 60
      · have hi80 : decide ((i : Int) < 60) = true := decide_eq_true (by omega)
        go_wp2_with fail
        go_meet
        exact ⟨by rw [HZ.out, decide_eq_true ⟨hlt, h80⟩], rfl⟩
      · have hi80 : decide ((i : Int) < 60) = false := decide_eq_false (by omega)
        go_wp2_with fail
        go_meet
        exact ⟨by rw [HZ.out, decide_eq_false (fun h => h80 h.2)], rfl⟩
    · have hilt : decide ((i : Int) < (len1 : Int)) = false := decide_eq_false (by omega)
      go_wp2_with fail
      go_meet
      exact ⟨by rw [HZ.out, decide_eq_false (fun h => hlt h.1)], rfl⟩
  case rest =>
  obtain ⟨rfl, hwa⟩ := hcut
  rw [hwa]
  clear hwa
  cases z with
  | false =>
    clear HZ hig hil
    go_wp2_with fail
    refine (awake_c _).mono ?_
    rintro r w7 ⟨rfl, k7⟩
    have HK7 := hid (HS.out.kp.trans k7)
    clear k7
    go_wp2
    go_ret
    exact ⟨rfl, HK7.out⟩
  | true =>
    obtain ⟨hlt, h80⟩ := of_decide_eq_true HZ.out.symm
    clear HZ
    obtain ⟨bA, off, rfl, hbl, hall⟩ : ∃ bA off, A1 = some ⟨bA, off, none⟩ ∧ bA < w.heap.size ∧ ∀ i, i < len1 → ∃ vs, w.rangeAt bA (off + i * 5) vs ∧ Fits ks_flatDeed vs := by
      rcases HR.out with h | h
      · omega
      · exact h
    obtain ⟨vs, hr, hfit⟩ := hall i hlt
    obtain ⟨K, s, p, f, u, rfl, i1, i2⟩ := deed_of hfit
    have HI := hid (And.intro i1 i2)
    have HRE := hid (range_keep hr HS.out.kp (by simp))
    clear hall hr hfit i1 i2
    have hilt : (i : Int) < (len1 : Int) := by omega
    obtain ⟨gd, hgd⟩ : ∃ gd, gd = wa.heap.size := ⟨_, rfl⟩
    have hD := new_range wa [.int .i64 K, .int .i64 s, .int .i64 p, .int .i64 f, .bool u] 33
    rw [← hgd] at hD
    have HD := hid hD
    have HS1 := hid (HS.out.keep0 ((But.refl [] wa).alloc (.cells #[.int .i64 K, .int .i64 s, .int .i64 p, .int .i64 f, .bool u] 33)))
    have HGN : Hid (bx ≠ gd ∧ bl ≠ gd ∧ ∀ m, mo = some m → m ≠ gd) := by
      have h2 := HS.out.tb.lt
      have h3 := HS.out.rf.lt
      exact ⟨by omega, by omega, fun m hm => by have := HS.out.tb.map.lt m hm; omega⟩
    clear hD HS
    go_upto_region 7 with (first
      | (refine wpList_load_mid rfl 33 _ rfl bA (off + i * 5) rfl [.int .i64 K, .int .i64 s, .int .i64 p, .int .i64 f, .bool u] _ HRE.out Try.underlying33 rfl infoDeed ?_)
      | fail)
    rw [← hgd]
    clear hgd HRE
    generalize wa.alloc (.cells #[.int .i64 K, .int .i64 s, .int .i64 p, .int .i64 f, .bool u] 33) = w3 at *
    go_wp2_with (first
      | (refine wpList_load_mid rfl 33 _ rfl gd 0 rfl [.int .i64 K, .int .i64 s, .int .i64 p, .int .i64 f, .bool u] _ HD.out Try.underlying33 rfl infoDeed ?_)
      | fail)
    refine (does_c bx bl mo T K s p f u w3 HS1.out.tb HS1.out.rf HS1.out.ne (fun m hm => (HS1.out.hm m hm).2) HI.out.1 HI.out.2).mono ?_
    rintro r w6 ⟨rfl, hd⟩
    have hk := hd
    obtain ⟨_, _, _, _, hkb, _⟩ := hk
    have HD6 := hid (range_keep HD.out hkb (fun hi => by
      simp at hi
      rcases hi with hi | hi | hi
      · exact HGN.out.1 hi.symm
      · exact HGN.out.2.1 hi.symm
      · exact HGN.out.2.2 _ hi rfl))
    obtain ⟨m5, T5, hs6⟩ := HS1.out.dn hd
    have HS6 := hid hs6
    clear hd hs6 HS1 HD HGN hkb
    have HG1 := hid (get_c _ m5 T5 s p w6 (Tv.at_ HS6.out.tb) HI.out.1 HI.out.2)
    have HG2 : Hid (∀ wy, But [] w6 wy → Calls Try.prog 9 #[.pointer (some ⟨bl, 0, none⟩), .int .i64 s, .int .i64 p] wy fun r w' => r = .returned (.agg #[.bool (gtb T5 s p), .int .i64 (gtv T5 s p).1, .bool (gtv T5 s p).2]) ∧ But [] wy w') := fun wy hy => rget_v bl T5 s p wy (HS6.out.keep0 hy).rf
    generalize gtb T5 s p = o at HG1 HG2
    generalize gtv T5 s p = fw at HG1 HG2
    obtain ⟨f0, u0⟩ := fw
    have hd1 := range_cells HD6.out 1 _ rfl
    have hd2 := range_cells HD6.out 2 _ rfl
    simp only [Nat.zero_add] at hd1 hd2
    go_wp2_with fail
    refine HG1.out.mono ?_
    rintro r w7 ⟨rfl, k7⟩
    obtain ⟨gb, hgb⟩ : ∃ gb, gb = w7.heap.size := ⟨_, rfl⟩
    have hB := new_range w7 [.int .i64 f0, .bool u0] 36
    rw [← hgb] at hB
    have HB := hid hB
    have HK8 := hid (k7.alloc (.cells #[.int .i64 f0, .bool u0] 36))
    clear k7 hB HG1 hd1 hd2
    go_upto_region 10 with fail
    rw [← hgb]
    clear hgb
    generalize w7.alloc (.cells #[.int .i64 f0, .bool u0] 36) = w8 at *
    have HD8 := hid (range_keep HD6.out HK8.out (by simp))
    have hd1 := range_cells HD8.out 1 _ rfl
    have hd2 := range_cells HD8.out 2 _ rfl
    simp only [Nat.zero_add] at hd1 hd2
    go_wp2_with fail
    refine (HG2.out w8 HK8.out).mono ?_
    rintro r w9 ⟨rfl, k9⟩
    obtain ⟨gc, hgc⟩ : ∃ gc, gc = w9.heap.size := ⟨_, rfl⟩
    have hC := new_range w9 [.bool o, .int .i64 f0, .bool u0] 27
    rw [← hgc] at hC
    have HC := hid hC
    have k10 := k9.alloc (.cells #[.bool o, .int .i64 f0, .bool u0] 27)
    have HB10 := hid (range_keep HB.out k10 (by simp))
    have HD10 := hid (range_keep HD8.out k10 (by simp))
    have HS10 := hid ((HS6.out.keep0 HK8.out).keep0 k10)
    clear k9 hC HG2 HB hd1 hd2 HD8 HD6 HK8 HS6 k10
    go_upto_region 11 with fail
    rw [← hgc]
    clear hgc
    generalize w9.alloc (.cells #[.bool o, .int .i64 f0, .bool u0] 27) = w10 at *
    have HB0 := hid (range_cells HB10.out 0 _ rfl)
    have HB1 := hid (range_cells HB10.out 1 _ rfl)
    have HC0 := hid (range_cells HC.out 0 _ rfl)
    have HC1 := hid (range_cells HC.out 1 _ rfl)
    have HC2 := hid (range_cells HC.out 2 _ rfl)
    have HD1 := hid (range_cells HD10.out 1 _ rfl)
    have HD3 := hid (range_cells HD10.out 3 _ rfl)
    simp only [Nat.zero_add] at HB0 HB1 HC0 HC1 HC2 HD1 HD3
    clear HB10 HC HD10
    obtain ⟨LP, hLP⟩ : ∃ l, l = pgl T5 s 32 := ⟨_, rfl⟩
    obtain ⟨NP, hNP⟩ : ∃ n, n = LP.length := ⟨_, rfl⟩
    have hNP2 : NP ≤ 32 := by rw [hNP, hLP]; exact pgl_len _ _ _
    have HPG : Hid (∀ wy, But [] w10 wy → Calls Try.prog 11 #[.pointer (some ⟨bx, 0, none⟩), .int .i64 s] wy (Ls wy NP 1 (ic LP))) := fun wy hy => by
      rw [hNP, hLP]
      exact pages_c _ m5 T5 s wy (Tv.at_ (HS10.out.keep0 hy).tb) HI.out.1
    have HRPG : Hid (∀ wy, But [] w10 wy → Calls Try.prog 12 #[.pointer (some ⟨bl, 0, none⟩), .int .i64 s] wy (Ls wy NP 1 (ic LP))) := fun wy hy => by
      rw [hNP, hLP]
      exact rpages_c bl T5 s wy (HS10.out.keep0 hy).rf
    have HINT : Hid (∀ wy A B c d, Nt.Li wy A LP → Nt.Li wy B LP → Calls Try.prog 10 #[.slice A NP c, .slice B NP d] wy fun e w' => e = .returned (.bool true) ∧ But [] wy w') := fun wy A B c d h1 h2 =>
      Nt.ints_c A B NP c d LP wy hNP.symm (by omega) h1 h2
    clear hLP hNP hNP2
    refine wp_region_noPanic ?_
    refine wp_region_held_drew (S := fun w' => But [] w10 w') (by kernel_rfl) (But.refl _ _).drew (fun hS0 => ?_)
    generalize w10.drew = wd at *
    refine held_take 0 (some 52) (.bool o) rfl rfl (by kernel_rfl) (by kernel_rfl) (by kernel_rfl) (fun _ _ _ h => h) (Or.inl ⟨by rfl, fun w' hw' => by go_simp⟩) hS0 ?_
    simp only [Act.put, List.setIfInBounds_toArray, List.set_cons_zero, List.set_cons_succ]
    refine held_take 1 (some 53) (.pointer (some ⟨gc, 0, none⟩)) rfl rfl (by kernel_rfl) (by kernel_rfl) (by kernel_rfl) (fun _ _ _ h => h) (Or.inl ⟨by rfl, fun w' hw' => by go_simp⟩) hS0 ?_
    simp only [Act.put, List.setIfInBounds_toArray, List.set_cons_zero, List.set_cons_succ]
    refine held_take 2 (some 54) (.bool o) rfl rfl (by kernel_rfl) (by kernel_rfl) (by kernel_rfl) (fun _ _ _ h => h) (Or.inl ⟨by rfl, fun w' hw' => by have hq0 := cell_keep HC0.out hw' (by simp); go_simp⟩) hS0 ?_
    simp only [Act.put, List.setIfInBounds_toArray, List.set_cons_zero, List.set_cons_succ]
    refine held_take 3 (some 55) (.bool false) rfl rfl (by kernel_rfl) (by kernel_rfl) (by kernel_rfl) (fun _ _ _ h => h) (Or.inl ⟨by rfl, fun w' hw' => by cases o <;> go_simp⟩) hS0 ?_
    simp only [Act.put, List.setIfInBounds_toArray, List.set_cons_zero, List.set_cons_succ]
    refine held_take 4 (some 56) (.bool false) rfl rfl (by kernel_rfl) (by kernel_rfl) (by kernel_rfl) (fun _ _ _ h => h) (Or.inl ⟨by rfl, fun w' hw' => by go_simp⟩) hS0 ?_
    simp only [Act.put, List.setIfInBounds_toArray, List.set_cons_zero, List.set_cons_succ]
    refine held_take 5 (some 57) (.pointer (some ⟨gb, 0, none⟩)) rfl rfl (by kernel_rfl) (by kernel_rfl) (by kernel_rfl) (fun _ _ _ h => h) (Or.inl ⟨by rfl, fun w' hw' => by go_simp⟩) hS0 ?_
    simp only [Act.put, List.setIfInBounds_toArray, List.set_cons_zero, List.set_cons_succ]
    refine held_take 6 (some 58) (.int .i64 f0) rfl rfl (by kernel_rfl) (by kernel_rfl) (by kernel_rfl) (fun _ _ _ h => h) (Or.inl ⟨by rfl, fun w' hw' => by have hq0 := cell_keep HB0.out hw' (by simp); go_simp⟩) hS0 ?_
    simp only [Act.put, List.setIfInBounds_toArray, List.set_cons_zero, List.set_cons_succ]
    refine held_take 7 (some 59) (.pointer (some ⟨gc, 1, none⟩)) rfl rfl (by kernel_rfl) (by kernel_rfl) (by kernel_rfl) (fun _ _ _ h => h) (Or.inl ⟨by rfl, fun w' hw' => by go_simp⟩) hS0 ?_
    simp only [Act.put, List.setIfInBounds_toArray, List.set_cons_zero, List.set_cons_succ]
    refine held_take 8 (some 60) (.int .i64 f0) rfl rfl (by kernel_rfl) (by kernel_rfl) (by kernel_rfl) (fun _ _ _ h => h) (Or.inl ⟨by rfl, fun w' hw' => by have hq0 := cell_keep HC1.out hw' (by simp); go_simp⟩) hS0 ?_
    simp only [Act.put, List.setIfInBounds_toArray, List.set_cons_zero, List.set_cons_succ]
    refine held_take 9 (some 61) (.bool false) rfl rfl (by kernel_rfl) (by kernel_rfl) (by kernel_rfl) (fun _ _ _ h => h) (Or.inl ⟨by rfl, fun w' hw' => by go_simp⟩) hS0 ?_
    simp only [Act.put, List.setIfInBounds_toArray, List.set_cons_zero, List.set_cons_succ]
    refine held_take 10 (some 62) (.bool false) rfl rfl (by kernel_rfl) (by kernel_rfl) (by kernel_rfl) (fun _ _ _ h => h) (Or.inl ⟨by rfl, fun w' hw' => by go_simp⟩) hS0 ?_
    simp only [Act.put, List.setIfInBounds_toArray, List.set_cons_zero, List.set_cons_succ]
    refine held_take 11 (some 63) (.bool false) rfl rfl (by kernel_rfl) (by kernel_rfl) (by kernel_rfl) (fun _ _ _ h => h) (Or.inl ⟨by rfl, fun w' hw' => by go_simp⟩) hS0 ?_
    simp only [Act.put, List.setIfInBounds_toArray, List.set_cons_zero, List.set_cons_succ]
    refine held_take 12 (some 64) (.pointer (some ⟨gb, 1, none⟩)) rfl rfl (by kernel_rfl) (by kernel_rfl) (by kernel_rfl) (fun _ _ _ h => h) (Or.inl ⟨by rfl, fun w' hw' => by go_simp⟩) hS0 ?_
    simp only [Act.put, List.setIfInBounds_toArray, List.set_cons_zero, List.set_cons_succ]
    refine held_take 13 (some 65) (.bool u0) rfl rfl (by kernel_rfl) (by kernel_rfl) (by kernel_rfl) (fun _ _ _ h => h) (Or.inl ⟨by rfl, fun w' hw' => by have hq0 := cell_keep HB1.out hw' (by simp); go_simp⟩) hS0 ?_
    simp only [Act.put, List.setIfInBounds_toArray, List.set_cons_zero, List.set_cons_succ]
    refine held_take 14 (some 66) (.pointer (some ⟨gc, 2, none⟩)) rfl rfl (by kernel_rfl) (by kernel_rfl) (by kernel_rfl) (fun _ _ _ h => h) (Or.inl ⟨by rfl, fun w' hw' => by go_simp⟩) hS0 ?_
    simp only [Act.put, List.setIfInBounds_toArray, List.set_cons_zero, List.set_cons_succ]
    refine held_take 15 (some 67) (.bool u0) rfl rfl (by kernel_rfl) (by kernel_rfl) (by kernel_rfl) (fun _ _ _ h => h) (Or.inl ⟨by rfl, fun w' hw' => by have hq0 := cell_keep HC2.out hw' (by simp); go_simp⟩) hS0 ?_
    simp only [Act.put, List.setIfInBounds_toArray, List.set_cons_zero, List.set_cons_succ]
    refine held_take 16 (some 68) (.bool false) rfl rfl (by kernel_rfl) (by kernel_rfl) (by kernel_rfl) (fun _ _ _ h => h) (Or.inl ⟨by rfl, fun w' hw' => by cases u0 <;> go_simp⟩) hS0 ?_
    simp only [Act.put, List.setIfInBounds_toArray, List.set_cons_zero, List.set_cons_succ]
    refine held_take 17 (some 69) (.bool false) rfl rfl (by kernel_rfl) (by kernel_rfl) (by kernel_rfl) (fun _ _ _ h => h) (Or.inl ⟨by rfl, fun w' hw' => by go_simp⟩) hS0 ?_
    simp only [Act.put, List.setIfInBounds_toArray, List.set_cons_zero, List.set_cons_succ]
    refine held_take 18 (some 70) (.bool false) rfl rfl (by kernel_rfl) (by kernel_rfl) (by kernel_rfl) (fun _ _ _ h => h) (Or.inl ⟨by rfl, fun w' hw' => by go_simp⟩) hS0 ?_
    simp only [Act.put, List.setIfInBounds_toArray, List.set_cons_zero, List.set_cons_succ]
    refine held_take 19 (some 71) (.pointer (some ⟨bx, 0, none⟩)) rfl rfl (by kernel_rfl) (by kernel_rfl) (by kernel_rfl) (fun _ _ _ h => h) (Or.inl ⟨by rfl, fun w' hw' => by go_simp⟩) hS0 ?_
    simp only [Act.put, List.setIfInBounds_toArray, List.set_cons_zero, List.set_cons_succ]
    refine held_take 20 (some 72) (.pointer (some ⟨gd, 1, none⟩)) rfl rfl (by kernel_rfl) (by kernel_rfl) (by kernel_rfl) (fun _ _ _ h => h) (Or.inl ⟨by rfl, fun w' hw' => by go_simp⟩) hS0 ?_
    simp only [Act.put, List.setIfInBounds_toArray, List.set_cons_zero, List.set_cons_succ]
    refine held_take 21 (some 73) (.int .i64 s) rfl rfl (by kernel_rfl) (by kernel_rfl) (by kernel_rfl) (fun _ _ _ h => h) (Or.inl ⟨by rfl, fun w' hw' => by have hq0 := cell_keep HD1.out hw' (by simp); go_simp⟩) hS0 ?_
    simp only [Act.put, List.setIfInBounds_toArray, List.set_cons_zero, List.set_cons_succ]
    refine held_take 23 (some 75) (.pointer (some ⟨bl, 0, none⟩)) rfl rfl (by kernel_rfl) (by kernel_rfl) (by kernel_rfl) (fun _ _ _ h => h) (Or.inl ⟨by rfl, fun w' hw' => by go_simp⟩) hS0 ?_
    simp only [Act.put, List.setIfInBounds_toArray, List.set_cons_zero, List.set_cons_succ]
    refine held_take 24 (some 76) (.pointer (some ⟨gd, 1, none⟩)) rfl rfl (by kernel_rfl) (by kernel_rfl) (by kernel_rfl) (fun _ _ _ h => h) (Or.inl ⟨by rfl, fun w' hw' => by go_simp⟩) hS0 ?_
    simp only [Act.put, List.setIfInBounds_toArray, List.set_cons_zero, List.set_cons_succ]
    refine held_take 25 (some 77) (.int .i64 s) rfl rfl (by kernel_rfl) (by kernel_rfl) (by kernel_rfl) (fun _ _ _ h => h) (Or.inl ⟨by rfl, fun w' hw' => by have hq0 := cell_keep HD1.out hw' (by simp); go_simp⟩) hS0 ?_
    simp only [Act.put, List.setIfInBounds_toArray, List.set_cons_zero, List.set_cons_succ]
    refine held_one 22 rfl (by kernel_rfl) (by rfl) (fun K hK => ?_)
    go_simp
    refine (HPG.out _ hS0).mono ?_
    rintro e w74 ⟨A74, c74, rfl, hq74, k74⟩
    have HQ74 := hid hq74
    clear hq74
    go_wp2_with fail
    have hS1' : But [] w10 w74 := hS0.trans k74
    skip
    refine hK.out _ _ hS1' (fun hS1 => ?_)
    clear hK K
    try simp only [Act.put, List.setIfInBounds_toArray, List.set_cons_zero, List.set_cons_succ]
    refine held_one 26 rfl (by kernel_rfl) (by rfl) (fun K hK => ?_)
    go_simp
    refine (HRPG.out _ hS1).mono ?_
    rintro e w78 ⟨A78, c78, rfl, hq78, k78⟩
    have HQ78 := hid hq78
    clear hq78
    have HQ74 := hid (HQ74.out.keep0 k78)
    go_wp2_with fail
    have hS2' : But [] w10 w78 := hS1.trans k78
    skip
    refine hK.out _ _ hS2' (fun hS2 => ?_)
    clear hK K
    try simp only [Act.put, List.setIfInBounds_toArray, List.set_cons_zero, List.set_cons_succ]
    refine held_one 27 rfl (by kernel_rfl) (by rfl) (fun K hK => ?_)
    go_simp
    refine (HINT.out _ A74 A78 c74 c78 (ls_li HQ74.out) (ls_li HQ78.out)).mono ?_
    rintro e w79 ⟨rfl, k79⟩
    go_wp2_with fail
    have hS3' : But [] w10 w79 := hS2.trans k79
    skip
    refine hK.out _ _ hS3' (fun hS3 => ?_)
    clear hK K
    try simp only [Act.put, List.setIfInBounds_toArray, List.set_cons_zero, List.set_cons_succ]
    refine held_take 28 (some 80) (.bool false) rfl rfl (by kernel_rfl) (by kernel_rfl) (by kernel_rfl) (fun _ _ _ h => h) (Or.inl ⟨by rfl, fun w' hw' => by go_simp⟩) hS3 ?_
    simp only [Act.put, List.setIfInBounds_toArray, List.set_cons_zero, List.set_cons_succ]
    refine held_take 29 (some 81) (.bool false) rfl rfl (by kernel_rfl) (by kernel_rfl) (by kernel_rfl) (fun _ _ _ h => h) (Or.inl ⟨by rfl, fun w' hw' => by go_simp⟩) hS3 ?_
    simp only [Act.put, List.setIfInBounds_toArray, List.set_cons_zero, List.set_cons_succ]
    refine wpAnyH_done (by kernel_rfl) ?_ _
    refine NoPanic.normal ?_
    have hS9 := hS3
    clear hS3
    generalize w79 = w11 at *
    have HS11 := hid (HS10.out.keep0 hS9)
    have HF3 := hid (cell_keep HD3.out hS9 (by simp))
    clear hS9 HS10 HPG HRPG HINT HB0 HB1 HC0 HC1 HC2 HD1 HD3
    obtain ⟨LU, hLU⟩ : ∃ l, l = usl T5 f 2048 := ⟨_, rfl⟩
    obtain ⟨NU, hNU⟩ : ∃ n, n = LU.length := ⟨_, rfl⟩
    have hNU2 : NU ≤ 2048 := by rw [hNU, hLU]; exact usl_len _ _ _
    have HUS : Hid (∀ wy, But [] w11 wy → Calls Try.prog 13 #[.pointer (some ⟨bx, 0, none⟩), .int .i64 f] wy (Ls wy NU 2 (uc LU))) := fun wy hy => by
      rw [hNU, hLU]
      exact uses_c _ m5 T5 f wy (Tv.at_ (HS11.out.keep0 hy).tb)
    have HRUS : Hid (∀ wy, But [] w11 wy → Calls Try.prog 14 #[.pointer (some ⟨bl, 0, none⟩), .int .i64 f] wy (Ls wy NU 2 (uc LU))) := fun wy hy => by
      rw [hNU, hLU]
      exact ruses_c bl T5 f wy (HS11.out.keep0 hy).rf
    have HNL := hid hNU
    have HNU := hid hNU2
    have HS0 : Hid (w11.drew.cell? ⟨gd, 3, none⟩ = some (.int .i64 f) ∧ But [] w11 w11.drew) := ⟨HF3.out, (But.refl [] w11).drew⟩
    clear hLU hNU hNU2
    go_wp2_with fail
    go_region_held3 (fun w' => w'.cell? ⟨gd, 3, none⟩ = some (.int .i64 f) ∧ But [] w11 w')
      (first | exact HS0.out | assumption | exact s_keep (by assumption) (by assumption))
      (first
        | (go_at_call 13; refine (HUS.out _ (s_but (by assumption))).mono ?_; rintro e w12 ⟨A12, c12, rfl, hq12, k12⟩)
        | (go_at_call 14; refine (HRUS.out _ (s_but (by assumption))).mono ?_; rintro e w13 ⟨A13, c13, rfl, hq13, k13⟩))
    go_split_ands
    have HB13 : Hid (But [] w11 w13) := ‹But [] w11 w13›
    have HS13 := hid (HS11.out.keep0 HB13.out)
    have HQ12 := hid (hq12.keep0 k13)
    have HQ13 := hid hq13
    clear hq12 hq13 k12 k13 HS11 HUS HRUS HS0 HF3 HB13
    go_wp2
    go_loopg [12] (NU + 1) (fun g1 kv wx => ∃ k : Nat, k + g1 = NU + 1 ∧ k ≤ NU ∧ kv = .int .i64 k ∧ Hid (But [] w13 wx))
    case atStart => exact ⟨0, by omega, Nat.zero_le _, rfl, But.refl _ _⟩
    case round =>
    obtain ⟨k, hkg, hk, rfl, HK⟩ := hrel
    by_cases hklt : k < NU
    · have hx := uc_get LU k 0 (by rw [← HNL.out]; exact hklt) (by omega)
      have hy := uc_get LU k 1 (by rw [← HNL.out]; exact hklt) (by omega)
      obtain ⟨X, hX⟩ : ∃ X : Int, X = ((LU.getD k 0 / 32 : Nat) : Int) := ⟨_, rfl⟩
      obtain ⟨Y, hY⟩ : ∃ Y : Int, Y = ((LU.getD k 0 % 32 : Nat) : Int) := ⟨_, rfl⟩
      have hx' : (uc LU)[k * 2]? = some (.int .i64 X) := by rw [hX]; exact hx
      have hy' : (uc LU)[k * 2 + 1]? = some (.int .i64 Y) := by rw [hY]; exact hy
      obtain ⟨g2, off2, cap2, e2, hc1, hc2⟩ := pair_at (HQ12.out.keep0 HK.out) hklt _ _ hx' hy'
      obtain ⟨g3, off3, cap3, e3, hc3, hc4⟩ := pair_at (HQ13.out.keep0 HK.out) hklt _ _ hx' hy'
      injection e2 with e21 e22 e23
      injection e3 with e31 e32 e33
      subst e21
      subst e31
      clear e22 e23 e32 e33 hx hy hx' hy' hX hY
      have hkI : (k : Int) < (NU : Int) := by omega
      have hNU := HNU.out
      have heq := eqPair X Y
      go_wp2
      go_quiet (fail)
      go_wp2
      go_roundg (NU + 1 - (k + 1))
      case measure => omega
      case rel => exact ⟨k + 1, by omega, by omega, by go_num, HK.out.drewN _⟩
    · obtain rfl : k = NU := by omega
      have HS14 := hid (HS13.out.keep0 HK.out)
      clear HK HS13 HQ12 HQ13 hkg hk
      go_wp2
      go_loopg [13, 14] 65 (fun g2 nv sv wx => ∃ s3 n3 : Nat, s3 + g2 = 65 ∧ s3 ≤ 64 ∧ sv = .int .i64 s3 ∧ nv = .int .i64 n3 ∧ Hid (n3 = cn T5 (s3 * 32)) ∧ Hid (Lw w bx bl m5 T5 T5 wx))
      case atStart => exact ⟨0, 0, by omega, by omega, rfl, rfl, by show _ = _; rw [Nat.zero_mul]; exact (ct_zero _).symm, HS14.out⟩
      case round =>
      clear HS14
      obtain ⟨s3, n3, hsg, hs3, rfl, rfl, HN3, HS3⟩ := hrel
      by_cases hslt : s3 < 64
      · have hsI : (s3 : Int) < 64 := by omega
        obtain ⟨q, hq⟩ : ∃ q, q = (pgl T5 (s3 : Int) 32).length := ⟨_, rfl⟩
        have HN4 : Hid (n3 + q = cn T5 ((s3 + 1) * 32)) := by
          have h1 := pgl_cn T5 s3 hslt 32 (by omega)
          have h2 := HN3.out
          show _ = _
          rw [show (s3 + 1) * 32 = s3 * 32 + 32 by omega, ← h1, hq]
          omega
        have hw : IntKind.i64.wrap ((n3 : Int) + (q : Int)) = ((n3 + q : Nat) : Int) := by
          have h1 := cn_le T5 ((s3 + 1) * 32)
          rw [← HN4.out] at h1
          rw [wrap_small _ (by omega) (by omega)]
          omega
        have HRP := hid (rpages_c bl T5 s3 _ HS3.out.rf)
        rw [← hq] at HRP
        clear hq HN3
        go_wp2_with fail
        refine HRP.out.mono ?_
        rintro e w20 ⟨A20, c20, rfl, hq20, k20⟩
        have HS20 := hid (HS3.out.keep0 k20)
        clear hq20 k20 HRP HS3
        go_wp2
        go_roundg (65 - (s3 + 1))
        case measure => omega
        case rel => exact ⟨s3 + 1, n3 + q, by omega, by omega, by go_num, rfl, HN4.out, HS20.out⟩
      · obtain rfl : s3 = 64 := by omega
        have HN4 : Hid (n3 = cn T5 2048) := HN3.out
        clear HN3
        go_wp2_with fail
        refine (len_c _ m5 T5 _ (Tv.at_ HS3.out.tb)).mono ?_
        rw [← HN4.out]
        rintro e w20 ⟨rfl, rfl⟩
        go_wp2
        go_roundg (60 - (i + 1))
        case measure => omega
        case rel => exact ⟨i + 1, m5, T5, by omega, by omega, by go_num, HS3.out⟩
end Go.Proofs.Ytiklneamdfgahaa.Bd
