/-
  Layer 10 (span): contracts of slices.Clone, Rows, Same, awake, over the translated program.
-/
import Derived.Test.YtlppfcoclpdanaaSnRef2
import Derived.Test.YtlppfcoclpdanaaHeld
import Derived.ChangeKeysEq
namespace Go.Proofs.Ytlppfcoclpdanaa.Sn
open Go.ChangeShapes Go.WideShapes Go.ChangeAt Go.RowKit
open Wh
set_option linter.unusedVariables false
set_option maxRecDepth 20000

theorem plainInt : Try.prog.plainKey 3 = true := by kernel_rfl
theorem cellsInt : Try.prog.cellsOf 3 = 1 := by kernel_rfl
theorem run_eqItems_k {P : Program} {w : World} {e : TypeId} (k : IntKind) (hu : P.underlying e = some (.int k)) (hp : P.plainKey e = true) (X Y : Array Value) (f g : Nat → Int) (d : Nat) : ∀ (is : List Nat), (∀ i ∈ is, X[i * 1]? = some (.int k (f i))) → (∀ i ∈ is, Y[i * 1]? = some (.int k (g i))) →
    (Op.eqItems (d + 1) e 1 X Y is).run P w = .ok (decide (∀ i ∈ is, f i = g i)) w
  | [], _, _ => by simp [Op.eqItems]
  | i :: is, hX, hY => by
    have ih := run_eqItems_k k hu hp X Y f g d is (fun j hj => hX j (by simp [hj])) (fun j hj => hY j (by simp [hj])) (w := w)
    simp only [Op.eqItems, Sem.run_bind, run_part_plain w hp (hX i (by simp)), run_part_plain w hp (hY i (by simp)), Result.andThen_ok, run_equalIn_int w d e k k (f i) (g i) hu]
    by_cases hfg : f i = g i
    · simp [hfg, ih]
    · simp [hfg]
theorem eqRow (x y : Int) (w : World) : (Op.equalIn 10000 75 (.agg #[.int .i64 x, .int .i64 y]) (.agg #[.int .i64 x, .int .i64 y])).run Try.prog w = .ok true w := by
  obtain ⟨i0, hi⟩ : ∃ i0, Try.prog.info? 3 = some i0 := Option.isSome_iff_exists.1 (by kernel_rfl)
  rw [show (10000 : Nat) = 9999 + 1 from rfl, run_equalIn_array w 9999 _ _ Try.underlying75 hi, cellsInt, show List.range 2 = [0, 1] from rfl]
  rw [run_eqItems_k .i64 Try.underlying3 plainInt _ _ (fun i => if i = 0 then x else y) (fun i => if i = 0 then x else y) 9998 [0, 1]
    (fun i hi => by simp at hi; rcases hi with rfl | rfl <;> rfl) (fun i hi => by simp at hi; rcases hi with rfl | rfl <;> rfl)]
  simp
theorem eqNone (n c : Nat) (w : World) : Sem.run Try.prog (binOp .eql 29 (.slice none n c) (.slice none 0 0)) w = .ok (.bool true) w := by kernel_rfl
theorem eqSome (a : Addr) (n c : Nat) (w : World) : Sem.run Try.prog (binOp .eql 29 (.slice (some a) n c) (.slice none 0 0)) w = .ok (.bool false) w := by kernel_rfl
set_option maxHeartbeats 1000000 in
theorem clone_c (A : Option Addr) (n c lo : Nat) (f : Nat → Bool) (w : World) (h : SetAt w lo A n f) :
    Calls Try.prog 58 #[.slice A n c] w (Rowed w f) := by
  have hn := h.n_le
  have H := hid h
  by_cases hA : A = none
  · subst hA
    obtain rfl : n = 0 := by
      rcases Nat.eq_zero_or_pos n with h0 | h0
      · exact h0
      · obtain ⟨g, off, e, _⟩ := h.at_ (k := 0) (by omega)
        cases e
    have HE : Hid (E f = []) := List.eq_nil_of_length_eq_zero (by have := h.len; omega)
    clear h
    have he := eqNone
    go_enter Try.func58, Try.ntmps58
    go_wp2
    go_ret
    exact ⟨_, _, _, rfl, by rw [HE.out]; rfl, .inl (by rw [HE.out]; rfl), But.refl _ _⟩
  · obtain ⟨a, rfl⟩ : ∃ a, A = some a := by cases A with
      | none => exact absurd rfl hA
      | some a => exact ⟨a, rfl⟩
    obtain ⟨i0, hi0, hz0, hz1, hz2⟩ := info_parts Try.infoRow
    have hk0 : But [] w (w.alloc (.cells #[] 75)) := (But.refl [] w).alloc _
    have hQ : Que (w.alloc (.cells #[] 75)) w.heap.size 2 (.slice (some ⟨w.heap.size, 0, none⟩) 0 0) 0 [] :=
      ⟨rfl, .inr ⟨w.heap.size, 0, 0, rfl, Nat.le_refl _, by simp, Nat.le_refl _, Nat.zero_le _, fun j hj => by omega, fun j v hv => by simp at hv⟩⟩
    have hS : Src Try.prog 2 29 (.slice (some a) n c) n (ic (E f)) (w.alloc (.cells #[] 75)) := by
      refine Src.ofSlice _ Try.underlying29 a n c _ (by rw [ic_len]; exact h.len) (fun j u hu => ?_) (ic_one _)
      have hj : j < (ic (E f)).length := (List.getElem?_eq_some_iff.1 hu).1
      rw [ic_len] at hj
      obtain ⟨g, off, e, _, _, hc⟩ := (h.keep0 hk0).at_ (k := j) (by have := h.len; omega)
      injection e with e
      subst e
      have hcj := hc j (by have := h.len; omega)
      rw [Addr.add_mid, hcj]
      rw [ic_get _ _ hj] at hu
      injection hu with hu
      subst hu
      unfold ed
      rw [List.getD_eq_getElem?_getD, List.getD_eq_getElem?_getD, List.getElem?_eq_getElem hj]
      rfl
    obtain ⟨v', w2, hr, hq, hk, -⟩ := run_append_que (P := Try.prog) (w.alloc (.cells #[] 75)) w.heap.size 29 29 75 i0 _ 2 16 Try.underlying29 hi0 hz0 hz1 hz2 rfl (by decide) _ 0 [] hQ (.slice (some a) n c) n (ic (E f)) hS (by unfold maxLen; omega) (by omega) (by simp)
    have HR : Hid ((Builtin.append_ #[29, 29] 29 #[.slice (some ⟨w.heap.size, 0, none⟩) 0 0, .slice (some a) n c]).run Try.prog (w.alloc (.cells #[] 75)) = .ok v' w2) := hr
    have HK : Hid (But [] w w2) := but_own hk0 hk (fun i hi => by simp [Value.ownBlock] at hi; omega)
    rw [List.nil_append] at hq
    have HQ := hid hq
    clear h hA hk0 hQ hS hr hq hk hi0 hz0 hz1 hz2
    have he := eqSome
    go_enter Try.func58, Try.ntmps58
    go_wp2_with (first | (at_builtin; refine wpList_append_known _ rfl _ _ 29 rfl _ _ rfl rfl HR.out ?_))
    go_ret
    obtain ⟨A', c', rfl, hl', hr'⟩ := que_rd HQ.out
    exact ⟨_, _, _, rfl, hl', Li.of hr', HK.out⟩
set_option maxHeartbeats 1000000 in
theorem rows_c (A : Option Addr) (n c lo : Nat) (f : Nat → Bool) (w : World) (h : SetAt w lo A n f) :
    Calls Try.prog 52 #[.agg #[.slice A n c]] w (Rowed w f) := by
  obtain ⟨w0, hw0⟩ : ∃ w0, w0 = w.alloc (.cells #[.slice A n c] 31) := ⟨_, rfl⟩
  have HB0 : Hid (But [] w w0) := by show But _ _ _; rw [hw0]; exact (But.refl [] w).alloc _
  have H := hid (h.keep0 HB0.out)
  clear h
  go_enter Try.func52, Try.ntmps52
  go_wp2_with fail
  rw [← hw0]
  clear hw0
  refine (clone_c A n c lo f _ H.out).mono ?_
  rintro e w1 ⟨A1, n1, c1, rfl, hl, hs, k1⟩
  have HL := hid hl
  have HS := hid hs
  have HK := hid (HB0.out.trans k1)
  clear hl hs k1
  go_wp2
  go_ret
  exact ⟨_, _, _, rfl, HL.out, HS.out, HK.out⟩
/-- Numbers, as many as are said. -/
def Told (w : World) (l : List Nat) (L : Nat) (e : Ending) (w' : World) : Prop := ∃ A c, e = .returned (.slice A L c) ∧ Li w' A l ∧ But [] w w' ∧ Fm A L c
theorem Tells.told {w w' : World} {l : List Nat} {L : Nat} {e : Ending} (hL : l.length = L) (h : Tells w l e w') : Told w l L e w' := by
  obtain ⟨A, n, c, he, hl, hr, hk, hf⟩ := h
  subst hL
  subst hl
  exact ⟨A, c, he, Li.of hr, hk, hf⟩
def RowsN (w : World) (f : Nat → Bool) (n : Nat) (e : Ending) (w' : World) : Prop := ∃ A c, e = .returned (.slice A n c) ∧ Li w' A (E f) ∧ But [] w w'
theorem Rowed.num {w w' : World} {f : Nat → Bool} {n : Nat} {e : Ending} (hn : (E f).length = n * 2) (h : Rowed w f e w') : RowsN w f n e w' := by
  obtain ⟨A, m, c, he, hl, hr, hk⟩ := h
  obtain rfl : m = n := by omega
  exact ⟨A, c, he, hr, hk⟩
theorem g_keep {w0 wp wc : World} {b b' : Nat} {v : Value} {cs : List Value} (k : But [] wp wc) (h : wp.cell? ⟨b, 0, none⟩ = some v ∧ wp.rangeAt b' 0 cs ∧ But [] w0 wp) : wc.cell? ⟨b, 0, none⟩ = some v ∧ wc.rangeAt b' 0 cs ∧ But [] w0 wc :=
  ⟨cell_keep h.1 k (by simp), range_keep h.2.1 k (by simp), h.2.2.trans k⟩
set_option maxHeartbeats 4000000 in
theorem same_c (A : Option Addr) (n c lo : Nat) (f : Nat → Bool) (w : World) (h : SetAt w lo A n f) :
    Calls Try.prog 35 #[.agg #[.slice A n c], .agg (bv f).toArray] w fun e w' => e = .returned (.bool true) ∧ But [] w w' := by
  have hn := h.n_le
  have hl := h.len
  have hlim := h.lim
  obtain ⟨L, hL⟩ : ∃ L, (nums f 1024).length = L := ⟨_, rfl⟩
  have hLl : L ≤ 1024 := by have := nums_le f 1024; omega
  obtain ⟨b, hb⟩ : ∃ b, b = w.heap.size := ⟨_, rfl⟩
  obtain ⟨w0, hw0⟩ : ∃ w0, w0 = (w.alloc (.cells #[.slice A n c] 31)).alloc (.cells (bv f).toArray 36) := ⟨_, rfl⟩
  have HB0 : Hid (But [] w w0) := by show But _ _ _; rw [hw0]; exact ((But.refl [] w).alloc _).alloc _
  have t1 : w0.cell? ⟨b, 0, none⟩ = some (.slice A n c) := by
    have := cell_keep (l := []) (range_cells (new_range w [.slice A n c] 31) 0 _ rfl) ((But.refl [] _).alloc (.cells (bv f).toArray 36)) (by simp)
    rw [hw0, hb]; exact this
  have t2 : w0.rangeAt (b + 1) 0 (bv f) := by
    have := new_range (w.alloc (.cells #[.slice A n c] 31)) (bv f) 36
    rw [show (w.alloc (.cells #[.slice A n c] 31)).heap.size = w.heap.size + 1 by simp] at this
    rw [hw0, hb]; exact this
  have HC := hid t1
  have HR := hid t2
  have H0 := h.keep0 HB0.out
  have HALL : Hid (∀ wy, But [] w0 wy → Calls Try.prog 33 #[.agg #[.slice A n c]] wy (Told wy (nums f 1024) L)) := by
    show ∀ wy, But [] w0 wy → Calls _ _ _ _ _
    exact fun wy hy => (all_c A n c lo f wy (H0.keep0 hy)).mono (fun e w' h => h.told hL)
  have HRALL : Hid (∀ wy, Calls Try.prog 34 #[.agg (bv f).toArray] wy (Told wy (nums f 1024) L)) := by
    show ∀ wy, Calls _ _ _ _ _
    exact fun wy => (rall_c f wy).mono (fun e w' h => h.told hL)
  have HLEN : Hid (∀ wy, But [] w0 wy → Calls Try.prog 18 #[.agg #[.slice A n c]] wy fun e w' => e = .returned (.int .i64 L) ∧ But [] wy w') := by
    show ∀ wy, But [] w0 wy → Calls _ _ _ _ _
    intro wy hy
    have := len_c A n c lo f wy (H0.keep0 hy)
    rwa [hL] at this
  have HROWS : Hid (∀ wy, But [] w0 wy → Calls Try.prog 52 #[.agg #[.slice A n c]] wy (RowsN wy f n)) := by
    show ∀ wy, But [] w0 wy → Calls _ _ _ _ _
    exact fun wy hy => (rows_c A n c lo f wy (H0.keep0 hy)).mono (fun e w' h => h.num hl)
  have HRROWS : Hid (∀ wy, Calls Try.prog 53 #[.agg (bv f).toArray] wy (RowsN wy f n)) := by
    show ∀ wy, Calls _ _ _ _ _
    exact fun wy => (rrows_c f hlim wy).mono (fun e w' h => h.num hl)
  have HINTS : Hid (∀ wy A1 A2 c1 c2, Li wy A1 (nums f 1024) → Li wy A2 (nums f 1024) → Calls Try.prog 32 #[.slice A1 L c1, .slice A2 L c2] wy fun e w' => e = .returned (.bool true) ∧ But [] wy w') := by
    show ∀ wy A1 A2 c1 c2, Li _ _ _ → Li _ _ _ → Calls _ _ _ _ _
    exact fun wy A1 A2 c1 c2 h1 h2 => ints_c A1 A2 L c1 c2 _ wy hL (by omega) h1 h2
  have HL := hid hl
  have HS0 : Hid (w0.drew.cell? ⟨b, 0, none⟩ = some (.slice A n c) ∧ w0.drew.rangeAt (b + 1) 0 (bv f) ∧ But [] w0 w0.drew) := ⟨t1, (World.rangeAt_drew _ _ _ _).2 t2, (But.refl [] w0).drew⟩
  clear h hl hlim hL H0
  have hui := Try.underlying36
  have hsi := iSet f
  go_enter Try.func35, Try.ntmps35
  go_upto_region 1 with fail
  rw [← hw0, ← hb]
  clear hw0 hb
  refine wp_region_noPanic ?_
  refine wp_region_held_drew (S := fun w' => w'.cell? ⟨b, 0, none⟩ = some (.slice A n c) ∧ w'.rangeAt (b + 1) 0 (bv f) ∧ But [] w0 w') (by kernel_rfl) HS0.out (fun hS0 => ?_)
  refine held_take 0 (some 8) (.agg #[.slice A n c]) rfl rfl (by kernel_rfl) (by kernel_rfl) (by kernel_rfl) (fun _ _ _ h => h) (Or.inl ⟨by rfl, fun w' hw' => by obtain ⟨hw1, -⟩ := hw'; go_simp⟩) hS0 ?_
  simp only [Act.put, List.setIfInBounds_toArray, List.set_cons_zero, List.set_cons_succ]
  refine held_take 2 (some 10) (.agg (bv f).toArray) rfl rfl (by kernel_rfl) (by kernel_rfl) (by kernel_rfl) (fun _ _ _ h => h) (yieldsIf_load_mid (by rfl) _ _ rfl (b + 1) 0 rfl (bv f) _ (fun w' h => h.2.1) Try.underlying36 rfl (iSet f)) hS0 ?_
  simp only [Act.put, List.setIfInBounds_toArray, List.set_cons_zero, List.set_cons_succ]
  refine held_one 1 rfl (by kernel_rfl) (by rfl) (fun K hK => ?_)
  go_simp
  refine (HALL.out _ hS0.2.2).mono ?_
  rintro e w1 ⟨A1, c1, rfl, L1, k1, -⟩
  go_wp2_with fail
  refine hK.out _ _ (g_keep k1 hS0) (fun hS1 => ?_)
  clear hK K hS0
  try simp only [Act.put, List.setIfInBounds_toArray, List.set_cons_zero, List.set_cons_succ]
  refine held_one 3 rfl (by kernel_rfl) (by rfl) (fun K hK => ?_)
  go_simp
  refine (HRALL.out _).mono ?_
  rintro e w3 ⟨A3, c3, rfl, L3, k3, -⟩
  go_wp2_with fail
  refine hK.out _ _ (g_keep k3 hS1) (fun hS3 => ?_)
  clear hK K hS1
  try simp only [Act.put, List.setIfInBounds_toArray, List.set_cons_zero, List.set_cons_succ]
  refine held_one 4 rfl (by kernel_rfl) (by rfl) (fun K hK => ?_)
  go_simp
  refine (HINTS.out _ _ _ _ _ (L1.keep k3) L3).mono ?_
  rintro e w4 ⟨rfl, k4⟩
  go_wp2_with fail
  refine hK.out _ _ (g_keep k4 hS3) (fun hS4 => ?_)
  clear hK K hS3
  try simp only [Act.put, List.setIfInBounds_toArray, List.set_cons_zero, List.set_cons_succ]
  refine held_take 5 (some 13) (.bool false) rfl rfl (by kernel_rfl) (by kernel_rfl) (by kernel_rfl) (fun _ _ _ h => h) (Or.inl ⟨by rfl, fun w' hw' => by go_simp⟩) hS4 ?_
  simp only [Act.put, List.setIfInBounds_toArray, List.set_cons_zero, List.set_cons_succ]
  refine held_take 6 (some 14) (.bool false) rfl rfl (by kernel_rfl) (by kernel_rfl) (by kernel_rfl) (fun _ _ _ h => h) (Or.inl ⟨by rfl, fun w' hw' => by go_simp⟩) hS4 ?_
  simp only [Act.put, List.setIfInBounds_toArray, List.set_cons_zero, List.set_cons_succ]
  refine held_take 7 (some 15) (.agg #[.slice A n c]) rfl rfl (by kernel_rfl) (by kernel_rfl) (by kernel_rfl) (fun _ _ _ h => h) (Or.inl ⟨by rfl, fun w' hw' => by obtain ⟨hw1, -⟩ := hw'; go_simp⟩) hS4 ?_
  simp only [Act.put, List.setIfInBounds_toArray, List.set_cons_zero, List.set_cons_succ]
  refine held_take 9 (some 17) (.agg (bv f).toArray) rfl rfl (by kernel_rfl) (by kernel_rfl) (by kernel_rfl) (fun _ _ _ h => h) (yieldsIf_load_mid (by rfl) _ _ rfl (b + 1) 0 rfl (bv f) _ (fun w' h => h.2.1) Try.underlying36 rfl (iSet f)) hS4 ?_
  simp only [Act.put, List.setIfInBounds_toArray, List.set_cons_zero, List.set_cons_succ]
  refine held_one 8 rfl (by kernel_rfl) (by rfl) (fun K hK => ?_)
  go_simp
  refine (HLEN.out _ hS4.2.2).mono ?_
  rintro e w8 ⟨rfl, k8⟩
  go_wp2_with fail
  refine hK.out _ _ (g_keep k8 hS4) (fun hS8 => ?_)
  clear hK K hS4
  try simp only [Act.put, List.setIfInBounds_toArray, List.set_cons_zero, List.set_cons_succ]
  refine held_one 10 rfl (by kernel_rfl) (by rfl) (fun K hK => ?_)
  go_simp
  refine (HRALL.out _).mono ?_
  rintro e w10 ⟨A10, c10, rfl, L10, k10, -⟩
  go_wp2_with fail
  refine hK.out _ _ (g_keep k10 hS8) (fun hS10 => ?_)
  clear hK K hS8
  try simp only [Act.put, List.setIfInBounds_toArray, List.set_cons_zero, List.set_cons_succ]
  refine held_take 11 (some 19) (.int .i64 L) rfl rfl (by kernel_rfl) (by kernel_rfl) (by kernel_rfl) (fun _ _ _ h => h) (Or.inl ⟨by rfl, fun w' hw' => by go_simp⟩) hS10 ?_
  simp only [Act.put, List.setIfInBounds_toArray, List.set_cons_zero, List.set_cons_succ]
  refine held_take 12 (some 20) (.bool false) rfl rfl (by kernel_rfl) (by kernel_rfl) (by kernel_rfl) (fun _ _ _ h => h) (Or.inl ⟨by rfl, fun w' hw' => by go_simp⟩) hS10 ?_
  simp only [Act.put, List.setIfInBounds_toArray, List.set_cons_zero, List.set_cons_succ]
  refine held_take 13 (some 21) (.bool false) rfl rfl (by kernel_rfl) (by kernel_rfl) (by kernel_rfl) (fun _ _ _ h => h) (Or.inl ⟨by rfl, fun w' hw' => by go_simp⟩) hS10 ?_
  simp only [Act.put, List.setIfInBounds_toArray, List.set_cons_zero, List.set_cons_succ]
  refine wpAnyH_done (by kernel_rfl) ?_ _
  refine NoPanic.normal ?_
  have HSZ := hid hS10
  clear hS10
  have HSW : Hid (w10.drew.cell? ⟨b, 0, none⟩ = some (.slice A n c) ∧ w10.drew.rangeAt (b + 1) 0 (bv f) ∧ But [] w0 w10.drew) := g_keep (But.refl [] w10).drew HSZ.out
  clear L1 L3 L10 k1 k3 k4 k8 k10 HSZ HALL HRALL HLEN HINTS
  go_wp2_with fail
  go_region_held3 (fun w' => w'.cell? ⟨b, 0, none⟩ = some (.slice A n c) ∧ w'.rangeAt (b + 1) 0 (bv f) ∧ But [] w0 w')
    (first | exact HSW.out | assumption | exact g_keep (by assumption) (by assumption))
    (first
      | (go_at_call 52; refine (HROWS.out _ (held3 (by assumption))).mono ?_; rintro e w11 ⟨A11, c11, rfl, R11, k11⟩)
      | (go_at_call 53; refine (HRROWS.out _).mono ?_; rintro e w12 ⟨A12, c12, rfl, R12, k12⟩))
  go_split_ands
  have HB12 : Hid (But [] w w12) := HB0.out.trans ‹But [] w0 w12›
  have HR1 := hid (R11.keep k12)
  have HR2 := hid R12
  clear R11 R12 k11 k12 HROWS HRROWS t1 t2 HSW hui hsi
  go_wp2
  go_loopg [7] (n + 1) (fun g0 i wr => ∃ m : Nat, m + g0 = n + 1 ∧ m ≤ n ∧ i = .int .i64 m ∧ Hid (But [] w12 wr))
  case atStart => exact ⟨0, by omega, Nat.zero_le _, rfl, But.refl _ _⟩
  case round =>
    obtain ⟨m, hmg, hmn, rfl, hbel⟩ := hrel
    by_cases hlt : m < n
    · have hlx : m * 2 < (E f).length := by have := HL.out; omega
      have hlx1 : m * 2 + 1 < (E f).length := by have := HL.out; omega
      obtain ⟨b1, off1, hA1, hb1, hcell1⟩ := HR1.out.at_ hlx
      obtain ⟨b2, off2, hA2, hb2, hcell2⟩ := HR2.out.at_ hlx
      have hc1 := cell_keep (hcell1 (m * 2) hlx) hbel.out (by simp)
      have hc2 := cell_keep (hcell2 (m * 2) hlx) hbel.out (by simp)
      have hd1 := cell_keep (hcell1 (m * 2 + 1) hlx1) hbel.out (by simp)
      have hd2 := cell_keep (hcell2 (m * 2 + 1) hlx1) hbel.out (by simp)
      rw [← Nat.add_assoc] at hd1 hd2
      generalize (E f).getD (m * 2) 0 = x at *
      generalize (E f).getD (m * 2 + 1) 0 = y at *
      subst hA1
      subst hA2
      clear hcell1 hcell2 hlx hlx1
      have heq := eqRow x y
      go_wp2
      go_quiet (fail)
      go_wp2
      go_roundg (n + 1 - (m + 1))
      case measure => omega
      case rel => exact ⟨m + 1, by omega, by omega, by go_num, hbel.out.drewN _⟩
    · obtain rfl : m = n := by omega
      go_wp2
      go_ret
      exact ⟨rfl, HB12.out.trans hbel.out⟩
end Go.Proofs.Ytlppfcoclpdanaa.Sn
