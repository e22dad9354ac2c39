/-
  Layer 15 (bind): the chapter's example, over the translated program.
-/
import Derived.Test.YtiklneamdfgahaaBdUses
import Derived.Test.YtiklneamdfgahaaHeld
namespace Go.Proofs.Ytiklneamdfgahaa.Bd
open Go.ChangeShapes Go.WideShapes Go.ChangeAt Go.RowKit
open Wh
set_option linter.unusedVariables false
set_option maxRecDepth 20000

theorem plainInt : Try.prog.plainKey 3 = true := by kernel_rfl
theorem run_eqItems_k {P : Program} {w : World} {e : TypeId} (k : IntKind) (hu : P.underlying e = some (.int k)) (hp : P.plainKey e = true) (X Y : Array Value) (f g : Nat → Int) (d : Nat) : ∀ (is : List Nat), (∀ i ∈ is, X[i * 1]? = some (.int k (f i))) → (∀ i ∈ is, Y[i * 1]? = some (.int k (g i))) →
    (Op.eqItems (d + 1) e 1 X Y is).run P w = .ok (decide (∀ i ∈ is, f i = g i)) w
  | [], _, _ => by simp [Op.eqItems]
  | i :: is, hX, hY => by
    have ih := run_eqItems_k k hu hp X Y f g d is (fun j hj => hX j (by simp [hj])) (fun j hj => hY j (by simp [hj])) (w := w)
    simp only [Op.eqItems, Sem.run_bind, run_part_plain w hp (hX i (by simp)), run_part_plain w hp (hY i (by simp)), Result.andThen_ok, run_equalIn_int w d e k k (f i) (g i) hu]
    by_cases hfg : f i = g i
    · simp [hfg, ih]
    · simp [hfg]
theorem eqPair (x y : Int) (w : World) : (Op.equalIn 10000 45 (.agg #[.int .i64 x, .int .i64 y]) (.agg #[.int .i64 x, .int .i64 y])).run Try.prog w = .ok true w := by
  obtain ⟨i0, hi⟩ : ∃ i0, Try.prog.info? 3 = some i0 := Option.isSome_iff_exists.1 (by kernel_rfl)
  rw [show (10000 : Nat) = 9999 + 1 from rfl, run_equalIn_array w 9999 _ _ Try.underlying45 hi, cellsInt, show List.range 2 = [0, 1] from rfl]
  rw [run_eqItems_k .i64 Try.underlying3 plainInt _ _ (fun i => if i = 0 then x else y) (fun i => if i = 0 then x else y) 9998 [0, 1]
    (fun i hi => by simp at hi; rcases hi with rfl | rfl <;> rfl) (fun i hi => by simp at hi; rcases hi with rfl | rfl <;> rfl)]
  simp
theorem usl_dn (T : Tb) (f : Int) : ∀ n, (usl T f n).length = dn T (isF T f) n
  | 0 => by
    rw [show usl T f 0 = [] by unfold usl; rfl]
    exact (ct_zero _).symm
  | n + 1 => by
    rw [usl_succ, dn_succ, List.length_append, usl_dn T f n]
    cases hb : T n with
    | none => simp [isF_none hb]
    | some b => cases h : isF T f n <;> simp [bd1, hb]
/-- The example's table. -/
def Ta : Tb := pt (pt no 1 2 (5, false)) 0 9 (5, false)
theorem ta_at (k : Nat) : Ta k = if k = 9 then some (5, false) else if k = 34 then some (5, false) else none := by
  unfold Ta pt
  rw [if_pos (by decide), if_pos (by decide)]
  rfl
theorem ta_f (k : Nat) : isF Ta 5 k = true ↔ k = 9 ∨ k = 34 := by
  by_cases h : k = 9
  · subst h
    rw [isF_some (b := (5, false)) (by rw [ta_at]; rfl)]
    simp
  · by_cases h2 : k = 34
    · subst h2
      rw [isF_some (b := (5, false)) (by rw [ta_at]; rfl)]
      simp
    · rw [isF_none (by rw [ta_at, if_neg h, if_neg h2])]
      simp [h, h2]
theorem ta_u : usl Ta 5 2048 = [9, 34] := rise_eq _ _ (usl_sorted _ _ _) (by simp) fun k => by
  rw [usl_mem, ta_f]
  simp
  omega
theorem ta_n : dn Ta (isF Ta 5) 2048 = 2 := by rw [← usl_dn, ta_u]; rfl
theorem ta_c : cut Ta (isF Ta 5) = no := by
  funext k
  unfold cut
  by_cases h : k = 9 ∨ k = 34
  · rw [if_pos ((ta_f k).2 h)]; rfl
  · rw [if_neg (fun hh => h ((ta_f k).1 hh)), ta_at, if_neg (fun e => h (.inl e)), if_neg (fun e => h (.inr e))]; rfl
set_option maxHeartbeats 2000000 in
theorem awake_c (w : World) : Calls Try.prog 16 #[] w fun e w' => e = .returned (.bool true) ∧ But [] w w' := by
  obtain ⟨b, hb⟩ : ∃ b, b = w.heap.size := ⟨_, rfl⟩
  have HN := hid (new_c w)
  rw [← hb] at HN
  have HB := hid hb
  have HC1 : Hid (ptB 1 2 5 = true) := decide_eq_true (by decide)
  have HC2 : Hid (ptB 0 9 5 = true) := decide_eq_true (by decide)
  have HU := hid ta_u
  have HD := hid ta_n
  have HT := hid ta_c
  have heq := eqPair
  clear hb
  go_enter Try.func16, Try.ntmps16
  go_wp2_with fail
  refine HN.out.mono ?_
  rintro e w1 ⟨rfl, h1, k1⟩
  have H1 := hid h1
  have K1 := hid k1
  clear h1 k1 HN
  go_wp2_with fail
  refine (put_c b none no 1 2 5 false _ H1.out).mono ?_
  rw [HC1.out]
  rintro e w2 ⟨rfl, m2, h2, k2, n2⟩
  have H2 := hid h2
  have HN2 : Hid (∀ m, m2 = some m → w.heap.size ≤ m) := fun m hm => by
    rcases n2 m hm with hh | hh
    · cases hh
    · exact Nat.le_trans K1.out.size hh
  have K2 := hid (but_own K1.out k2 (fun i hi => by simp at hi; have := HB.out; omega))
  clear h2 k2 n2
  go_wp2_with fail
  refine (put_c b m2 _ 0 9 5 false _ H2.out).mono ?_
  rw [HC2.out]
  rintro e w3 ⟨rfl, m3, h3, k3, n3⟩
  have H3 : Hid (TbAt w3 b m3 Ta) := h3
  have HN3 : Hid (∀ m, m3 = some m → w.heap.size ≤ m) := fun m hm => by
    rcases n3 m hm with hh | hh
    · exact HN2.out m hh
    · exact Nat.le_trans K2.out.size hh
  have K3 := hid (but_own K2.out k3 (fun i hi => by
    simp at hi
    rcases hi with rfl | hi
    · have := HB.out; omega
    · exact HN2.out i hi))
  clear h3 k3 n3
  go_wp2_with fail
  refine (uses_c _ m3 Ta 5 _ (Tv.at_ H3.out)).mono ?_
  rw [HU.out]
  rintro e w4 ⟨A, c, he, hq, k4⟩
  obtain ⟨g, off, cap, hv, hbg, hg, hnc, hr⟩ := hq.row (by decide)
  rw [hv] at he
  change e = .returned (.slice (some ⟨g, off, none⟩) 2 cap) at he
  subst he
  have H4 := hid (H3.out.keep0 k4)
  have K4 := hid (K3.out.trans k4)
  have hr' : w4.rangeAt g off [.int .i64 0, .int .i64 9, .int .i64 1, .int .i64 2] := hr
  have hc0 := range_cells hr' 0 _ rfl
  have hc1 := range_cells hr' 1 _ rfl
  have hc2 := range_cells hr' 2 _ rfl
  have hc3 := range_cells hr' 3 _ rfl
  rw [Nat.add_zero] at hc0
  clear hq k4 hv hbg hg hnc hr hr'
  go_wp2_with fail
  refine (release_c b m3 Ta 5 _ H4.out).mono ?_
  rw [HD.out, HT.out]
  rintro e w5 ⟨rfl, m5, h5, k5, n5⟩
  have H5 := hid h5
  have K5 := hid (but_own K4.out k5 (fun i hi => by
    simp at hi
    rcases hi with rfl | hi
    · have := HB.out; omega
    · exact HN3.out i hi))
  clear h5 k5 n5
  go_wp2_with fail
  refine (len_c _ m5 no _ (Tv.at_ H5.out)).mono ?_
  rw [cn_no]
  rintro e w6 ⟨rfl, rfl⟩
  go_wp2
  go_ret
  exact ⟨rfl, K5.out⟩
end Go.Proofs.Ytiklneamdfgahaa.Bd
