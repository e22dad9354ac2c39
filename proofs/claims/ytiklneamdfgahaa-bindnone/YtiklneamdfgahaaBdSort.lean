/-
  Layer 15 (bind): pages of spaces as pairs in a row; the contract of the comparison that Uses hands to slices.SortFunc, and of that call, over the translated program.
-/
import Derived.Test.YtiklneamdfgahaaBdCut
import Derived.Test.YtiklneamdfgahaaShelf
import Derived.Deep.QuietTactic
import Derived.BigQuiet
namespace Go.Proofs.Ytiklneamdfgahaa.Bd
open Go.ChangeShapes Go.WideShapes Go.ChangeAt Go.RowKit
open Go.Sort Go.Lib Wh
set_option linter.unusedVariables false
set_option maxRecDepth 20000

/-- A place as a pair. -/
def uc1 (k : Nat) : List Value := [.int .i64 ((k / 32 : Nat) : Int), .int .i64 ((k % 32 : Nat) : Int)]
/-- Places as pairs, one behind the other. -/
def uc : List Nat → List Value
  | [] => []
  | k :: l => uc1 k ++ uc l
theorem uc_len : ∀ l : List Nat, (uc l).length = l.length * 2
  | [] => rfl
  | k :: l => by
    have := uc_len l
    simp only [uc, uc1, List.length_append, List.length_cons, List.length_nil]
    omega
theorem uc_app : ∀ l l' : List Nat, uc (l ++ l') = uc l ++ uc l'
  | [], _ => rfl
  | k :: l, l' => by simp only [List.cons_append, uc, uc_app l l', List.append_assoc]
theorem uc_get : ∀ (l : List Nat) (i r : Nat), i < l.length → r < 2 → (uc l)[i * 2 + r]? = (uc1 (l.getD i 0))[r]?
  | [], _, _, h, _ => by cases h
  | k :: l, 0, r, _, hr => by
    show (uc1 k ++ uc l)[0 * 2 + r]? = _
    rw [List.getElem?_append_left (by simp [uc1]; omega)]
    simp
  | k :: l, i + 1, r, h, hr => by
    have hl : i < l.length := by simpa using h
    show (uc1 k ++ uc l)[(i + 1) * 2 + r]? = _
    rw [List.getElem?_append_right (by simp [uc1]; omega)]
    have : (i + 1) * 2 + r - (uc1 k).length = i * 2 + r := by simp [uc1]; omega
    rw [this, uc_get l i r hl hr]
    simp
theorem uc1_one (k : Nat) : ∀ v ∈ uc1 k, v.oneCell' = true := by
  intro v hv
  simp only [uc1, List.mem_cons, List.not_mem_nil, or_false] at hv
  rcases hv with rfl | rfl <;> rfl
theorem uc_flat (l : List Nat) (j : Nat) (hj : j < l.length * 2) : (uc l)[j]? = some ((flatK uc1 2 l.toArray)[j]!) := by
  have hi : j / 2 < l.length := by omega
  have e : j / 2 * 2 + j % 2 = j := by omega
  have h := uc_get l (j / 2) (j % 2) hi (Nat.mod_lt _ (by omega))
  rw [e] at h
  rw [h, get_flatK uc1 2 l.toArray j (by simpa using hj)]
  have e2 : l.toArray[j / 2]! = l.getD (j / 2) 0 := by simp [List.getD, hi]
  rw [e2]
  have h2 : j % 2 < (uc1 (l.getD (j / 2) 0)).length := by simp [uc1]; omega
  rw [List.getElem?_eq_getElem h2]
  exact congrArg some (getElem!_pos (uc1 (l.getD (j / 2) 0)) (j % 2) h2).symm
/-- Which of two pairs is ahead. -/
def c2 (a b x y : Int) : Int := if a < x then -1 else if x < a then 1 else if b < y then -1 else if y < b then 1 else 0
/-- .. of two places. -/
def cP (k j : Nat) : Int := c2 ((k / 32 : Nat) : Int) ((k % 32 : Nat) : Int) ((j / 32 : Nat) : Int) ((j % 32 : Nat) : Int)
theorem lt_cP (k j : Nat) : ltOf cP k j = decide (k < j) := by
  unfold ltOf
  refine decide_eq_decide.2 ?_
  unfold cP c2
  constructor
  · intro h
    split at h
    · omega
    · split at h
      · omega
      · split at h
        · omega
        · split at h <;> omega
  · intro h
    split
    · omega
    · split
      · omega
      · split
        · omega
        · split <;> omega
theorem swoP : SWO (ltOf cP) := ⟨(fun x => by rw [lt_cP]; simp), (fun x y z h1 h2 => by rw [lt_cP] at *; simp at *; omega), (fun x y z h1 h2 => by rw [lt_cP] at *; simp at *; omega)⟩
/-- The places, sorted. -/
noncomputable def srt (l : List Nat) : List Nat := l.mergeSort fun x y => !(ltOf cP) y x
theorem srt_len (l : List Nat) : (srt l).length = l.length := (List.mergeSort_perm _ _).length_eq
theorem srt_eq {l l' : List Nat} (hn : l.Nodup) (hs : l'.Pairwise (· < ·)) (hm : ∀ k, k ∈ l ↔ k ∈ l') : srt l = l' := by
  have hp : (srt l).Perm l := List.mergeSort_perm _ _
  refine rise_eq _ _ ?_ hs fun k => ⟨fun h => (hm k).1 (hp.mem_iff.1 h), fun h => hp.mem_iff.2 ((hm k).2 h)⟩
  have h1 : (srt l).Pairwise (fun a b => (!(ltOf cP) b a) = true) := List.pairwise_mergeSort (fun a b c h1 h2 => by
      simp only [lt_cP, Bool.not_eq_true', decide_eq_false_iff_not] at *; omega) (fun a b => by
      simp only [lt_cP]
      by_cases h : b < a
      · have : ¬ a < b := by omega
        simp [this]
      · simp [h]) l
  have h2 : (srt l).Nodup := (hp.nodup_iff).2 hn
  refine (List.pairwise_and_iff.2 ⟨h1, h2⟩).imp ?_
  rintro a b ⟨h3, h4⟩
  simp only [lt_cP, Bool.not_eq_true', decide_eq_false_iff_not] at h3
  have : a ≠ b := h4
  omega

theorem nan_c (x : Int) (w : World) : Calls Try.prog 46 #[.int .i64 x] w fun e w' => e = .returned (.bool false) ∧ w = w' := by
  go_enter Try.func46, Try.ntmps46
  go_wp2
  go_ret
  exact ⟨rfl, rfl⟩
/-- Which of two numbers is ahead. -/
def c1 (x y : Int) : Int := if x < y then -1 else if y < x then 1 else 0
theorem cmp_c (x y : Int) (w : World) : Calls Try.prog 34 #[.int .i64 x, .int .i64 y] w fun e w' => e = .returned (.int .i64 (c1 x y)) ∧ w = w' := by
  obtain ⟨z, hz⟩ : ∃ z, z = c1 x y := ⟨_, rfl⟩
  rw [← hz]
  unfold c1 at hz
  by_cases h1 : x < y
  · rw [if_pos h1] at hz
    subst hz
    go_enter Try.func34, Try.ntmps34
    go_wp2_with (first | (go_at_call_of 46 x; refine (nan_c x _).mono ?_; rintro e w' ⟨rfl, rfl⟩) | (go_at_call_of 46 y; refine (nan_c y _).mono ?_; rintro e w' ⟨rfl, rfl⟩))
    go_ret
    exact ⟨rfl, rfl⟩
  · rw [if_neg h1] at hz
    have h1' : decide (x < y) = false := decide_eq_false h1
    by_cases h2 : y < x
    · rw [if_pos h2] at hz
      subst hz
      go_enter Try.func34, Try.ntmps34
      go_wp2_with (first | (go_at_call_of 46 x; refine (nan_c x _).mono ?_; rintro e w' ⟨rfl, rfl⟩) | (go_at_call_of 46 y; refine (nan_c y _).mono ?_; rintro e w' ⟨rfl, rfl⟩))
      go_ret
      exact ⟨rfl, rfl⟩
    · rw [if_neg h2] at hz
      subst hz
      have h2' : decide (y < x) = false := decide_eq_false h2
      go_enter Try.func34, Try.ntmps34
      go_wp2_with (first | (go_at_call_of 46 x; refine (nan_c x _).mono ?_; rintro e w' ⟨rfl, rfl⟩) | (go_at_call_of 46 y; refine (nan_c y _).mono ?_; rintro e w' ⟨rfl, rfl⟩))
      go_ret
      exact ⟨rfl, rfl⟩
set_option maxHeartbeats 2000000 in
theorem compare_c (A B : Nat) (a b x y : Int) (w : World) (ha : w.cell? ⟨A, 0, none⟩ = some (.int .i64 a)) (hb : w.cell? ⟨A, 1, none⟩ = some (.int .i64 b)) (hx : w.cell? ⟨B, 0, none⟩ = some (.int .i64 x)) (hy : w.cell? ⟨B, 1, none⟩ = some (.int .i64 y)) :
    Calls Try.prog 27 #[.slice (some ⟨A, 0, none⟩) 2 2, .slice (some ⟨B, 0, none⟩) 2 2] w fun e w' => e = .returned (.int .i64 (c2 a b x y)) ∧ w = w' := by
  obtain ⟨z, hz⟩ : ∃ z, z = c2 a b x y := ⟨_, rfl⟩
  rw [← hz]
  unfold c2 at hz
  by_cases h1 : a < x
  · rw [if_pos h1] at hz
    subst hz
    have hc : c1 a x = -1 := if_pos h1
    go_enter Try.func27, Try.ntmps27
    go_wp2
    refine wp_loop_rounds 3 ?_
    rw [rounds_succ]
    go_wp2_with fail
    refine (cmp_c a x _).mono ?_
    rw [hc]
    rintro e w' ⟨rfl, rfl⟩
    go_wp2
    go_ret
    exact ⟨rfl, rfl⟩
  · rw [if_neg h1] at hz
    by_cases h2 : x < a
    · rw [if_pos h2] at hz
      subst hz
      have hc : c1 a x = 1 := by unfold c1; rw [if_neg h1, if_pos h2]
      go_enter Try.func27, Try.ntmps27
      go_wp2
      refine wp_loop_rounds 3 ?_
      rw [rounds_succ]
      go_wp2_with fail
      refine (cmp_c a x _).mono ?_
      rw [hc]
      rintro e w' ⟨rfl, rfl⟩
      go_wp2
      go_ret
      exact ⟨rfl, rfl⟩
    · rw [if_neg h2] at hz
      have hc : c1 a x = 0 := by unfold c1; rw [if_neg h1, if_neg h2]
      change z = c1 b y at hz
      rw [hz]
      clear hz z h1 h2
      by_cases h3 : b < y
      · have hd : c1 b y = -1 := if_pos h3
        · rw [hd]
          go_enter Try.func27, Try.ntmps27
          go_wp2
          refine wp_loop_rounds 3 ?_
          rw [rounds_succ]
          go_wp2_with fail
          refine (cmp_c a x _).mono ?_
          rw [hc]
          rintro e w' ⟨rfl, rfl⟩
          go_wp2
          rw [rounds_succ]
          go_wp2_with fail
          refine (cmp_c b y _).mono ?_
          rw [hd]
          rintro e w' ⟨rfl, rfl⟩
          go_wp2
          go_ret
          exact ⟨rfl, rfl⟩
      · by_cases h4 : y < b
        · have hd : c1 b y = 1 := by unfold c1; rw [if_neg h3, if_pos h4]
          rw [hd]
          go_enter Try.func27, Try.ntmps27
          go_wp2
          refine wp_loop_rounds 3 ?_
          rw [rounds_succ]
          go_wp2_with fail
          refine (cmp_c a x _).mono ?_
          rw [hc]
          rintro e w' ⟨rfl, rfl⟩
          go_wp2
          rw [rounds_succ]
          go_wp2_with fail
          refine (cmp_c b y _).mono ?_
          rw [hd]
          rintro e w' ⟨rfl, rfl⟩
          go_wp2
          go_ret
          exact ⟨rfl, rfl⟩
        · have hd : c1 b y = 0 := by unfold c1; rw [if_neg h3, if_neg h4]
          rw [hd]
          go_enter Try.func27, Try.ntmps27
          go_wp2
          refine wp_loop_rounds 3 ?_
          rw [rounds_succ]
          go_wp2_with fail
          refine (cmp_c a x _).mono ?_
          rw [hc]
          rintro e w' ⟨rfl, rfl⟩
          go_wp2
          rw [rounds_succ]
          go_wp2_with fail
          refine (cmp_c b y _).mono ?_
          rw [hd]
          rintro e w' ⟨rfl, rfl⟩
          go_wp2
          rw [rounds_succ]
          go_wp2
          go_ret
          exact ⟨rfl, rfl⟩
theorem aE (w : World) : (isAgg 45).run Try.prog w = .ok true w := Try.isAgg45 w
theorem zE (w : World) : (Go.sizeOf 45).run Try.prog w = .ok 2 w := Try.sizeOf45 w
/-- The comparison that Uses hands on: it lays two blocks. -/
theorem less_c (a b x y : Int) (W : World) :
    Calls Try.prog 26 (#[.agg #[.int .i64 a, .int .i64 b], .agg #[.int .i64 x, .int .i64 y]] ++ #[]) W fun e w' => e = .returned (.int .i64 (c2 a b x y)) ∧ ∃ q os', w' = grow (W.drewN q) os' := by
  obtain ⟨z, hz⟩ : ∃ z, z = c2 a b x y := ⟨_, rfl⟩
  rw [← hz]
  have HZ := hid hz
  clear hz
  obtain ⟨g, hg⟩ : ∃ g, g = W.heap.size := ⟨_, rfl⟩
  have hA := new_range W [.int .i64 a, .int .i64 b] 45
  have hB := new_range (W.alloc (.cells #[.int .i64 a, .int .i64 b] 45)) [.int .i64 x, .int .i64 y] 45
  have hsz : (W.alloc (.cells #[.int .i64 a, .int .i64 b] 45)).heap.size = g + 1 := by rw [hg]; simp
  have hA2 := range_keep (l := []) hA ((But.refl [] _).alloc (.cells #[.int .i64 x, .int .i64 y] 45)) (by simp)
  rw [hsz] at hB
  rw [← hg] at hA2
  have HW : Hid (∃ os', (W.alloc (.cells #[.int .i64 a, .int .i64 b] 45)).alloc (.cells #[.int .i64 x, .int .i64 y] 45) = grow W os') := ⟨_, by rw [alloc_eq_grow, alloc_eq_grow, grow_grow]⟩
  have HA := hid hA2
  have HB := hid hB
  clear hA hB hsz hA2
  go_enter Try.func26, Try.ntmps26
  go_upto_region 1 with fail
  rw [← hg]
  clear hg
  generalize (W.alloc (.cells #[.int .i64 a, .int .i64 b] 45)).alloc (.cells #[.int .i64 x, .int .i64 y] 45) = w1 at *
  have ha := range_cells HA.out 0 _ rfl
  have hb := range_cells HA.out 1 _ rfl
  have hx := range_cells HB.out 0 _ rfl
  have hy := range_cells HB.out 1 _ rfl
  simp only [Nat.zero_add] at ha hb hx hy
  have HC : Hid (∀ n, Calls Try.prog 27 #[.slice (some ⟨g, 0, none⟩) 2 2, .slice (some ⟨g + 1, 0, none⟩) 2 2] (w1.drewN n) fun e w' => e = .returned (.int .i64 z) ∧ w' = w1.drewN n) := fun n => by
    rw [HZ.out]
    exact (compare_c g (g + 1) a b x y _ (by simpa using ha) (by simpa using hb) (by simpa using hx) (by simpa using hy)).mono fun e w' hh => ⟨hh.1, hh.2.symm⟩
  go_quiet ((go_at_call 27; exact Calls.quiet_of_same (HC.out _)))
  go_wp2
  go_ret
  obtain ⟨os', e⟩ := HW.out
  exact ⟨rfl, nq, os', by rw [e]; rfl⟩
theorem cmpLays (blk off size : Nat) (w : World) : CmpLays Try.prog 26 #[] uc1 2 cP blk off size w := fun _ _ _ _ x y => less_c _ _ _ _ _
theorem sort_but (w : World) (g off m : Nat) (d : Array Nat) (os : Array Obj) : But [g] w (sortWorldK uc1 2 w g off m d os) := by
  unfold sortWorldK putRowK putRow mapBlock
  refine ⟨rfl, rfl, rfl, by simp [Go.Sort.ahead], fun k hk hn => ?_⟩
  have hne : ¬ g = k := fun e => hn (by simp [e])
  show (w.heap.modify g _ ++ os)[k]? = w.heap[k]?
  rw [Array.getElem?_append_left (by simpa using hk), Array.getElem?_modify, if_neg hne]
set_option maxHeartbeats 1000000 in
/-- slices.SortFunc of such a row. -/
theorem sort_c (base n : Nat) (A : Option Addr) (cap : Nat) (l : List Nat) (w : World) (h : Que w base 2 (.slice A n cap) n (uc l)) (hn : n ≤ 100000) :
    Calls Try.prog 25 #[.slice A n cap, .func (.func 26) #[] #[]] w fun e w' =>
      e = .returned (.tuple #[]) ∧ Que w' base 2 (.slice A n cap) n (uc (srt l)) ∧ But (Value.slice A n cap).ownBlock.toList w w' := by
  obtain ⟨hl, h0⟩ := h
  rw [uc_len] at hl
  have hln : l.length = n := by omega
  rcases h0 with ⟨e, rfl⟩ | ⟨g, off, cap', e, hb, hg, hnc, hcm, ht, hr⟩
  · injection e with e1 e2 e3
    subst e1; subst e3
    refine (Try.slices_SortFunc_none (α := Nat) none 0 _ w).mono ?_
    rintro r w' ⟨rfl, rfl⟩
    have : l = [] := List.eq_nil_of_length_eq_zero hln
    subst this
    refine ⟨rfl, ?_, But.refl _ _⟩
    rw [show srt [] = [] from List.eq_nil_of_length_eq_zero (srt_len [])]
    exact Que.nil _ _ _
  · injection e with e1 e2 e3
    subst e1; subst e3
    have eg : ∀ args w, (callFunc 26 args).run Try.prog w = .ok (.enter 26 args) w := enters_of Try.func26 (by kernel_rfl) rfl
    have hH : HoldsK uc1 2 w g off l.toArray := fun j hj => by
      have hj2 : j < l.length * 2 := by simpa using hj
      have hjc : j < cap * 2 := Nat.lt_of_lt_of_le hj2 (Nat.mul_le_mul_right 2 (by omega))
      exact ⟨hr j _ (uc_flat l j hj2), (ht j hjc).2⟩
    have hsrt := srt_len l
    have hcon := Try.slices_SortFunc_total 2 aE zE uc1 (fun _ => rfl) uc1_one cP swoP 26 #[] g off cap l.toArray w eg (cmpLays g off _ w) hH hg (by simp; omega) (fun x y h1 h2 => by
      rw [lt_cP] at h1 h2; simp at h1 h2; omega)
    have hsz : l.toArray.size = n := by simpa using hln
    rw [hsz] at hcon
    refine hcon.mono ?_
    rintro r w' ⟨rfl, m, os, rfl⟩
    change _ ∧ Que (sortWorldK uc1 2 w g off m (srt l).toArray os) _ _ _ _ _ ∧ But _ _ (sortWorldK uc1 2 w g off m (srt l).toArray os)
    have hB := sort_but w g off m (srt l).toArray os
    have hH2 := holdsK_sortWorldK_c uc1 2 w g off l.toArray (srt l).toArray m os hH hg (by simp [hsrt])
    refine ⟨rfl, ⟨by rw [uc_len, hsrt, hln], .inr ⟨g, off, cap, rfl, hb, Nat.lt_of_lt_of_le hg hB.size, hnc, hcm, fun j hj => ?_, fun j v hv => ?_⟩⟩, by simpa [Value.ownBlock] using hB⟩
    · obtain ⟨t1, t2⟩ := ht j hj
      by_cases hj2 : j < l.length * 2
      · obtain ⟨t3, t4⟩ := hH2 j (by simpa [hsrt] using hj2)
        exact ⟨by rw [t3]; rfl, t4⟩
      · unfold sortWorldK
        have hg2 : g < (putRowK uc1 2 (Sort.ahead w m) g off (srt l).toArray).heap.size := by unfold putRowK; rw [size_putRow]; exact hg
        refine ⟨?_, ?_⟩
        · rw [cell?_grow _ _ _ hg2]
          unfold putRowK
          rw [cell?_putRow_other _ _ _ _ _ _ (.inr (.inr (by simp [hsrt]; omega)))]
          exact t1
        · rw [frozen?_grow _ _ _ hg2]
          unfold putRowK
          rw [frozen?_putRow]
          exact t2
    · have hj : j < (srt l).length * 2 := by
        have := (List.getElem?_eq_some_iff.1 hv).1
        rwa [uc_len] at this
      have hf := uc_flat (srt l) j hj
      rw [hf] at hv
      have := (hH2 j (by simpa using hj)).1
      rw [← Option.some.inj hv]
      exact this
end Go.Proofs.Ytiklneamdfgahaa.Bd
