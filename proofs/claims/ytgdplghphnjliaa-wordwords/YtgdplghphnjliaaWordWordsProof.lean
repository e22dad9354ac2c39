/-
  Whatever the input, the Go function WordWords answers true, and its arguments read behind the call as they read before. No condition.
-/
import Derived.Test.YtgdplghphnjliaaRows
import Derived.Test.YtgdplghphnjliaaWordLaws
import Derived.WalkKit
import Derived.ProofKit
import Derived.OpenShut
import Derived.ShutString
import Derived.ChangeOld
import Derived.Below
namespace Go.Proofs.Ytgdplghphnjliaa.wordWords
open Go.ChangeShapes Go.WideShapes Go.ChangeAt Go.RowKit
open Go.ChangeMaps (open_string shut_string)
set_option linter.unusedVariables false

theorem own : ownKnob Try.prog.godebug = none := by kernel_rfl
theorem laidOut : laidOutB Try.prog = true := by kernel_rfl

/-- WHAT THE WALK IS TOLD OF A SLICE OF INTEGERS THAT CAME IN: it is nil; or it leads to a row of 'cap' cells, the numbers 'zs' (the first 'len' are its elements, the rest its spare room), each fitting its kind. -/
def IsRow (k : IntKind) (w : World) (a : Option Addr) (len cap : Nat) (zs : List Int) : Prop :=
  (a = none ∧ len = 0 ∧ cap = 0 ∧ zs = []) ∨
  ∃ x, a = some x ∧ len ≤ cap ∧ cap ≤ maxLen ∧ zs.length = cap ∧ (∀ i, i < zs.length → w.cell? (x.add i) = some (.int k (zs.getD i 0))) ∧ ∀ n ∈ zs, (Lit.int k n).wf = true

/-! ### STEP 1: THE WALK: the Go text returns true, AND WRITES NOTHING THAT WAS THERE: 'Below w.heap.size w w'' (Derived/Below.lean: '.refl', '.alloc', '.drew', '.setCell' at a new block, '.trans'). Open each 'IsRow' by 'rcases' AHEAD of 'go_enter'; part every test ahead of the walk. -/
theorem walk (a0 : Option Addr) (len0 cap0 : Nat) (z0 : List Int) (w : World) (w0 : IsRow .u8 w a0 len0 cap0 z0) :
    Calls Try.prog 4 #[.slice a0 len0 cap0] w fun e w' => e = .returned (.bool true) ∧ Below w.heap.size w w' := by
  have key : ∀ m, m ≤ len0 → m ≤ 900 → ∃ xs, m = xs.length ∧ Rd .u8 w 0 w.heap.size a0 xs ∧ ∀ j, 0 ≤ xs.getD j 0 ∧ xs.getD j 0 ≤ 255 := by
    intro m hm _
    rcases w0 with ⟨rfl, rfl, rfl, rfl⟩ | ⟨x, rfl, hlc, hcm, hz, hc, hwf⟩
    · exact ⟨[], by simp; omega, .inl rfl, fun j => by simp⟩
    · exact ⟨z0.take m, by rw [List.length_take]; omega, Rd.of_cells (by omega) hc, bounds_take (fun n hn => u8_bounds (hwf n hn)) (by omega) (by omega) m⟩
  have hlc : len0 ≤ cap0 := by
    rcases w0 with ⟨rfl, rfl, rfl, rfl⟩ | ⟨x, rfl, hlc, hcm, hz, hc, hwf⟩
    · exact Nat.le_refl _
    · exact hlc
  clear w0
  by_cases h900 : 900 < len0
  · obtain ⟨bs, hn, hr, hx⟩ := key 900 (by omega) (by omega)
    have HN : Hid (900 = bs.length) := hn
    have HR : Hid (Rd .u8 w 0 w.heap.size a0 bs) := hr
    have HX : Hid (∀ j, 0 ≤ bs.getD j 0 ∧ bs.getD j 0 ≤ 255) := hx
    obtain ⟨m, hm⟩ : ∃ m, (900 + 3) / 4 = m := ⟨_, rfl⟩
    have HM : Hid ((900 + 3) / 4 = m) := hm
    have hnm : 900 ≤ 4 * m := by omega
    have hnm2 : 4 * m ≤ 900 + 3 := by omega
    have HT : Hid ((tab (4 * m) (flj (tab m (wdi bs)))).take 900 = bs) := by
      show _ = _
      apply list_ext
      · rw [List.length_take, tab_len, ← hn]; omega
      · intro j hj
        rw [List.length_take, tab_len] at hj
        rw [take_get _ _ _ (by omega), tab_get _ _ _ (by omega), fl_wd bs m j (by omega) hx]
    have HP : Hid (∀ j, 900 ≤ j → j < 4 * m → flj (tab m (wdi bs)) j = 0) := by
      show ∀ j, 900 ≤ j → j < 4 * m → flj (tab m (wdi bs)) j = 0
      intro j h1 h2
      rw [fl_wd bs m j h2 hx, getD_past bs j (by omega)]
    have hlc' : 900 ≤ cap0 := by omega
    clear key hn hr hx hm
    go_enter Try.func4, Try.ntmps4
    go_wp2_with fail
    refine (words_c a0 900 cap0 bs _ HN.out hlc' HR.out HX.out (by omega)).mono ?_
    rintro e w1 ⟨v1, rfl, o1, b1⟩
    rw [HM.out] at o1
    obtain ⟨A1, c1, rfl, -, hc1, -, r1⟩ := Rd.of_own o1
    have hz1 := b1.size
    clear o1
    go_wp2_with fail
    refine (rwords_c a0 900 cap0 bs _ HN.out ((HR.out.keep b1).wider (Nat.le_refl _) hz1) HX.out (by omega)).mono ?_
    rintro e w2 ⟨v2, rfl, o2, b2⟩
    rw [HM.out] at o2
    obtain ⟨A2, c2, rfl, -, -, -, r2⟩ := Rd.of_own o2
    have hz2 := b2.size
    clear o2
    have r12 := (r1.keep b2).wider (lo' := 0) (Nat.zero_le _) hz2
    go_wp2_with fail
    refine (same_c A1 A2 m c1 c2 (tab m (wdi bs)) _ (by rw [tab_len]) (by omega) r12 (r2.wider (Nat.zero_le _) (Nat.le_refl _))).mono ?_
    rintro e w3 ⟨rfl, b3⟩
    have hz3 := b3.size
    have r13 := (r12.keep b3).wider (lo' := 0) (Nat.zero_le _) hz3
    clear r2
    go_wp2_with fail
    refine (flat_c A1 m c1 (tab m (wdi bs)) _ (by rw [tab_len]) r13 (bounds_tab _ _ (fun j => wdi_bd bs j HX.out) (by omega) (by omega)) (by omega)).mono ?_
    rintro e w4 ⟨B, d, rfl, hd, r4, b4⟩
    have hz4 := b4.size
    clear r12 r13 r1
    have ball : Below w.heap.size w w4 := ((b1.trans (b2.mono (by omega))).trans (b3.mono (by omega))).trans (b4.mono (by omega))
    have HF : Hid (Rd .u8 w4 0 w4.heap.size B bs) := by
      show Rd _ _ _ _ _ _
      rw [← HT.out]
      exact (r4.take 900).wider (Nat.zero_le _) (Nat.le_refl _)
    have HZ : Hid (Rd .u8 w4 0 w4.heap.size B (tab (4 * m) (flj (tab m (wdi bs))))) := r4.wider (Nat.zero_le _) (Nat.le_refl _)
    have RB : Hid (Rd .u8 w4 0 w4.heap.size a0 bs) := (HR.out.keep ball).wider (Nat.le_refl _) (by omega)
    clear r4
    go_wp2_with fail
    refine (sameBytes_c B a0 900 d cap0 bs _ HN.out (by omega) HF.out RB.out).mono ?_
    rintro e w5 ⟨rfl, b5⟩
    have hz5 := b5.size
    go_wp2_with fail
    go_loopw [5] (fun i wr => ∃ j : Nat, 900 ≤ j ∧ j ≤ 4 * m ∧ i = .int .i64 j ∧ Below w4.heap.size w4 wr) (fun i _ => 4 * m - (intOf i).toNat)
    case atStart => exact ⟨900, Nat.le_refl _, hnm, rfl, b5⟩
    case round =>
      obtain ⟨j, hnj, hjm, rfl, hbr⟩ := hrel
      by_cases hj : j < 4 * m
      · exfalso; omega
      · go_wp2_with fail
        refine (awake_c _).mono ?_
        rintro e w6 ⟨rfl, b6⟩
        go_wp2
        go_ret
        exact ⟨rfl, (ball.trans (hbr.mono (by omega))).trans (b6.mono (by have := hbr.size; omega))⟩
  · obtain ⟨bs, hn, hr, hx⟩ := key len0 (Nat.le_refl _) (by omega)
    have HN : Hid (len0 = bs.length) := hn
    have HR : Hid (Rd .u8 w 0 w.heap.size a0 bs) := hr
    have HX : Hid (∀ j, 0 ≤ bs.getD j 0 ∧ bs.getD j 0 ≤ 255) := hx
    obtain ⟨m, hm⟩ : ∃ m, (len0 + 3) / 4 = m := ⟨_, rfl⟩
    have HM : Hid ((len0 + 3) / 4 = m) := hm
    have hnm : len0 ≤ 4 * m := by omega
    have hnm2 : 4 * m ≤ len0 + 3 := by omega
    have HT : Hid ((tab (4 * m) (flj (tab m (wdi bs)))).take len0 = bs) := by
      show _ = _
      apply list_ext
      · rw [List.length_take, tab_len, ← hn]; omega
      · intro j hj
        rw [List.length_take, tab_len] at hj
        rw [take_get _ _ _ (by omega), tab_get _ _ _ (by omega), fl_wd bs m j (by omega) hx]
    have HP : Hid (∀ j, len0 ≤ j → j < 4 * m → flj (tab m (wdi bs)) j = 0) := by
      show ∀ j, len0 ≤ j → j < 4 * m → flj (tab m (wdi bs)) j = 0
      intro j h1 h2
      rw [fl_wd bs m j h2 hx, getD_past bs j (by omega)]
    have hlc' : len0 ≤ cap0 := by omega
    clear key hn hr hx hm
    go_enter Try.func4, Try.ntmps4
    go_wp2_with fail
    refine (words_c a0 len0 cap0 bs _ HN.out hlc' HR.out HX.out (by omega)).mono ?_
    rintro e w1 ⟨v1, rfl, o1, b1⟩
    rw [HM.out] at o1
    obtain ⟨A1, c1, rfl, -, hc1, -, r1⟩ := Rd.of_own o1
    have hz1 := b1.size
    clear o1
    go_wp2_with fail
    refine (rwords_c a0 len0 cap0 bs _ HN.out ((HR.out.keep b1).wider (Nat.le_refl _) hz1) HX.out (by omega)).mono ?_
    rintro e w2 ⟨v2, rfl, o2, b2⟩
    rw [HM.out] at o2
    obtain ⟨A2, c2, rfl, -, -, -, r2⟩ := Rd.of_own o2
    have hz2 := b2.size
    clear o2
    have r12 := (r1.keep b2).wider (lo' := 0) (Nat.zero_le _) hz2
    go_wp2_with fail
    refine (same_c A1 A2 m c1 c2 (tab m (wdi bs)) _ (by rw [tab_len]) (by omega) r12 (r2.wider (Nat.zero_le _) (Nat.le_refl _))).mono ?_
    rintro e w3 ⟨rfl, b3⟩
    have hz3 := b3.size
    have r13 := (r12.keep b3).wider (lo' := 0) (Nat.zero_le _) hz3
    clear r2
    go_wp2_with fail
    refine (flat_c A1 m c1 (tab m (wdi bs)) _ (by rw [tab_len]) r13 (bounds_tab _ _ (fun j => wdi_bd bs j HX.out) (by omega) (by omega)) (by omega)).mono ?_
    rintro e w4 ⟨B, d, rfl, hd, r4, b4⟩
    have hz4 := b4.size
    clear r12 r13 r1
    have ball : Below w.heap.size w w4 := ((b1.trans (b2.mono (by omega))).trans (b3.mono (by omega))).trans (b4.mono (by omega))
    have HF : Hid (Rd .u8 w4 0 w4.heap.size B bs) := by
      show Rd _ _ _ _ _ _
      rw [← HT.out]
      exact (r4.take len0).wider (Nat.zero_le _) (Nat.le_refl _)
    have HZ : Hid (Rd .u8 w4 0 w4.heap.size B (tab (4 * m) (flj (tab m (wdi bs))))) := r4.wider (Nat.zero_le _) (Nat.le_refl _)
    have RB : Hid (Rd .u8 w4 0 w4.heap.size a0 bs) := (HR.out.keep ball).wider (Nat.le_refl _) (by omega)
    clear r4
    go_wp2_with fail
    refine (sameBytes_c B a0 len0 d cap0 bs _ HN.out (by omega) HF.out RB.out).mono ?_
    rintro e w5 ⟨rfl, b5⟩
    have hz5 := b5.size
    go_wp2_with fail
    go_loopw [5] (fun i wr => ∃ j : Nat, len0 ≤ j ∧ j ≤ 4 * m ∧ i = .int .i64 j ∧ Below w4.heap.size w4 wr) (fun i _ => 4 * m - (intOf i).toNat)
    case atStart => exact ⟨len0, Nat.le_refl _, hnm, rfl, b5⟩
    case round =>
      obtain ⟨j, hnj, hjm, rfl, hbr⟩ := hrel
      by_cases hj : j < 4 * m
      · obtain ⟨b, off, hB, _, hb, hcell⟩ := HZ.out.at_ (j := j) (by rw [tab_len]; exact hj)
        have hcj := hcell j (by rw [tab_len]; exact hj)
        rw [tab_get _ _ _ hj, HP.out j hnj hj] at hcj
        have hcw : wr.cell? ⟨b, off + j, none⟩ = some (.int .u8 0) := (hbr.cell (p := ⟨b, off + j, none⟩) hb).trans hcj
        subst hB
        clear hcell hcj
        go_wp2
        go_roundw
        case rel => exact ⟨j + 1, by omega, by omega, by go_num, hbr⟩
        case measure => simp [intOf] <;> omega
      · go_wp2_with fail
        refine (awake_c _).mono ?_
        rintro e w6 ⟨rfl, b6⟩
        go_wp2
        go_ret
        exact ⟨rfl, (ball.trans (hbr.mono (by omega))).trans (b6.mono (by have := hbr.size; omega))⟩

/-! ### THE ROW's STEP: WRITTEN OUT: LEAVE IT -/
set_option maxRecDepth 100000 in
theorem lifted (os : Os) (started : os.Started) (H : Type) (enc : TypeId × Value → H) :
    ReturnsInHanded {} Try.checked os 4 .any (Rows.wordWordsSpec.pre6 enc Try.prog Try.f4 Rows.wordWordsRow.domain false) (Rows.wordWordsSpec.post enc Try.prog Try.f4 false true false false) := by
  refine returnsInHanded_of_change (C := Try.checked) own started (by kernel_rfl) Try.func4
    (ChangeSpec.witness6 (enc := enc) (C := Try.checked) false ⟨#[], #[.slice none 0 0], []⟩ 8 (by kernel_rfl) (by kernel_rfl) (by kernel_rfl) (by kernel_rfl)) ?_
  intro W base args ds gs before hval0 hW hcnd _
  have hval : ∀ (j : Nat) t v, Try.f4.params[j]? = some t → args[j]? = some v → Value.okWide Try.prog W .any base t v := hval0
  have hW' := hW
  obtain ⟨p, q, hA0, hV, rfl, hfz, hnd⟩ := hW
  have hA : DataW.TrodAll enc Try.prog W 0 (fun _ => true) true Try.f4.params.toList args.toList ds p := hA0
  rw [Try.params4] at hA hval
  obtain ⟨v0, vs0, d0, ds0, p0, q0, hargs, rfl, rfl, h0, r0⟩ := trodAll_cons hA
  obtain ⟨rfl, rfl, rfl⟩ := trodAll_nil r0
  obtain rfl : args = #[v0] := by cases args; simp_all
  obtain ⟨rfl, rfl⟩ := trodVars_none hV
  obtain ⟨a0, len0, cap0, rfl⟩ := okWide_slice Try.underlying23 (hval 0 23 v0 rfl rfl)
  have k0 := h0
  have lt0 : ∀ x ∈ p0, x.block < W.heap.size := by obtain ⟨m, hm⟩ := k0; exact DataW.trod_lt m _ _ _ hm
  obtain ⟨z0, w0⟩ : ∃ zs, IsRow .u8 W a0 len0 cap0 zs := by
    obtain ⟨fuel, hf⟩ := h0
    rcases open_ints Try.underlying23 Try.underlying5 (by kernel_rfl) hf with ⟨hcs, _⟩ | ⟨x, l, c, zs, hcs, _, hl, hm, hz, _, hcell, hwz⟩
    · simp [Value.cells] at hcs
      obtain ⟨rfl, rfl, rfl⟩ := hcs
      exact ⟨[], .inl ⟨rfl, rfl, rfl, rfl⟩⟩
    · simp [Value.cells] at hcs
      obtain ⟨rfl, rfl, rfl⟩ := hcs
      exact ⟨zs, .inr ⟨_, rfl, hl, hm, by simpa using hz, hcell, hwz⟩⟩
  clear hA0 hval0
  refine (walk a0 len0 cap0 z0 W w0).mono fun e W' ⟨he, bel⟩ => ?_
  subst he
  exact ⟨_, rfl, _, _, _, [], _, [], hW', trodAll_mk1 (shut_bool Try.underlying4 _), (trodAll_cons_mk (Below.trod laidOut (by kernel_rfl) (of_decide_eq_true (by kernel_rfl)) k0 bel lt0) trodAll_mk0), rfl, bel.frame _, fun h => by cases h⟩

theorem over : Rows.wordWordsRow.holds Try.pinned (OpenSpec.ofChange Rows.wordWordsSpec) :=
  OpenClaim.holds_of_wide 4 Try.f4 rfl rfl rfl rfl rfl rfl rfl ⟨rfl, rfl, rfl, rfl, rfl⟩ rfl rfl rfl rfl rfl (by kernel_rfl) Try.func4 (by kernel_rfl)
    (of_decide_eq_true (by kernel_rfl)) (by unfold Func.isWrapper; first | (rw [if_pos (by decide +kernel)]; kernel_rfl) | (rw [if_neg (by decide +kernel)]; exact ⟨rfl, rfl⟩))
    (fun os started H enc _ => lifted os started H enc)

/-- ████ THE STATEMENT ████ -/
theorem proved : Rows.WordWordsSaid := over
end Go.Proofs.Ytgdplghphnjliaa.wordWords
namespace Go.Proofs.Ytgdplghphnjliaa
/-- The statement, by its short name. -/
theorem wordWords_holds : Rows.WordWordsSaid := wordWords.proved
#print axioms wordWords_holds
end Go.Proofs.Ytgdplghphnjliaa
