/-
  Whatever the input, the Go function WordFlat answers true, and its arguments read behind the call as they read before. No condition.
-/
import Derived.Test.YtgdplghphnjliaaRows
import Derived.Test.YtgdplghphnjliaaWordLaws
import Derived.WalkKit
import Derived.ProofKit
import Derived.OpenShut
import Derived.ShutString
import Derived.ChangeOld
import Derived.Below
namespace Go.Proofs.Ytgdplghphnjliaa.wordFlat
open Go.ChangeShapes Go.WideShapes Go.ChangeAt Go.RowKit
open Go.ChangeMaps (open_string shut_string)
set_option linter.unusedVariables false

theorem own : ownKnob Try.prog.godebug = none := by kernel_rfl
theorem laidOut : laidOutB Try.prog = true := by kernel_rfl

/-- WHAT THE WALK IS TOLD OF A SLICE OF INTEGERS THAT CAME IN: it is nil; or it leads to a row of 'cap' cells, the numbers 'zs' (the first 'len' are its elements, the rest its spare room), each fitting its kind. -/
def IsRow (k : IntKind) (w : World) (a : Option Addr) (len cap : Nat) (zs : List Int) : Prop :=
  (a = none ∧ len = 0 ∧ cap = 0 ∧ zs = []) ∨
  ∃ x, a = some x ∧ len ≤ cap ∧ cap ≤ maxLen ∧ zs.length = cap ∧ (∀ i, i < zs.length → w.cell? (x.add i) = some (.int k (zs.getD i 0))) ∧ ∀ n ∈ zs, (Lit.int k n).wf = true

/-! ### STEP 1: THE WALK: the Go text returns true, AND WRITES NOTHING THAT WAS THERE: 'Below w.heap.size w w'' (Derived/Below.lean: '.refl', '.alloc', '.drew', '.setCell' at a new block, '.trans'). Open each 'IsRow' by 'rcases' AHEAD of 'go_enter'; part every test ahead of the walk. -/
theorem walk (a0 : Option Addr) (len0 cap0 : Nat) (z0 : List Int) (w : World) (w0 : IsRow .u32 w a0 len0 cap0 z0) :
    Calls Try.prog 3 #[.slice a0 len0 cap0] w fun e w' => e = .returned (.bool true) ∧ Below w.heap.size w w' := by
  have key : ∀ m, m ≤ len0 → m ≤ 300 → ∃ xs, m = xs.length ∧ Rd .u32 w 0 w.heap.size a0 xs ∧ ∀ j, 0 ≤ xs.getD j 0 ∧ xs.getD j 0 ≤ 4294967295 := by
    intro m hm _
    rcases w0 with ⟨rfl, rfl, rfl, rfl⟩ | ⟨x, rfl, hlc, hcm, hz, hc, hwf⟩
    · exact ⟨[], by simp; omega, .inl rfl, fun j => by simp⟩
    · exact ⟨z0.take m, by rw [List.length_take]; omega, Rd.of_cells (by omega) hc, bounds_take (fun n hn => u32_bounds (hwf n hn)) (by omega) (by omega) m⟩
  have hcap : len0 ≤ cap0 ∧ cap0 ≤ maxLen := by
    rcases w0 with ⟨rfl, rfl, rfl, rfl⟩ | ⟨x, rfl, hlc, hcm, hz, hc, hwf⟩
    · exact ⟨Nat.le_refl _, Nat.zero_le _⟩
    · exact ⟨hlc, hcm⟩
  obtain ⟨hlc, hcm⟩ := hcap
  clear hcm
  clear w0
  by_cases h300 : 300 < len0
  · obtain ⟨xs, hn, hr, hx⟩ := key 300 (by omega) (by omega)
    have HN : Hid (300 = xs.length) := hn
    have HR : Hid (Rd .u32 w 0 w.heap.size a0 xs) := hr
    have HX : Hid (∀ j, 0 ≤ xs.getD j 0 ∧ xs.getD j 0 ≤ 4294967295) := hx
    clear key hn hr hx
    go_enter Try.func3, Try.ntmps3
    go_wp2_with fail
    refine (flat_c a0 300 cap0 xs _ HN.out HR.out HX.out (by omega)).mono ?_
    rintro e w1 ⟨B, d, rfl, hd, r1, b1⟩
    have hz1 := b1.size
    go_wp2_with fail
    refine (rflat_c a0 300 cap0 xs _ HN.out ((HR.out.keep b1).wider (Nat.le_refl _) hz1) HX.out (by omega)).mono ?_
    rintro e w2 ⟨v2, rfl, o2, b2⟩
    obtain ⟨A2, c2, rfl, -, -, -, r2⟩ := Rd.of_own o2
    have hz2 := b2.size
    clear o2
    have r12 := (r1.keep b2).wider (lo' := 0) (Nat.zero_le _) hz2
    go_wp2_with fail
    refine (sameBytes_c B A2 (4 * 300) d c2 (tab (4 * 300) (flj xs)) _ (by rw [tab_len]) (by omega) r12 (r2.wider (Nat.zero_le _) (Nat.le_refl _))).mono ?_
    rintro e w3 ⟨rfl, b3⟩
    have hz3 := b3.size
    have r13 := (r12.keep b3).wider (lo' := 0) (Nat.zero_le _) hz3
    clear r2
    go_wp2_with fail
    refine (words_c B (4 * 300) d (tab (4 * 300) (flj xs)) _ (by rw [tab_len]) hd r13 (bounds_tab _ _ (flj_bd xs) (by omega) (by omega)) (by omega)).mono ?_
    rintro e w4 ⟨v4, rfl, o4, b4⟩
    rw [show (4 * 300 + 3) / 4 = 300 by omega, wd_fl xs 300 HN.out HX.out] at o4
    obtain ⟨A4, c4, rfl, -, -, -, r4⟩ := Rd.of_own o4
    have hz4 := b4.size
    clear o4 r12 r13 r1
    have ball : Below w.heap.size w w4 := ((b1.trans (b2.mono (by omega))).trans (b3.mono (by omega))).trans (b4.mono (by omega))
    go_wp2_with fail
    refine (same_c A4 a0 300 c4 cap0 xs _ HN.out (by omega) (r4.wider (Nat.zero_le _) (Nat.le_refl _)) ((HR.out.keep ball).wider (Nat.le_refl _) (by omega))).mono ?_
    rintro e w5 ⟨rfl, b5⟩
    go_wp2_with fail
    refine (awake_c _).mono ?_
    rintro e w6 ⟨rfl, b6⟩
    go_wp2
    go_ret
    exact ⟨rfl, (ball.trans (b5.mono (by omega))).trans (b6.mono (by have := b5.size; omega))⟩
  · obtain ⟨xs, hn, hr, hx⟩ := key len0 (Nat.le_refl _) (by omega)
    have HN : Hid (len0 = xs.length) := hn
    have HR : Hid (Rd .u32 w 0 w.heap.size a0 xs) := hr
    have HX : Hid (∀ j, 0 ≤ xs.getD j 0 ∧ xs.getD j 0 ≤ 4294967295) := hx
    clear key hn hr hx
    go_enter Try.func3, Try.ntmps3
    go_wp2_with fail
    refine (flat_c a0 len0 cap0 xs _ HN.out HR.out HX.out (by omega)).mono ?_
    rintro e w1 ⟨B, d, rfl, hd, r1, b1⟩
    have hz1 := b1.size
    go_wp2_with fail
    refine (rflat_c a0 len0 cap0 xs _ HN.out ((HR.out.keep b1).wider (Nat.le_refl _) hz1) HX.out (by omega)).mono ?_
    rintro e w2 ⟨v2, rfl, o2, b2⟩
    obtain ⟨A2, c2, rfl, -, -, -, r2⟩ := Rd.of_own o2
    have hz2 := b2.size
    clear o2
    have r12 := (r1.keep b2).wider (lo' := 0) (Nat.zero_le _) hz2
    go_wp2_with fail
    refine (sameBytes_c B A2 (4 * len0) d c2 (tab (4 * len0) (flj xs)) _ (by rw [tab_len]) (by omega) r12 (r2.wider (Nat.zero_le _) (Nat.le_refl _))).mono ?_
    rintro e w3 ⟨rfl, b3⟩
    have hz3 := b3.size
    have r13 := (r12.keep b3).wider (lo' := 0) (Nat.zero_le _) hz3
    clear r2
    go_wp2_with fail
    refine (words_c B (4 * len0) d (tab (4 * len0) (flj xs)) _ (by rw [tab_len]) hd r13 (bounds_tab _ _ (flj_bd xs) (by omega) (by omega)) (by omega)).mono ?_
    rintro e w4 ⟨v4, rfl, o4, b4⟩
    rw [show (4 * len0 + 3) / 4 = len0 by omega, wd_fl xs len0 HN.out HX.out] at o4
    obtain ⟨A4, c4, rfl, -, -, -, r4⟩ := Rd.of_own o4
    have hz4 := b4.size
    clear o4 r12 r13 r1
    have ball : Below w.heap.size w w4 := ((b1.trans (b2.mono (by omega))).trans (b3.mono (by omega))).trans (b4.mono (by omega))
    go_wp2_with fail
    refine (same_c A4 a0 len0 c4 cap0 xs _ HN.out (by omega) (r4.wider (Nat.zero_le _) (Nat.le_refl _)) ((HR.out.keep ball).wider (Nat.le_refl _) (by omega))).mono ?_
    rintro e w5 ⟨rfl, b5⟩
    go_wp2_with fail
    refine (awake_c _).mono ?_
    rintro e w6 ⟨rfl, b6⟩
    go_wp2
    go_ret
    exact ⟨rfl, (ball.trans (b5.mono (by omega))).trans (b6.mono (by have := b5.size; omega))⟩

/-! ### THE ROW's STEP: WRITTEN OUT: LEAVE IT -/
set_option maxRecDepth 100000 in
theorem lifted (os : Os) (started : os.Started) (H : Type) (enc : TypeId × Value → H) :
    ReturnsInHanded {} Try.checked os 3 .any (Rows.wordFlatSpec.pre6 enc Try.prog Try.f3 Rows.wordFlatRow.domain false) (Rows.wordFlatSpec.post enc Try.prog Try.f3 false true false false) := by
  refine returnsInHanded_of_change (C := Try.checked) own started (by kernel_rfl) Try.func3
    (ChangeSpec.witness6 (enc := enc) (C := Try.checked) false ⟨#[], #[.slice none 0 0], []⟩ 8 (by kernel_rfl) (by kernel_rfl) (by kernel_rfl) (by kernel_rfl)) ?_
  intro W base args ds gs before hval0 hW hcnd _
  have hval : ∀ (j : Nat) t v, Try.f3.params[j]? = some t → args[j]? = some v → Value.okWide Try.prog W .any base t v := hval0
  have hW' := hW
  obtain ⟨p, q, hA0, hV, rfl, hfz, hnd⟩ := hW
  have hA : DataW.TrodAll enc Try.prog W 0 (fun _ => true) true Try.f3.params.toList args.toList ds p := hA0
  rw [Try.params3] at hA hval
  obtain ⟨v0, vs0, d0, ds0, p0, q0, hargs, rfl, rfl, h0, r0⟩ := trodAll_cons hA
  obtain ⟨rfl, rfl, rfl⟩ := trodAll_nil r0
  obtain rfl : args = #[v0] := by cases args; simp_all
  obtain ⟨rfl, rfl⟩ := trodVars_none hV
  obtain ⟨a0, len0, cap0, rfl⟩ := okWide_slice Try.underlying22 (hval 0 22 v0 rfl rfl)
  have k0 := h0
  have lt0 : ∀ x ∈ p0, x.block < W.heap.size := by obtain ⟨m, hm⟩ := k0; exact DataW.trod_lt m _ _ _ hm
  obtain ⟨z0, w0⟩ : ∃ zs, IsRow .u32 W a0 len0 cap0 zs := by
    obtain ⟨fuel, hf⟩ := h0
    rcases open_ints Try.underlying22 Try.underlying31 (by kernel_rfl) hf with ⟨hcs, _⟩ | ⟨x, l, c, zs, hcs, _, hl, hm, hz, _, hcell, hwz⟩
    · simp [Value.cells] at hcs
      obtain ⟨rfl, rfl, rfl⟩ := hcs
      exact ⟨[], .inl ⟨rfl, rfl, rfl, rfl⟩⟩
    · simp [Value.cells] at hcs
      obtain ⟨rfl, rfl, rfl⟩ := hcs
      exact ⟨zs, .inr ⟨_, rfl, hl, hm, by simpa using hz, hcell, hwz⟩⟩
  clear hA0 hval0
  refine (walk a0 len0 cap0 z0 W w0).mono fun e W' ⟨he, bel⟩ => ?_
  subst he
  exact ⟨_, rfl, _, _, _, [], _, [], hW', trodAll_mk1 (shut_bool Try.underlying4 _), (trodAll_cons_mk (Below.trod laidOut (by kernel_rfl) (of_decide_eq_true (by kernel_rfl)) k0 bel lt0) trodAll_mk0), rfl, bel.frame _, fun h => by cases h⟩

theorem over : Rows.wordFlatRow.holds Try.pinned (OpenSpec.ofChange Rows.wordFlatSpec) :=
  OpenClaim.holds_of_wide 3 Try.f3 rfl rfl rfl rfl rfl rfl rfl ⟨rfl, rfl, rfl, rfl, rfl⟩ rfl rfl rfl rfl rfl (by kernel_rfl) Try.func3 (by kernel_rfl)
    (of_decide_eq_true (by kernel_rfl)) (by unfold Func.isWrapper; first | (rw [if_pos (by decide +kernel)]; kernel_rfl) | (rw [if_neg (by decide +kernel)]; exact ⟨rfl, rfl⟩))
    (fun os started H enc _ => lifted os started H enc)

/-- ████ THE STATEMENT ████ -/
theorem proved : Rows.WordFlatSaid := over
end Go.Proofs.Ytgdplghphnjliaa.wordFlat
namespace Go.Proofs.Ytgdplghphnjliaa
/-- The statement, by its short name. -/
theorem wordFlat_holds : Rows.WordFlatSaid := wordFlat.proved
#print axioms wordFlat_holds
end Go.Proofs.Ytgdplghphnjliaa
