/-
  The contract of Flat of layer 1 (word), over the translated program.
-/
import Derived.Test.YtgdplghphnjliaaWordLists
import Derived.Deep.RegionLaw
import Derived.IntWalk
namespace Go.Proofs.Ytgdplghphnjliaa
open Go.ChangeShapes Go.WideShapes Go.ChangeAt Go.RowKit
set_option linter.unusedVariables false

theorem cells_new (w : World) (cs : Array Value) (t : TypeId) : ∀ j v, cs.toList[j]? = some v → (w.alloc (.cells cs t)).cell? ((⟨w.heap.size, 0, none⟩ : Addr).add j) = some v := by
  intro j v hv
  have e : (⟨w.heap.size, 0, none⟩ : Addr).add j = ⟨w.heap.size, 0 + j, none⟩ := by unfold Addr.add; split <;> simp_all
  rw [e]
  simp only [World.cell?, heap_alloc_new]
  simpa using hv
/-- The bytes of the first m numbers, noughts behind, n numbers in all. -/
def part (xs : List Int) (n m : Nat) : List Value := (tab (4 * n) (fun j => if j < 4 * m then flj xs j else 0)).map (Value.int .u8)
theorem part_len (xs : List Int) (n m : Nat) : (part xs n m).length = 4 * n := by simp [part, tab_len]
theorem part_at (xs : List Int) (n m j : Nat) (hj : j < 4 * n) : (part xs n m)[j]? = some (.int .u8 (if j < 4 * m then flj xs j else 0)) := by
  simp [part, tab, hj]
theorem part_zero (xs : List Int) (n : Nat) : (madeCells #[.int .u8 0] (4 * n)) = (part xs n 0).toArray := by
  apply Array.ext'
  apply List.ext_getElem?
  intro j
  by_cases hj : j < 4 * n
  · rw [show (part xs n 0).toArray.toList = part xs n 0 from rfl, part_at xs n 0 j hj]; simp [madeCells, hj, Nat.mod_one]
  · rw [List.getElem?_eq_none, List.getElem?_eq_none]
    · simp [part_len]; omega
    · simp [madeCells]; omega
theorem part_step (xs : List Int) (n m : Nat) (hm : m < n) (q : Int) (hq : q = xs.getD m 0) (h0 : 0 ≤ q) (h1 : q ≤ 4294967295) :
    splice (part xs n m) (4 * m) [.int .u8 (q % 256), .int .u8 (q / 256 % 256), .int .u8 (q / 65536 % 256), .int .u8 (q / 16777216)] = part xs n (m + 1) := by
  have e0 := flj_at xs m 0 (by omega)
  have e1 := flj_at xs m 1 (by omega)
  have e2 := flj_at xs m 2 (by omega)
  have e3 := flj_at xs m 3 (by omega)
  rw [← hq] at e0 e1 e2 e3
  rw [byt0 _ _ (by omega)] at e0
  rw [byt1 _ _ (by omega)] at e1
  rw [byt2 _ _ (by omega)] at e2
  rw [byt3 _ _ (by omega) h0 h1] at e3
  apply List.ext_getElem?
  intro j
  by_cases hj : j < 4 * n
  · rw [part_at xs n (m + 1) j hj]
    unfold splice
    by_cases h4 : j < 4 * m
    · rw [List.getElem?_append_left (by simp [part_len]; omega), List.getElem?_take, if_pos h4, part_at xs n m j hj, if_pos h4, if_pos (by omega)]
    · rw [List.getElem?_append_right (by simp [part_len]; omega)]
      have hl : (List.take (4 * m) (part xs n m)).length = 4 * m := by simp [part_len]; omega
      rw [hl]
      by_cases h5 : j < 4 * m + 4
      · rw [List.getElem?_append_left (by simp; omega), if_pos (by omega)]
        have : j = 4 * m ∨ j = 4 * m + 1 ∨ j = 4 * m + 2 ∨ j = 4 * m + 3 := by omega
        rcases this with rfl | rfl | rfl | rfl
        · rw [show 4 * m - 4 * m = 0 by omega]; simp only [List.getElem?_cons_zero]; rw [← e0]; rfl
        · rw [show 4 * m + 1 - 4 * m = 1 by omega]; simp only [List.getElem?_cons_succ, List.getElem?_cons_zero]; rw [e1]
        · rw [show 4 * m + 2 - 4 * m = 2 by omega]; simp only [List.getElem?_cons_succ, List.getElem?_cons_zero]; rw [e2]
        · rw [show 4 * m + 3 - 4 * m = 3 by omega]; simp only [List.getElem?_cons_succ, List.getElem?_cons_zero]; rw [e3]
      · rw [List.getElem?_append_right (by simp; omega)]
        simp only [List.length_cons, List.length_nil]
        rw [List.getElem?_drop, show 4 * m + (0 + 1 + 1 + 1 + 1) + (j - 4 * m - (0 + 1 + 1 + 1 + 1)) = j by omega, part_at xs n m j hj, if_neg h4, if_neg (by omega)]
  · rw [List.getElem?_eq_none, List.getElem?_eq_none]
    · simp [part_len]; omega
    · simp [splice, part_len]; omega

set_option maxHeartbeats 1000000 in
theorem flat_c (A : Option Addr) (n c : Nat) (xs : List Int) (w : World) (hn : n = xs.length) (hr : Rd .u32 w 0 w.heap.size A xs) (hx : ∀ j, 0 ≤ xs.getD j 0 ∧ xs.getD j 0 ≤ 4294967295) (hm : n ≤ 100000) :
    Calls Try.prog 7 #[.slice A n c] w fun e w' => ∃ B d, e = .returned (.slice B (4 * n) d) ∧ 4 * n ≤ d ∧ Rd .u8 w' w.heap.size w'.heap.size B (tab (4 * n) (flj xs)) ∧ Below w.heap.size w w' := by
  have hmk : ∀ w, (Instr.makeSlice 23 (.int .i64 (4 * (n : Int))) (.int .i64 (4 * (n : Int)))).run Try.prog w = .ok (.slice (some ⟨w.heap.size, 0, none⟩) (4 * n) (4 * n)) (w.alloc (.cells (part xs n 0).toArray 5)) := by
    intro w
    rw [← part_zero]
    exact_mod_cast run_make_row' (P := Try.prog) 23 5 (.int .u8 0) 1 Try.underlying23 Try.infoU8 rfl .i64 .i64 (4 * n) (by omega) (by omega) w
  have HN : Hid (n = xs.length) := hn
  have HX : Hid (∀ j, 0 ≤ xs.getD j 0 ∧ xs.getD j 0 ≤ 4294967295) := hx
  have HR : Hid (Rd .u32 w 0 w.heap.size A xs) := hr
  clear hn hx hr
  go_enter Try.func7, Try.ntmps7
  go_wp2
  clear hmk
  go_loopw [13] (fun i wr => ∃ m : Nat, m ≤ n ∧ i = .int .i64 m ∧ Hid (wr.heap[w.heap.size]? = some (.cells (part xs n m).toArray 5 (0, 0))) ∧ Below w.heap.size w wr) (fun i _ => n - (intOf i).toNat)
  case atStart => exact ⟨0, Nat.zero_le _, rfl, heap_alloc_new w _, (Below.refl _ _).alloc (Nat.le_refl _) _⟩
  case round =>
    obtain ⟨m, hmn, rfl, HG, hbel⟩ := hrel
    have hsz : w.heap.size < wr.heap.size := by
      rcases Nat.lt_or_ge w.heap.size wr.heap.size with hlt | hge
      · exact hlt
      · have := HG.out; rw [Array.getElem?_eq_none hge] at this; cases this
    by_cases hlt : m < n
    · have hlx : m < xs.length := by have := HN.out; omega
      obtain ⟨b, off, hA, _, hb, hcell⟩ := HR.out.at_ hlx
      obtain ⟨q, hq⟩ : ∃ q, q = xs.getD m 0 := ⟨_, rfl⟩
      have hcm : wr.cell? ⟨b, off + m, none⟩ = some (.int .u32 q) := by rw [hq]; exact (hbel.cell (p := ⟨b, off + m, none⟩) hb).trans (hcell m hlx)
      have hqb := HX.out m
      rw [← hq] at hqb
      obtain ⟨hq0, hq1⟩ := hqb
      subst hA
      have HQ : Hid (q = xs.getD m 0) := hq
      clear hcell hq hlx
      go_wp2_with fail
      refine (bytes_c _ _ hq0 hq1).mono ?_
      rintro e w1 ⟨rfl, hb1⟩
      go_wp2_with fail
      have HGW : Hid ((w1.alloc (.cells #[.int .u8 (q % 256), .int .u8 (q / 256 % 256), .int .u8 (q / 65536 % 256), .int .u8 (q / 16777216)] 36)).heap[w.heap.size]? = some (.cells (part xs n m).toArray 5 (0, 0))) := by
        show _ = _
        rw [Below.heap_alloc w1 _ _ (by have := hb1.size; omega), hb1.block _ hsz]
        exact HG.out
      have HCS : Hid (∀ j v, [Value.int .u8 (q % 256), .int .u8 (q / 256 % 256), .int .u8 (q / 65536 % 256), .int .u8 (q / 16777216)][j]? = some v → (w1.alloc (.cells #[.int .u8 (q % 256), .int .u8 (q / 256 % 256), .int .u8 (q / 65536 % 256), .int .u8 (q / 16777216)] 36)).cell? ((⟨w1.heap.size, 0, none⟩ : Addr).add j) = some v) := cells_new w1 _ _
      have HBW : Hid (Below w.heap.size w (w1.alloc (.cells #[.int .u8 (q % 256), .int .u8 (q / 256 % 256), .int .u8 (q / 65536 % 256), .int .u8 (q / 16777216)] 36))) := (hbel.trans (hb1.mono (by omega))).alloc (by have := hb1.size; omega) _
      generalize w1.alloc (.cells #[.int .u8 (q % 256), .int .u8 (q / 256 % 256), .int .u8 (q / 65536 % 256), .int .u8 (q / 16777216)] 36) = W at HGW HCS HBW ⊢
      obtain ⟨cs, hcs⟩ : ∃ cs, cs = [Value.int .u8 (q % 256), .int .u8 (q / 256 % 256), .int .u8 (q / 65536 % 256), .int .u8 (q / 16777216)] := ⟨_, rfl⟩
      have HST : Hid (splice (part xs n m) (4 * m) cs = part xs n (m + 1)) := by show _ = _; rw [hcs]; exact part_step xs n m hlt q HQ.out hq0 hq1
      have HLN : Hid (cs.length = 4) := by show _ = _; rw [hcs]; rfl
      have HON : Hid (∀ v ∈ cs, v.oneCell' = true) := by
        show ∀ v ∈ cs, v.oneCell' = true
        rw [hcs]
        intro v hv
        simp only [List.mem_cons, List.not_mem_nil, or_false] at hv
        rcases hv with rfl | rfl | rfl | rfl <;> rfl
      rw [← hcs] at HCS
      clear hcs
      have HMN : Hid (cs.length = Nat.min 4 (4 * n - 4 * m)) := by
        show _ = _
        rw [HLN.out]
        exact (Nat.min_eq_left (by omega)).symm
      have HFT : Hid (4 * m + cs.length ≤ (part xs n m).length) := by
        show _ ≤ _
        rw [HLN.out, part_len]
        omega
      have hk0 : (0 : Int) ≤ 4 * (m : Int) := by omega
      have hk1 : (4 * (m : Int)) ≤ 4 * (n : Int) := by omega
      have hk2 : (4 * (m : Int)).toNat = 4 * m := by omega
      have hk3 : ¬ (4 * n = 4 * m) := by omega
      have hk4 : IntKind.i64.wrap (4 * (m : Int)) = 4 * (m : Int) := IntWalk.i64_in _ (by omega)
      go_region_law (refine step_copy_splice rfl (.tmp 23) (.tmp 24) 23 23 rfl 5 Try.underlying23 (by kernel_rfl) _ _ _ _ _ _ rfl rfl w.heap.size (4 * m) (part xs n m) 5 HGW.out cs HMN.out (fun _ => ⟨rfl, _, rfl, HCS.out⟩) HFT.out HON.out w.heap.size w HBW.out.drew (Nat.le_refl _) ?_; intro w4 HG4 hb4)
      have HG5 : Hid (w4.heap[w.heap.size]? = some (.cells (part xs n (m + 1)).toArray 5 (0, 0))) := by
        show _ = _
        rw [← HST.out]
        exact HG4.out
      clear hk0 hk1 hk2 hk3 hk4 HG4
      go_wp2
      go_roundw
      case rel => exact ⟨m + 1, by omega, by go_num, HG5, hb4⟩
      case measure => simp [intOf] <;> omega
    · obtain rfl : m = n := by omega
      go_wp2
      go_ret
      refine ⟨_, _, rfl, Nat.le_refl _, ?_, hbel⟩
      by_cases h0 : m = 0
      · subst h0; exact .inl rfl
      · refine .inr ⟨w.heap.size, 0, rfl, Nat.le_refl _, hsz, fun j hj => ?_⟩
        rw [tab_len] at hj
        have hp := part_at xs m m j hj
        rw [if_pos hj] at hp
        rw [tab_get _ _ _ hj]
        have hg := HG.out
        simp only [World.cell?, hg, Nat.zero_add]
        simpa using hp
end Go.Proofs.Ytgdplghphnjliaa
