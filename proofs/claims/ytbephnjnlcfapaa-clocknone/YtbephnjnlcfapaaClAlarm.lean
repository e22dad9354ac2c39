/-
  Layer 7 (clock): how an alarm and its setting lie in the machine's memory; contracts of Pointer's Store and Load, take, setting, Set, Off, Due, over the translated program.
-/
import Derived.Test.YtbephnjnlcfapaaClCas
namespace Go.Proofs.Ytbephnjnlcfapaa.Cl
open Go.ChangeShapes Go.WideShapes Go.ChangeAt Go.RowKit
set_option linter.unusedVariables false
set_option maxRecDepth 20000

theorem Try.sizeSetting : (Try.prog.info? 72).map (·.size) = some 2 := by kernel_rfl

/-- Block s is a setting: its time, and whether it was taken. -/
def SetAt (w : World) (s : Nat) (at_ : Int) (tk : Bool) : Prop := w.heap[s]? = some (.cells #[.int .u64 at_, .int .u32 (if tk then 1 else 0)] 72 (0, 0))
theorem SetAt.lt {w : World} {s : Nat} {x : Int} {tk : Bool} (h : SetAt w s x tk) : s < w.heap.size := lt_of_cell (a := ⟨s, 0, none⟩) ((cell_of_row _ _ 0 _ _ _ h).trans rfl)
theorem SetAt.keep {l : List Nat} {w w' : World} {s : Nat} {x : Int} {tk : Bool} (h : SetAt w s x tk) (k : But l w w') (hn : s ∉ l) : SetAt w' s x tk := (k.block s h.lt hn).trans h
theorem SetAt.c0 {w : World} {s : Nat} {x : Int} {tk : Bool} (h : SetAt w s x tk) : w.cell? ⟨s, 0, none⟩ = some (.int .u64 x) := cell_of_row _ _ 0 _ _ _ h
theorem SetAt.c1 {w : World} {s : Nat} {x : Int} {tk : Bool} (h : SetAt w s x tk) : w.cell? ⟨s, 1, none⟩ = some (.int .u32 (if tk then 1 else 0)) := cell_of_row _ _ 1 _ _ _ h
theorem SetAt.fz {w : World} {s : Nat} {x : Int} {tk : Bool} (h : SetAt w s x tk) (j : Nat) : w.frozen? ⟨s, j, none⟩ = false := frozen_of_row _ _ j _ _ h
theorem SetAt.take {w : World} {s : Nat} {x : Int} {tk : Bool} (h : SetAt w s x tk) : SetAt (w.setCell ⟨s, 1, none⟩ (.int .u32 1)) s x true := heap_setCell_same w s 1 _ _ _ h
theorem SetAt.drew {w : World} {s : Nat} {x : Int} {tk : Bool} (h : SetAt w s x tk) : SetAt w.drew s x tk := h
theorem SetAt.shape {w : World} {s : Nat} {x : Int} {tk : Bool} (h : SetAt w s x tk) : w.shape? s = some (72, 2) := by
  unfold World.shape?
  rw [show w.heap[s]? = _ from h]
  rfl

/-- Block b is an alarm: it was never set, or set last by the setting s. -/
def AlmAt (w : World) (b : Nat) (s : Option Nat) : Prop := w.heap[b]? = some (.cells #[.pointer (s.map fun s => ⟨s, 0, none⟩)] 45 (0, 0))
theorem AlmAt.lt {w : World} {b : Nat} {s : Option Nat} (h : AlmAt w b s) : b < w.heap.size := lt_of_cell (a := ⟨b, 0, none⟩) ((cell_of_row _ _ 0 _ _ _ h).trans rfl)
theorem AlmAt.keep {l : List Nat} {w w' : World} {b : Nat} {s : Option Nat} (h : AlmAt w b s) (k : But l w w') (hn : b ∉ l) : AlmAt w' b s := (k.block b h.lt hn).trans h
theorem AlmAt.c0 {w : World} {b : Nat} {s : Option Nat} (h : AlmAt w b s) : w.cell? ⟨b, 0, none⟩ = some (.pointer (s.map fun s => ⟨s, 0, none⟩)) := cell_of_row _ _ 0 _ _ _ h
theorem AlmAt.fz {w : World} {b : Nat} {s : Option Nat} (h : AlmAt w b s) (j : Nat) : w.frozen? ⟨b, j, none⟩ = false := frozen_of_row _ _ j _ _ h
theorem AlmAt.put {w : World} {b : Nat} {s : Option Nat} (h : AlmAt w b s) (s' : Nat) : AlmAt (w.setCell ⟨b, 0, none⟩ (.pointer (some ⟨s', 0, none⟩))) b (some s') := heap_setCell_same w b 0 _ _ _ h

theorem pload_none (b : Nat) (w : World) (h : AlmAt w b none) :
    Calls Try.prog 32 #[.pointer (some ⟨b, 0, none⟩)] w fun e w' => e = .returned (.pointer none) ∧ w = w' := by
  have hld := run_call_loadp (P := Try.prog) Try.func36 (by kernel_rfl) (by kernel_rfl) (by kernel_rfl) (by kernel_rfl) h.c0
  have hcv : (convert 41 39 (.pointer none)).run Try.prog w = .ok (.pointer none) w := by
    simp [convert, run_underlying Try.underlying41, run_underlying Try.underlying39, Conv.unsafePointer]
  clear h
  go_enter Try.func32, Try.ntmps32
  go_wp2
  go_ret
  exact ⟨rfl, rfl⟩
theorem pload_some (b s : Nat) (x : Int) (tk : Bool) (w : World) (h : AlmAt w b (some s)) (hs : SetAt w s x tk) :
    Calls Try.prog 32 #[.pointer (some ⟨b, 0, none⟩)] w fun e w' => e = .returned (.pointer (some ⟨s, 0, none⟩)) ∧ w = w' := by
  have hld := run_call_loadp (P := Try.prog) Try.func36 (by kernel_rfl) (by kernel_rfl) (by kernel_rfl) (by kernel_rfl) h.c0
  obtain ⟨j, hj, hjz⟩ := Option.map_eq_some_iff.1 Try.sizeSetting
  have hcv : (convert 41 39 (.pointer (some ⟨s, 0, none⟩))).run Try.prog w = .ok (.pointer (some ⟨s, 0, none⟩)) w :=
    Go.Lib.run_from_unsafe w ⟨s, 0, none⟩ Try.underlying41 Try.underlying39 hj hs.shape (by kernel_rfl)
  clear h hs hj hjz
  go_enter Try.func32, Try.ntmps32
  go_wp2
  go_ret
  exact ⟨rfl, rfl⟩
theorem pstore_c (b s : Nat) (s' : Option Nat) (x : Int) (tk : Bool) (w : World) (h : AlmAt w b s') (hs : SetAt w s x tk) :
    Calls Try.prog 23 #[.pointer (some ⟨b, 0, none⟩), .pointer (some ⟨s, 0, none⟩)] w fun e w' => e = .returned (.tuple #[]) ∧ w.setCell ⟨b, 0, none⟩ (.pointer (some ⟨s, 0, none⟩)) = w' := by
  have hst := run_call_storep (P := Try.prog) Try.func31 (by kernel_rfl) (by kernel_rfl) (by kernel_rfl) (by kernel_rfl) (y := some ⟨s, 0, none⟩) h.c0 (h.fz 0)
  obtain ⟨j, hj, hjz⟩ := Option.map_eq_some_iff.1 Try.sizeSetting
  have hcv : (convert 39 41 (.pointer (some ⟨s, 0, none⟩))).run Try.prog w = .ok (.pointer (some ⟨s, 0, none⟩)) w :=
    Go.Lib.run_to_unsafe w ⟨s, 0, none⟩ Try.underlying39 Try.underlying41 hj (by rw [hjz]; decide) hs.shape (by show 0 < 2; omega)
  clear h hs hj hjz
  go_enter Try.func23, Try.ntmps23
  go_wp2
  first | go_end0 | (refine bodyPost_ret (results_none rfl _ _ _) rfl ?_)
  exact ⟨rfl, rfl⟩

theorem take_c (s : Nat) (x : Int) (tk : Bool) (w : World) (h : SetAt w s x tk) :
    Calls Try.prog 25 #[.pointer (some ⟨s, 0, none⟩)] w fun e w' => e = .returned (.bool (!tk)) ∧ SetAt w' s x true ∧ But [s] w w' := by
  have H : Hid (SetAt w s x tk) := h
  clear h
  go_enter Try.func25, Try.ntmps25
  cases tk
  · go_wp2_with fail
    refine (cas_hit s 1 _ H.out.c1 (H.out.fz 1)).mono ?_
    rintro e w1 ⟨rfl, rfl⟩
    go_wp2
    go_ret
    exact ⟨rfl, H.out.drew.take, ((But.refl _ _).drew).setCell (by simp) _⟩
  · go_wp2_with fail
    refine (cas_miss s 1 _ H.out.c1 (H.out.fz 1)).mono ?_
    rintro e w1 ⟨rfl, rfl⟩
    go_wp2
    go_ret
    exact ⟨rfl, H.out.drew, (But.refl _ _).drew⟩
theorem setting_nil (w : World) :
    Calls Try.prog 24 #[.pointer none] w fun e w' => e = .returned (.pointer none) ∧ w = w' := by
  go_enter Try.func24, Try.ntmps24
  go_wp2
  go_ret
  exact ⟨rfl, rfl⟩
theorem setting_none (b : Nat) (w : World) (h : AlmAt w b none) :
    Calls Try.prog 24 #[.pointer (some ⟨b, 0, none⟩)] w fun e w' => e = .returned (.pointer none) ∧ w = w' := by
  have H : Hid (AlmAt w b none) := h
  clear h
  go_enter Try.func24, Try.ntmps24
  go_wp2_with fail
  refine (pload_none b _ H.out).mono ?_
  rintro e w1 ⟨rfl, rfl⟩
  go_wp2
  go_ret
  exact ⟨rfl, rfl⟩
theorem setting_some (b s : Nat) (x : Int) (tk : Bool) (w : World) (h : AlmAt w b (some s)) (hs : SetAt w s x tk) :
    Calls Try.prog 24 #[.pointer (some ⟨b, 0, none⟩)] w fun e w' => e = .returned (.pointer (some ⟨s, 0, none⟩)) ∧ w = w' := by
  have H : Hid (AlmAt w b (some s)) := h
  have HS : Hid (SetAt w s x tk) := hs
  clear h hs
  go_enter Try.func24, Try.ntmps24
  go_wp2_with fail
  refine (pload_some b s x tk _ H.out HS.out).mono ?_
  rintro e w1 ⟨rfl, rfl⟩
  go_wp2
  go_ret
  exact ⟨rfl, rfl⟩

/-- Block b, below lo, is an alarm; whatever it was set by lies from lo on; it is set, or not; and if so, to the time x. -/
def Alm (w : World) (b lo : Nat) (set : Bool) (x : Int) : Prop :=
  b < lo ∧ ((AlmAt w b none ∧ set = false) ∨ ∃ s y, lo ≤ s ∧ AlmAt w b (some s) ∧ SetAt w s y (!set) ∧ (set = true → y = x))
theorem Alm.lt {w : World} {b lo : Nat} {set : Bool} {x : Int} (h : Alm w b lo set x) : b < w.heap.size := by
  rcases h with ⟨_, ⟨h, _⟩ | ⟨s, y, _, h, _⟩⟩
  · exact h.lt
  · exact h.lt
theorem Alm.keep {l : List Nat} {w w' : World} {b lo : Nat} {set : Bool} {x : Int} (h : Alm w b lo set x) (k : But l w w') (hl : ∀ k, k ∈ l → k ≠ b ∧ k < lo) : Alm w' b lo set x := by
  have hb : b ∉ l := fun hm => (hl b hm).1 rfl
  obtain ⟨h0, h | ⟨s, y, h1, h2, h3, h4⟩⟩ := h
  · exact ⟨h0, .inl ⟨h.1.keep k hb, h.2⟩⟩
  · exact ⟨h0, .inr ⟨s, y, h1, h2.keep k hb, h3.keep k (fun hm => by have := (hl s hm).2; omega), h4⟩⟩
theorem alm_new (w : World) (lo : Nat) (hlo : w.heap.size < lo) (x : Int) : Alm (w.alloc (.cells #[.pointer none] 45)) w.heap.size lo false x :=
  ⟨hlo, .inl ⟨heap_alloc_last w _, rfl⟩⟩

/-- What an alarm was set by was made ahead of what is made behind it. -/
theorem Alm.by_lt {w w' : World} {b lo : Nat} {set : Bool} {x : Int} (h : Alm w b lo set x) (k : But [] w w') {s : Nat} (hs : AlmAt w' b (some s)) : s < w.heap.size := by
  rcases h with ⟨h0, ⟨h, _⟩ | ⟨s', y, h1, h2, h3, h4⟩⟩
  · have := (h.keep k (by simp)).symm.trans hs
    simp at this
  · have := (h2.keep k (by simp)).symm.trans hs
    simp at this
    subst this
    exact h3.lt

theorem set_c (b lo : Nat) (st : Bool) (x y : Int) (w : World) (h : Alm w b lo st x) (hlo : lo ≤ w.heap.size) :
    Calls Try.prog 11 #[.pointer (some ⟨b, 0, none⟩), .int .u64 y] w fun e w' => e = .returned (.tuple #[]) ∧ Alm w' b lo true y ∧ But [b] w w' ∧ ∀ s, AlmAt w' b (some s) → w.heap.size ≤ s := by
  obtain ⟨so, hso, hbl⟩ : ∃ so, AlmAt w b so ∧ b < lo := by
    rcases h with ⟨h0, ⟨h, _⟩ | ⟨s, y, _, h, _⟩⟩
    · exact ⟨_, h, h0⟩
    · exact ⟨_, h, h0⟩
  have HA : Hid (AlmAt (w.alloc (.cells #[.int .u64 y, .int .u32 0] 72)) b so) := hso.keep ((But.refl [] w).alloc _) (by simp)
  obtain ⟨g, hg⟩ : ∃ g, g = w.heap.size := ⟨_, rfl⟩
  have HS : Hid (SetAt (w.alloc (.cells #[.int .u64 y, .int .u32 0] 72)) g y false) := by
    show SetAt _ _ _ _
    rw [hg]
    exact heap_alloc_last w _
  have HK : Hid (But [b] w (w.alloc (.cells #[.int .u64 y, .int .u32 0] 72))) := (But.refl _ _).alloc _
  have HL : Hid (lo ≤ g) := by show lo ≤ g; omega
  have HW : Hid (g = w.heap.size) := hg
  clear h hso hlo
  go_enter Try.func11, Try.ntmps11
  go_wp2_with fail
  rw [← hg]
  refine (pstore_c b g so y false _ HA.out HS.out).mono ?_
  rintro e w1 ⟨rfl, rfl⟩
  clear hg
  have HE : Hid (Alm ((w.alloc (.cells #[.int .u64 y, .int .u32 0] 72)).setCell ⟨b, 0, none⟩ (.pointer (some ⟨g, 0, none⟩))) b lo true y) := by
    refine ⟨hbl, .inr ⟨g, y, HL.out, HA.out.put g, ?_, fun _ => rfl⟩⟩
    refine (Below.heap_setCell _ _ _ _ ?_).trans HS.out
    have := HL.out
    show g ≠ b
    omega
  have HI : Hid (∀ s, AlmAt ((w.alloc (.cells #[.int .u64 y, .int .u32 0] 72)).setCell ⟨b, 0, none⟩ (.pointer (some ⟨g, 0, none⟩))) b (some s) → w.heap.size ≤ s) := by
    intro s hs
    have := (HA.out.put g).symm.trans hs
    simp at this
    exact Nat.le_of_eq (HW.out.symm.trans this)
  have HF : Hid (But [b] w ((w.alloc (.cells #[.int .u64 y, .int .u32 0] 72)).setCell ⟨b, 0, none⟩ (.pointer (some ⟨g, 0, none⟩)))) := HK.out.setCell (by simp) _
  generalize (w.alloc (.cells #[.int .u64 y, .int .u32 0] 72)).setCell ⟨b, 0, none⟩ (.pointer (some ⟨g, 0, none⟩)) = w2 at HE HF HI ⊢
  go_wp2
  first | go_end0 | (refine bodyPost_ret (results_none rfl _ _ _) rfl ?_)
  exact ⟨rfl, HE.out, HF.out, HI.out⟩
theorem set_nil (y : Int) (w : World) :
    Calls Try.prog 11 #[.pointer none, .int .u64 y] w fun e w' => e = .returned (.tuple #[]) ∧ w = w' := by
  go_enter Try.func11, Try.ntmps11
  go_wp2
  first | go_end0 | (refine bodyPost_ret (results_none rfl _ _ _) rfl ?_)
  exact ⟨rfl, rfl⟩

theorem off_nil (w : World) :
    Calls Try.prog 12 #[.pointer none] w fun e w' => e = .returned (.bool false) ∧ w = w' := by
  go_enter Try.func12, Try.ntmps12
  go_wp2_with fail
  refine (setting_nil _).mono ?_
  rintro e w1 ⟨rfl, rfl⟩
  go_wp2
  go_ret
  exact ⟨rfl, rfl⟩
theorem off_c (b lo : Nat) (st : Bool) (x : Int) (w : World) (h : Alm w b lo st x) :
    Calls Try.prog 12 #[.pointer (some ⟨b, 0, none⟩)] w fun e w' => e = .returned (.bool st) ∧ Alm w' b lo false x ∧ ∃ l, (∀ k, k ∈ l → lo ≤ k ∧ AlmAt w b (some k)) ∧ But l w w' := by
  obtain ⟨h0, ⟨h, rfl⟩ | ⟨s, y, h1, h2, h3, h4⟩⟩ := h
  · have H : Hid (AlmAt w b none) := h
    clear h
    go_enter Try.func12, Try.ntmps12
    go_wp2_with fail
    refine (setting_none b _ H.out).mono ?_
    rintro e w1 ⟨rfl, rfl⟩
    go_wp2
    go_ret
    exact ⟨rfl, ⟨h0, .inl ⟨H.out, rfl⟩⟩, [], by simp, But.refl _ _⟩
  · have H2 : Hid (AlmAt w b (some s)) := h2
    have H3 : Hid (SetAt w s y (!st)) := h3
    clear h2 h3 h4
    go_enter Try.func12, Try.ntmps12
    go_wp2_with fail
    refine (setting_some b s y _ _ H2.out H3.out).mono ?_
    rintro e w1 ⟨rfl, rfl⟩
    go_wp2_with fail
    refine (take_c s y _ _ H3.out).mono ?_
    rintro e w2 ⟨rfl, h5, k5⟩
    have HE : Hid (Alm w2 b lo false x) := ⟨h0, .inr ⟨s, y, h1, H2.out.keep k5 (by simp; omega), h5, by simp⟩⟩
    have HK : Hid (But [s] w w2) := k5
    clear h5 k5
    rw [Bool.not_not]
    go_wp2
    go_ret
    exact ⟨by simp, HE.out, [s], by simpa using ⟨h1, H2.out⟩, HK.out⟩
theorem due_nil (n : Int) (w : World) :
    Calls Try.prog 13 #[.pointer none, .int .u64 n] w fun e w' => e = .returned (.bool false) ∧ w = w' := by
  go_enter Try.func13, Try.ntmps13
  go_wp2_with fail
  refine (setting_nil _).mono ?_
  rintro e w1 ⟨rfl, rfl⟩
  go_wp2
  go_ret
  exact ⟨rfl, rfl⟩
theorem due_c (b lo : Nat) (st : Bool) (x n : Int) (w : World) (h : Alm w b lo st x) :
    Calls Try.prog 13 #[.pointer (some ⟨b, 0, none⟩), .int .u64 n] w fun e w' => e = .returned (.bool (st && decide (x ≤ n))) ∧ Alm w' b lo (st && !decide (x ≤ n)) x ∧ ∃ l, (∀ k, k ∈ l → lo ≤ k ∧ AlmAt w b (some k)) ∧ But l w w' := by
  obtain ⟨h0, ⟨h, rfl⟩ | ⟨s, y, h1, h2, h3, h4⟩⟩ := h
  · have H : Hid (AlmAt w b none) := h
    clear h
    go_enter Try.func13, Try.ntmps13
    go_wp2_with fail
    refine (setting_none b _ H.out).mono ?_
    rintro e w1 ⟨rfl, rfl⟩
    go_wp2
    go_ret
    exact ⟨by simp, ⟨h0, .inl ⟨H.out, by simp⟩⟩, [], by simp, But.refl _ _⟩
  · have H2 : Hid (AlmAt w b (some s)) := h2
    have H3 : Hid (SetAt w s y (!st)) := h3
    have H4 : Hid (st = true → y = x) := h4
    clear h2 h3 h4
    have hc := H3.out.c0
    go_enter Try.func13, Try.ntmps13
    go_wp2_with fail
    refine (setting_some b s y _ _ H2.out H3.out).mono ?_
    rintro e w1 ⟨rfl, rfl⟩
    by_cases hyn : y ≤ n
    · go_wp2_with fail
      refine (take_c s y _ _ H3.out).mono ?_
      rintro e w2 ⟨rfl, h5, k5⟩
      have HE : Hid (Alm w2 b lo false x) := ⟨h0, .inr ⟨s, y, h1, H2.out.keep k5 (by simp; omega), h5, by simp⟩⟩
      have HK : Hid (But [s] w w2) := k5
      clear h5 k5
      rw [Bool.not_not]
      go_wp2
      go_ret
      refine ⟨?_, ?_, [s], by simpa using ⟨h1, H2.out⟩, HK.out⟩
      · cases st
        · simp
        · rw [← H4.out rfl]
          simp [hyn]
      · cases st
        · exact HE.out
        · rw [← H4.out rfl] at HE ⊢
          simp only [hyn, decide_true, Bool.not_true, Bool.and_false]
          exact HE.out
    · go_wp2
      go_ret
      refine ⟨?_, ?_, [], by simp, But.refl _ _⟩
      · cases st
        · simp
        · rw [← H4.out rfl]
          simp [hyn]
      · have e : (st && !decide (x ≤ n)) = st := by
          cases st
          · rfl
          · rw [← H4.out rfl]
            simp [hyn]
        rw [e]
        exact ⟨h0, .inr ⟨s, y, h1, H2.out, H3.out, H4.out⟩⟩
end Go.Proofs.Ytbephnjnlcfapaa.Cl
