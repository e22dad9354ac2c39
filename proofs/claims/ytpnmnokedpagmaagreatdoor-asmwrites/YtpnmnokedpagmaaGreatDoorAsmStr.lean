/-
  Package asm's small functions on strings, each by a contract of its own: blanks, what is said, the parts of a line.
-/
import Derived.Test.YtpnmnokedpagmaaGreatDoorShelf
import Derived.Test.YtpnmnokedpagmaaGreatDoorAsmSpec
import Derived.Test.YtpnmnokedpagmaaGreatDoorKeep
import Derived.WalkKit
import Derived.BigQuiet
import Derived.Deep.Draws
namespace Go.Proofs.YtpnmnokedpagmaaGreatDoor
open Go.RowKit
set_option linter.unusedVariables false
set_option linter.unusedSimpArgs false
set_option maxRecDepth 20000

theorem isBlank_c (x : Nat) (w : World) : Calls Tryz.prog 39 #[.int .i32 x] w fun e w' => e = .returned (.bool (blankN x)) ∧ w' = w := by
  by_cases h1 : x = 32
  · subst h1; go_enter Tryz.func39, Tryz.ntmps39; go_wp2; go_ret; exact ⟨rfl, rfl⟩
  by_cases h2 : x = 9
  · subst h2; go_enter Tryz.func39, Tryz.ntmps39; go_wp2; go_ret; exact ⟨rfl, rfl⟩
  by_cases h3 : x = 13
  · subst h3; go_enter Tryz.func39, Tryz.ntmps39; go_wp2; go_ret; exact ⟨rfl, rfl⟩
  by_cases h4 : x = 11
  · subst h4; go_enter Tryz.func39, Tryz.ntmps39; go_wp2; go_ret; exact ⟨rfl, rfl⟩
  by_cases h5 : x = 12
  · subst h5; go_enter Tryz.func39, Tryz.ntmps39; go_wp2; go_ret; exact ⟨rfl, rfl⟩
  have hb : blankN x = false := by unfold blankN; simp [h1, h2, h3, h4, h5]
  have e1 : ¬ (x : Int) = 32 := by omega
  have e2 : ¬ (x : Int) = 9 := by omega
  have e3 : ¬ (x : Int) = 13 := by omega
  have e4 : ¬ (x : Int) = 11 := by omega
  have e5 : ¬ (x : Int) = 12 := by omega
  rw [hb]
  go_enter Tryz.func39, Tryz.ntmps39
  go_wp2
  go_ret
  exact ⟨rfl, rfl⟩

theorem said_none : ∀ (l : Bs), Lib.indexByte l 59 = -1 → saidOf l = l
  | [], _ => rfl
  | c :: t, h => by
    have h0 := Lib.indexByte_none h 0
    have hc : c ≠ 59 := fun e => h0 (by simp [e])
    have ht : Lib.indexByte t 59 = -1 := by
      by_cases he : Lib.indexByte t 59 = -1
      · exact he
      · exfalso
        have := idx_ge t 59
        unfold Lib.indexByte at h
        simp [hc] at h
        have := h he
        omega
    have := said_none t ht
    unfold saidOf at this ⊢
    rw [List.takeWhile_cons_of_pos (by simp [hc]), this]
theorem said_some : ∀ (l : Bs) (i : Nat), Lib.indexByte l 59 = i → saidOf l = l.take i ∧ i < l.length
  | [], i, h => by simp [Lib.indexByte] at h
  | c :: t, i, h => by
    unfold saidOf
    by_cases hc : c = 59
    · subst hc
      have : i = 0 := by
        unfold Lib.indexByte at h
        simp at h
        first | omega | exact h.symm | exact h
      subst this
      simp
    · unfold Lib.indexByte at h
      simp [hc] at h
      split at h
      · omega
      · have hge := idx_ge t 59
        obtain ⟨k, hk⟩ : ∃ k : Nat, i = k + 1 := ⟨i - 1, by omega⟩
        subst hk
        obtain ⟨h1, h2⟩ := said_some t k (by omega)
        refine ⟨?_, by simp; omega⟩
        rw [List.takeWhile_cons_of_pos (by simp [hc])]
        unfold saidOf at h1
        rw [h1]; rfl

theorem cut_lite (l : Bs) (w : World) (hl : l.length ≤ 4294967296) : Calls Tryz.prog 55 #[.string (BA l), .string ⟨#[59]⟩] w fun e w' =>
    (∃ x b, e = .returned (.tuple #[.string (BA (saidOf l)), .string x, .bool b])) ∧ ∃ n, w' = w.drewN n := by
  rcases (by omega : Lib.indexByte l 59 < 0 ∨ 0 ≤ Lib.indexByte l 59) with hneg | hpos
  · have hi : Lib.indexByte l 59 = -1 := by have := idx_ge l 59; omega
    rw [said_none l hi]
    go_enter Tryz.func55, Tryz.ntmps55
    go_wp2_with (first
      | (go_at_call 58; refine (Tryz.stringslite_Index_one (BA l) 59 _).mono ?_; rw [BA_data, hi]; rintro e w' ⟨rfl, rfl⟩)
      | go_in)
    go_ret3
    exact ⟨⟨_, _, rfl⟩, 0, rfl⟩
  · obtain ⟨i, hi⟩ : ∃ i : Nat, Lib.indexByte l 59 = i := ⟨(Lib.indexByte l 59).toNat, by omega⟩
    obtain ⟨hs, hlt⟩ := said_some l i hi
    have hsz := BA_size l
    have c1 : (0 : Int) ≤ ↑i := by omega
    have c2 : (↑i : Int) ≤ ↑(BA l).size := by omega
    have c3 : (0 : Int) ≤ ↑i + 1 := by omega
    have c4 : (↑i + 1 : Int) ≤ ↑(BA l).size := by omega
    have hex : (BA l).extract 0 i = BA (l.take i) := by rw [BA_extract]; simp
    rw [hs]
    clear hsz
    go_enter Tryz.func55, Tryz.ntmps55
    go_wp2_with (first
      | (go_at_call 58; refine (Tryz.stringslite_Index_one (BA l) 59 _).mono ?_; rw [BA_data, hi]; rintro e w' ⟨rfl, rfl⟩)
      | go_in)
    go_region
    go_wp2
    go_ret3
    exact ⟨⟨_, _, rfl⟩, 1, rfl⟩

theorem cut_c (l : Bs) (w : World) (hl : l.length ≤ 4294967296) : Calls Tryz.prog 37 #[.string (BA l), .string ⟨#[59]⟩] w fun e w' =>
    (∃ x b, e = .returned (.tuple #[.string (BA (saidOf l)), .string x, .bool b])) ∧ ∃ n, w' = w.drewN n := by
  go_enter Tryz.func37, Tryz.ntmps37
  go_wp2_with (go_at_call 55; refine (cut_lite l _ hl).mono ?_; rintro e w' ⟨⟨x, b, rfl⟩, n, rfl⟩)
  go_ret3
  exact ⟨⟨_, _, rfl⟩, _, rfl⟩

theorem fieldsFrom_len : ∀ (l cur : Bs), ∀ x ∈ fieldsFrom cur l, x.length ≤ cur.length + l.length
  | [], cur, x, h => by
    unfold fieldsFrom at h
    split at h
    · cases h
    · simp at h; subst h; simp
  | c :: t, cur, x, h => by
    unfold fieldsFrom at h
    split at h
    · split at h
      · have := fieldsFrom_len t [] x h; simp at this ⊢; omega
      · rcases List.mem_cons.1 h with e | h
        · subst e; simp
        · have := fieldsFrom_len t [] x h; simp at this ⊢; omega
    · have := fieldsFrom_len t _ x h; simp at this ⊢; omega
theorem said_ascii {l : Bs} (h : AsciiL l) : AsciiL (saidOf l) := fun c hc => h c ((List.takeWhile_sublist _).mem hc)
theorem said_len (l : Bs) : (saidOf l).length ≤ l.length := (List.takeWhile_sublist _).length_le

theorem fields_c (l : Bs) (ha : AsciiL l) (hl : l.length ≤ 4294967296) (w : World) :
    Calls Tryz.prog 38 #[.string (BA l), .func (.func 39) #[] #[]] w fun e w' => ∃ A, e = .returned (.slice (some ⟨A, 0, none⟩) (fieldsFrom [] l).length (fieldsFrom [] l).length) ∧ w.heap.size ≤ A ∧
      (∀ j x, (fieldsFrom [] l)[j]? = some x → w'.cell? ⟨A, j, none⟩ = some (.string (BA x))) ∧ Below w.heap.size w w' := by
  have h := Tryz.strings_FieldsFunc 39 #[] (enters_of Tryz.func39 (by kernel_rfl) rfl) blankN (BA l) w (by rw [BA_size]; exact hl)
    (fun W x _ => (isBlank_c x W).mono fun e w' ⟨h1, h2⟩ => ⟨h1, 0, h2⟩)
  rw [goFields_eq (BA l) (by rw [BA_data]; exact ha), BA_data] at h
  refine h.mono fun e w' ⟨A, he, hA, hown, hb⟩ => ⟨A, ?_, hA, ?_, hb⟩
  · rw [he]; simp
  · intro j x hx
    have := hown.cells (g := A) rfl j (.string (BA x)) (by simp [hx])
    by_cases hj : j = 0
    · subst hj; simpa [Addr.add] using this
    · simpa [Addr.add, hj] using this

/-- A slice of strings, wherever it lies. -/
def Strs (n0 : Nat) (w : World) (v : Value) (ps : List Bs) : Prop :=
  (ps = [] ∧ ∃ a c, v = .slice a 0 c) ∨ ∃ bk o c, n0 ≤ bk ∧ v = .slice (some ⟨bk, o, none⟩) ps.length c ∧ ps.length ≤ c ∧ ∀ j x, ps[j]? = some x → w.cell? ⟨bk, o + j, none⟩ = some (.string (BA x))
/-- What split hands back of its label. -/
def labOf (o : Option Bs) : Bs := match o with | none => [] | some x => x

set_option maxHeartbeats 1000000 in
theorem split_c (l : Bs) (ha : AsciiL l) (hl : l.length ≤ 4294967296) (w : World) :
    Calls Tryz.prog 27 #[.string (BA l)] w fun e w' => ∃ v, e = .returned (.tuple #[.string (BA (labOf (lineOf l).1)), .bool (lineOf l).1.isSome, v]) ∧ Strs w.heap.size w' v (lineOf l).2 ∧ Below w.heap.size w w' := by
  have hfl := fieldsFrom_count (saidOf l) []
  have hsl := said_len l
  simp at hfl
  cases hp : partsOf l with
  | nil =>
    have hline : lineOf l = (none, []) := by unfold lineOf; rw [hp]
    rw [hline]
    have hp' : fieldsFrom [] (saidOf l) = [] := hp
    go_enter Tryz.func27, Tryz.ntmps27
    go_wp2_with (first
      | (go_at_call 37; refine (cut_c l _ hl).mono ?_; rintro e w' ⟨⟨x, b, rfl⟩, n, rfl⟩)
      | (go_at_call 38; refine (fields_c (saidOf l) (said_ascii ha) (by omega) _).mono ?_; rw [hp']; rintro e w1 ⟨A, rfl, _, _, hb1⟩)
      | go_in)
    go_ret3
    exact ⟨_, rfl, .inl ⟨rfl, _, _, rfl⟩, (below_drewN' (Below.refl _ w) n).trans hb1⟩
  | cons p ps =>
    have hp' : fieldsFrom [] (saidOf l) = p :: ps := hp
    have hpl : p.length ≤ 4294967296 := by have := fieldsFrom_len (saidOf l) [] p (by rw [hp']; exact List.mem_cons_self ..); simp at this; omega
    have hn : ps.length + 1 ≤ 4294967296 := by rw [hp'] at hfl; simp at hfl; omega
    cases hsuf : Lib.hasSuffix p [58] with
    | false =>
      have hline : lineOf l = (none, p :: ps) := by unfold lineOf; rw [hp]; simp [hsuf]
      rw [hline]
      go_enter Tryz.func27, Tryz.ntmps27
      go_wp2_with (first
        | (go_at_call 37; refine (cut_c l _ hl).mono ?_; rintro e w' ⟨⟨x, b, rfl⟩, n, rfl⟩)
        | (go_at_call 38; refine (fields_c (saidOf l) (said_ascii ha) (by omega) _).mono ?_; rw [hp']; rintro e w1 ⟨A, rfl, hA, hcs, hb1⟩; have hc0 := hcs 0 p rfl; simp only [List.length_cons])
        | (go_at_call 40; refine (Tryz.strings_CutSuffix (BA p) ⟨#[58]⟩ _ (by rw [BA_size]; omega)).mono ?_; rw [BA_data, show (ByteArray.mk #[58]).data.toList = [58] from rfl, hsuf]; rintro e w2 ⟨rfl, rfl⟩)
        | go_in)
      go_ret3
      refine ⟨_, rfl, .inr ⟨A, 0, _, hA, rfl, Nat.le_refl _, fun j x hx => ?_⟩, (below_drewN' (Below.refl _ w) n).trans hb1⟩
      rw [Nat.zero_add]; exact hcs j x hx
    | true =>
      have hline : lineOf l = (some (Lib.trimSuffix p [58]), ps) := by unfold lineOf; rw [hp]; simp [hsuf]
      rw [hline]
      go_enter Tryz.func27, Tryz.ntmps27
      go_wp2_with (first
        | (go_at_call 37; refine (cut_c l _ hl).mono ?_; rintro e w' ⟨⟨x, b, rfl⟩, n, rfl⟩)
        | (go_at_call 38; refine (fields_c (saidOf l) (said_ascii ha) (by omega) _).mono ?_; rw [hp']; rintro e w1 ⟨A, rfl, hA, hcs, hb1⟩; have hc0 := hcs 0 p rfl; simp only [List.length_cons])
        | (go_at_call 40; refine (Tryz.strings_CutSuffix (BA p) ⟨#[58]⟩ _ (by rw [BA_size]; omega)).mono ?_; rw [BA_data, show (ByteArray.mk #[58]).data.toList = [58] from rfl, hsuf]; rintro e w2 ⟨rfl, rfl⟩)
        | go_in)
      go_region
      all_goals go_wp2
      all_goals go_ret3
      · exact ⟨_, rfl, .inl ⟨rfl, _, _, rfl⟩, ((below_drewN' (Below.refl _ w) n).trans hb1).drew⟩
      · refine ⟨_, rfl, .inr ⟨A, 1, _, hA, rfl, Nat.le_refl _, fun j x hx => ?_⟩, ((below_drewN' (Below.refl _ w) n).trans hb1).drew⟩
        rw [Nat.add_comm]; exact hcs (j + 1) x hx
end Go.Proofs.YtpnmnokedpagmaaGreatDoor
