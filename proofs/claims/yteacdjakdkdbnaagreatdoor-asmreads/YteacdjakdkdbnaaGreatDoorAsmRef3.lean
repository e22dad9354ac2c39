/-
  The document's own words for layer 3: lines and parts of a text.
-/
import Derived.Test.YteacdjakdkdbnaaGreatDoorAsmRef2
namespace Go.Proofs.YteacdjakdkdbnaaGreatDoor
open Go.RowKit
set_option linter.unusedVariables false
set_option linter.unusedSimpArgs false
set_option maxRecDepth 20000

theorem Tryz.infoStr : (Tryz.prog.info? 9).map (fun i => (i.zero, i.size, i.bytes)) = some (some (.string ⟨#[]⟩), 1, 16) := by kernel_rfl
theorem strs_snoc (ls : List Bs) (x : Bs) : strsV ls ++ [.string (BA x)] = strsV (ls ++ [x]) := by simp [strsV]
theorem one_str (x : ByteArray) : ∀ u ∈ [Value.string x], u.oneCell' = true := by
  intro u hu
  simp only [List.mem_singleton] at hu
  subst hu
  rfl
/-- Lines as the document counts them: without a last one that is empty. -/
def LinesR (s : Bs) (ls : List Bs) : Prop := linesOf s = ls ∨ linesOf s = ls ++ [[]]

theorem linesOf_to (l : Bs) (n : Nat) (hn : n < l.length) (h : ∀ j (hj : j < l.length), j < n → l[j] ≠ 10) (h10 : l[n] = 10) : linesOf l = l.take n :: linesOf (l.drop (n + 1)) := by
  induction l generalizing n with
  | nil => simp at hn
  | cons c t ih =>
    cases n with
    | zero => simp at h10; subst h10; simp [linesOf]
    | succ n =>
      have hc : ¬ c = 10 := h 0 (by simp) (by omega)
      have := ih n (by simpa using hn) (fun j hj hjn => h (j + 1) (by simp; omega) (by omega)) (by simpa using h10)
      exact linesOf_cons c t hc this
theorem linesOf_flat (l : Bs) (h : ∀ j (hj : j < l.length), l[j] ≠ 10) : linesOf l = [l] := by
  induction l with
  | nil => rfl
  | cons c t ih => exact linesOf_cons c t (h 0 (by simp)) (ih fun j hj => h (j + 1) (by simp; omega))

set_option maxHeartbeats 2000000 in
theorem rlines_c (s : Bs) (hs : s.length ≤ 100000) (w : World) :
    Calls Tryz.prog 16 #[.string (BA s)] w fun e w' => ∃ v ls, e = .returned v ∧ w'.ownsRow w.heap.size 9 1 v ls.length (strsV ls) ∧ LinesR s ls ∧ ls.length ≤ s.length ∧ Below w.heap.size w w' := by
  obtain ⟨i0, hi, hz0, hz1, hz2⟩ := info_parts Tryz.infoStr
  have HI : Hid (Tryz.prog.info? 9 = some i0) := hi
  have HZ0 : Hid (i0.zero = some (.string ⟨#[]⟩)) := hz0
  have HZ1 : Hid (i0.size = 1) := hz1
  have HZ2 : Hid (i0.bytes = 16) := hz2
  clear hi hz0 hz1 hz2
  have HSD : Hid ((BA s).size = s.length) := BA_size s
  have hsm : (BA s).size ≤ 100000 := by rw [BA_size]; exact hs
  have HG : Hid (∀ (j : Nat) (h : j < (BA s).size) (h' : j < s.length), (BA s)[j]'h = s[j]'h') := fun _ _ _ => rfl
  have HX : Hid (∀ i j, (BA s).extract i j = BA ((s.drop i).take (j - i))) := BA_extract s
  obtain ⟨Q, hQ⟩ : ∃ Q, Q = BA s := ⟨_, rfl⟩
  rw [← hQ] at HSD hsm HX ⊢
  have HG2 : Hid (∀ (j : Nat) (h : j < Q.size) (h' : j < s.length), Q[j]'h = s[j]'h') := by subst hQ; exact HG
  clear hQ HG hs
  go_enter Tryz.func16, Tryz.ntmps16
  go_wp2
  go_loopw [3, 4, 5] (fun v f i wr => ∃ (k m : Nat) (ls : List Bs), k ≤ Q.size ∧ m ≤ k ∧ i = .int .i64 k ∧ f = .int .i64 m ∧ ls.length ≤ m ∧ wr.ownsRow w.heap.size 9 1 v ls.length (strsV ls) ∧ Below w.heap.size w wr ∧ Hid (linesOf s = ls ++ linesOf (s.drop m)) ∧ Hid (∀ (j : Nat) (h : j < s.length), m ≤ j → j < k → s[j] ≠ 10)) (fun _ _ i _ => Q.size - (intOf i).toNat)
  case atStart => exact ⟨0, 0, [], by omega, by omega, rfl, rfl, Nat.le_refl _, World.ownsRow_nil _ _ _ _, Below.refl _ _, rfl, fun j _ _ hj => absurd hj (by omega)⟩
  case round =>
    obtain ⟨k, m, ls, hk, hmk, rfl, rfl, hls, hown, hbel, HL, HM⟩ := hrel
    have hsz := hbel.size
    by_cases hlt : k < Q.size
    · have hld : k < s.length := by have := HSD.out; omega
      obtain ⟨c, hc, hcd⟩ : ∃ c : UInt8, (∀ h, Q[k]'h = c) ∧ s[k] = c := ⟨Q[k]'hlt, fun _ => rfl, (HG2.out k hlt hld).symm⟩
      have HC : Hid _ := hcd
      clear hcd
      by_cases h10 : c = 10
      · subst h10
        have hx := HX.out m k
        obtain ⟨x, hxd⟩ : ∃ x, x = (s.drop m).take (k - m) := ⟨_, rfl⟩
        rw [← hxd] at hx
        have HL2 : Hid (linesOf s = (ls ++ [x]) ++ linesOf (s.drop (k + 1))) := by
          show _ = _
          have := linesOf_to (s.drop m) (k - m) (by simp; omega) (fun j hj hjk => by rw [List.getElem_drop]; exact HM.out (m + j) (by simp at hj; omega) (by omega) (by omega)) (by rw [List.getElem_drop]; simp only [show m + (k - m) = k by omega]; exact HC.out)
          rw [HL.out, this, hxd, List.drop_drop, show m + (k - m + 1) = k + 1 by omega]; simp
        clear hxd
        go_wp2_with (first
          | (at_builtin; refine wpList_append_own _ rfl _ _ 61 rfl w.heap.size 9 i0 (.string ⟨#[]⟩) 1 16 Tryz.underlying61 HI.out HZ0.out HZ1.out HZ2.out rfl (by decide) _ _ _ rfl (hown.alloc _) ⟨wr.heap.size, 0, none⟩ 1 1 [.string (BA x)] rfl rfl (cell_one_new _ _ _) (one_str _) ?c3 ?c4 ?c5 ?_))
        case c3 => unfold maxLen; omega
        case c4 => omega
        case c5 => first | omega | (simp; omega)
        · intro v' w2 hown3 hgrow _
          have B2 : Below w.heap.size w w2 := (hbel.alloc hsz _).grown hgrow (by simp; omega) (fun k h => (hown.lt k h).1)
          rw [strs_snoc, show ls.length + 1 = (ls ++ [x]).length by simp] at hown3
          have R : Hid _ := hown3
          clear hown3 hgrow
          go_wp2
          go_roundw
          case rel => exact ⟨k + 1, k + 1, ls ++ [x], by omega, by omega, by go_num, by go_num, by simp; omega, R.out, B2, HL2, fun j _ h1 h2 => absurd h2 (by omega)⟩
          case measure => simp [intOf] <;> omega
      · have hc' : ¬ (c.toNat : Int) = 10 := fun h => h10 (UInt8.toNat_inj.1 (by rw [show (10 : UInt8).toNat = 10 from rfl]; omega))
        go_wp2
        go_roundw
        case rel => exact ⟨k + 1, m, ls, by omega, by omega, by go_num, rfl, hls, hown, hbel, HL, fun j h h1 h2 => by rcases Nat.lt_succ_iff_lt_or_eq.1 h2 with h' | h'; exact HM.out j h h1 h'; subst h'; rw [HC.out]; exact h10⟩
        case measure => simp [intOf] <;> omega
    · obtain rfl : k = Q.size := by omega
      have HF : Hid (linesOf (s.drop m) = [s.drop m]) := linesOf_flat _ (fun j hj => by rw [List.getElem_drop]; exact HM.out (m + j) (by simp at hj; omega) (by omega) (by rw [HSD.out]; simp at hj; omega))
      by_cases hmn : m < Q.size
      · have hx := HX.out m Q.size
        obtain ⟨x, hxd⟩ : ∃ x, x = (s.drop m).take (Q.size - m) := ⟨_, rfl⟩
        rw [← hxd] at hx
        have HL2 : Hid (linesOf s = ls ++ [x]) := by
          show _ = _
          rw [HL.out, HF.out, hxd, List.take_of_length_le (by rw [HSD.out]; simp)]
        have HLE : Hid (ls.length + 1 ≤ s.length) := by show _ ≤ _; rw [← HSD.out]; omega
        clear hxd
        go_wp2_with (first
          | (at_builtin; refine wpList_append_own _ rfl _ _ 61 rfl w.heap.size 9 i0 (.string ⟨#[]⟩) 1 16 Tryz.underlying61 HI.out HZ0.out HZ1.out HZ2.out rfl (by decide) _ _ _ rfl (hown.alloc _) ⟨wr.heap.size, 0, none⟩ 1 1 [.string (BA x)] rfl rfl (cell_one_new _ _ _) (one_str _) ?c3 ?c4 ?c5 ?_))
        case c3 => unfold maxLen; omega
        case c4 => omega
        case c5 => first | omega | (simp; omega)
        · intro v' w2 hown3 hgrow _
          have B2 : Below w.heap.size w w2 := (hbel.alloc hsz _).grown hgrow (by simp; omega) (fun k h => (hown.lt k h).1)
          rw [strs_snoc, show ls.length + 1 = (ls ++ [x]).length by simp] at hown3
          have R : Hid _ := hown3
          clear hown3 hgrow
          go_wp2
          go_ret
          exact ⟨_, ls ++ [x], rfl, R.out, .inl HL2.out, by rw [List.length_append]; exact HLE.out, B2⟩
      · obtain rfl : m = Q.size := by omega
        have HL2 : Hid (linesOf s = ls ++ [[]]) := by
          show _ = _
          rw [HL.out, HF.out, HSD.out, List.drop_eq_nil_of_le (Nat.le_refl _)]
        have HLE : Hid (ls.length ≤ s.length) := by show _ ≤ _; rw [← HSD.out]; omega
        go_wp2
        go_ret
        exact ⟨_, ls, rfl, hown, .inr HL2.out, HLE.out, hbel⟩

theorem said_stop (l : Bs) (h : l = [] ∨ l.head? = some 59) : saidOf l = [] := by
  rcases h with rfl | h
  · rfl
  · cases l with
    | nil => rfl
    | cons c t => simp at h; subst h; rfl
theorem said_go (c : UInt8) (t : Bs) (h : c ≠ 59) : saidOf (c :: t) = c :: saidOf t := by
  unfold saidOf; rw [List.takeWhile_cons_of_pos (by simp [h])]
def PartsAt (s : Bs) (ps : List Bs) (m k : Nat) : Prop := partsOf s = ps ++ fieldsFrom ((s.drop m).take (k - m)) (saidOf (s.drop k))
theorem PartsAt.plain {s : Bs} {ps : List Bs} {m k : Nat} (h : PartsAt s ps m k) (hm : m ≤ k) (hk : k < s.length) (h59 : s[k] ≠ 59) (hb : blankB s[k] = false) : PartsAt s ps m (k + 1) := by
  unfold PartsAt at *
  rw [h, List.drop_eq_getElem_cons hk, said_go _ _ h59]
  congr 1
  rw [fieldsFrom]
  rw [if_neg (by rw [hb]; simp)]
  congr 1
  rw [show k + 1 - m = (k - m) + 1 by omega, List.take_add_one, List.getElem?_drop, show m + (k - m) = k by omega, List.getElem?_eq_getElem hk]; rfl
theorem PartsAt.blank {s : Bs} {ps : List Bs} {k : Nat} (h : PartsAt s ps k k) (hk : k < s.length) (h59 : s[k] ≠ 59) (hb : blankB s[k] = true) : PartsAt s ps (k + 1) (k + 1) := by
  unfold PartsAt at *
  rw [h, List.drop_eq_getElem_cons hk, said_go _ _ h59]
  simp [fieldsFrom, hb]
theorem PartsAt.cut {s : Bs} {ps : List Bs} {m k : Nat} (h : PartsAt s ps m k) (hm : m < k) (hk : k < s.length) (h59 : s[k] ≠ 59) (hb : blankB s[k] = true) : PartsAt s (ps ++ [(s.drop m).take (k - m)]) (k + 1) (k + 1) := by
  unfold PartsAt at *
  rw [h, List.drop_eq_getElem_cons hk, said_go _ _ h59]
  have hne : ¬ (s.drop m).take (k - m) = [] := fun e => by have := congrArg List.length e; simp at this; omega
  rw [fieldsFrom, if_pos hb, if_neg hne]
  simp
theorem PartsAt.done {s : Bs} {ps : List Bs} {k : Nat} (h : PartsAt s ps k k) (he : s.drop k = [] ∨ (s.drop k).head? = some 59) : partsOf s = ps := by
  unfold PartsAt at h
  rw [h, said_stop _ he]; simp [fieldsFrom]
theorem PartsAt.last {s : Bs} {ps : List Bs} {m k : Nat} (h : PartsAt s ps m k) (hm : m < k) (hk : k ≤ s.length) (he : s.drop k = [] ∨ (s.drop k).head? = some 59) : partsOf s = ps ++ [(s.drop m).take (k - m)] := by
  unfold PartsAt at h
  have hne : ¬ (s.drop m).take (k - m) = [] := fun e => by have := congrArg List.length e; simp at this; omega
  rw [h, said_stop _ he, fieldsFrom, if_neg hne]

set_option maxHeartbeats 2000000 in
theorem rparts_c (s : Bs) (hs : s.length ≤ 100000) (w : World) :
    Calls Tryz.prog 17 #[.string (BA s)] w fun e w' => ∃ v, e = .returned v ∧ w'.ownsRow w.heap.size 9 1 v (partsOf s).length (strsV (partsOf s)) ∧ Below w.heap.size w w' := by
  obtain ⟨i0, hi, hz0, hz1, hz2⟩ := info_parts Tryz.infoStr
  have HI : Hid (Tryz.prog.info? 9 = some i0) := hi
  have HZ0 : Hid (i0.zero = some (.string ⟨#[]⟩)) := hz0
  have HZ1 : Hid (i0.size = 1) := hz1
  have HZ2 : Hid (i0.bytes = 16) := hz2
  clear hi hz0 hz1 hz2
  have HSD : Hid ((BA s).size = s.length) := BA_size s
  have hsm : (BA s).size ≤ 100000 := by rw [BA_size]; exact hs
  have HG : Hid (∀ (j : Nat) (h : j < (BA s).size) (h' : j < s.length), (BA s)[j]'h = s[j]'h') := fun _ _ _ => rfl
  have HX : Hid (∀ i j, (BA s).extract i j = BA ((s.drop i).take (j - i))) := BA_extract s
  obtain ⟨Q, hQ⟩ : ∃ Q, Q = BA s := ⟨_, rfl⟩
  rw [← hQ] at HSD hsm HX ⊢
  have HG2 : Hid (∀ (j : Nat) (h : j < Q.size) (h' : j < s.length), Q[j]'h = s[j]'h') := by subst hQ; exact HG
  clear hQ HG hs
  go_enter Tryz.func17, Tryz.ntmps17
  go_wp2
  go_loopw [3, 4, 5] (fun v f i wr => ∃ (k m : Nat) (ls : List Bs), k ≤ Q.size ∧ m ≤ k ∧ i = .int .i64 k ∧ f = .int .i64 m ∧ ls.length ≤ m ∧ wr.ownsRow w.heap.size 9 1 v ls.length (strsV ls) ∧ Below w.heap.size w wr ∧ Hid (PartsAt s ls m k)) (fun _ _ i _ => Q.size - (intOf i).toNat)
  case atStart => exact ⟨0, 0, [], by omega, by omega, rfl, rfl, Nat.le_refl _, World.ownsRow_nil _ _ _ _, Below.refl _ _, rfl⟩
  case round =>
    obtain ⟨k, m, ls, hk, hmk, rfl, rfl, hls, hown, hbel, HL⟩ := hrel
    have hsz := hbel.size
    by_cases hlt : k < Q.size
    · have hld : k < s.length := by have := HSD.out; omega
      have hne : ((k : Int) == (Q.size : Int)) = false := beq_eq_false_iff_ne.2 (by omega)
      obtain ⟨c, hc, hcd⟩ : ∃ c : UInt8, (∀ h, Q[k]'h = c) ∧ s[k] = c := ⟨Q[k]'hlt, fun _ => rfl, (HG2.out k hlt hld).symm⟩
      have HC : Hid _ := hcd
      clear hcd
      by_cases h59 : c = 59
      · subst h59
        have HE : Hid (s.drop k = [] ∨ (s.drop k).head? = some 59) := by right; rw [List.drop_eq_getElem_cons hld, HC.out]; rfl
        by_cases hmn : m < k
        · have hx := HX.out m k
          obtain ⟨x, hxd⟩ : ∃ x, x = (s.drop m).take (k - m) := ⟨_, rfl⟩
          rw [← hxd] at hx
          have HP : Hid (partsOf s = ls ++ [x]) := by show _ = _; rw [hxd]; exact HL.out.last hmn (by have := HSD.out; omega) HE.out
          clear hxd
          go_wp2_with (first
            | (at_builtin; refine wpList_append_own _ rfl _ _ 61 rfl w.heap.size 9 i0 (.string ⟨#[]⟩) 1 16 Tryz.underlying61 HI.out HZ0.out HZ1.out HZ2.out rfl (by decide) _ _ _ rfl (hown.alloc _) ⟨wr.heap.size, 0, none⟩ 1 1 [.string (BA x)] rfl rfl (cell_one_new _ _ _) (one_str _) ?c3 ?c4 ?c5 ?_))
          case c3 => unfold maxLen; omega
          case c4 => omega
          case c5 => first | omega | (simp; omega)
          · intro v' w2 hown3 hgrow _
            have B2 : Below w.heap.size w w2 := (hbel.alloc hsz _).grown hgrow (by simp; omega) (fun k h => (hown.lt k h).1)
            rw [strs_snoc, show ls.length + 1 = (ls ++ [x]).length by simp] at hown3
            have R : Hid _ := hown3
            clear hown3 hgrow
            go_wp2
            go_ret
            exact ⟨_, rfl, by rw [HP.out]; exact R.out, B2⟩
        · obtain rfl : m = k := by omega
          have HP : Hid (partsOf s = ls) := HL.out.done HE.out
          go_wp2
          go_ret
          exact ⟨_, rfl, by rw [HP.out]; exact hown, hbel⟩
      · have h59' : ((c.toNat : Int) == 59) = false := beq_eq_false_iff_ne.2 (fun h => h59 (UInt8.toNat_inj.1 (by rw [show (59 : UInt8).toNat = 59 from rfl]; omega)))
        have hbc := rblank_c c
        cases hb : blankB c with
        | false =>
          rw [hb] at hbc
          have HL2 : Hid (PartsAt s ls m (k + 1)) := HL.out.plain hmk hld (by rw [HC.out]; exact h59) (by rw [HC.out]; exact hb)
          go_wp2_with (go_at_call 31; refine (hbc _).mono ?_; rintro e w' ⟨rfl, rfl⟩)
          go_roundw
          case rel => exact ⟨k + 1, m, ls, by omega, by omega, by go_num, rfl, hls, hown, hbel, HL2⟩
          case measure => simp [intOf] <;> omega
        | true =>
          rw [hb] at hbc
          by_cases hmn : m < k
          · have hx := HX.out m k
            obtain ⟨x, hxd⟩ : ∃ x, x = (s.drop m).take (k - m) := ⟨_, rfl⟩
            rw [← hxd] at hx
            have HL2 : Hid (PartsAt s (ls ++ [x]) (k + 1) (k + 1)) := by show PartsAt _ _ _ _; rw [hxd]; exact HL.out.cut hmn hld (by rw [HC.out]; exact h59) (by rw [HC.out]; exact hb)
            clear hxd
            go_wp2_with (first
              | (go_at_call 31; refine (hbc _).mono ?_; rintro e w' ⟨rfl, rfl⟩)
              | (at_builtin; refine wpList_append_own _ rfl _ _ 61 rfl w.heap.size 9 i0 (.string ⟨#[]⟩) 1 16 Tryz.underlying61 HI.out HZ0.out HZ1.out HZ2.out rfl (by decide) _ _ _ rfl (hown.alloc _) ⟨w'.heap.size, 0, none⟩ 1 1 [.string (BA x)] rfl rfl (cell_one_new _ _ _) (one_str _) ?c3 ?c4 ?c5 ?_))
            case c3 => unfold maxLen; omega
            case c4 => omega
            case c5 => first | omega | (simp; omega)
            · intro v' w2 hown3 hgrow _
              have B2 : Below w.heap.size w w2 := (hbel.alloc hsz _).grown hgrow (by simp; omega) (fun k h => (hown.lt k h).1)
              rw [strs_snoc, show ls.length + 1 = (ls ++ [x]).length by simp] at hown3
              have R : Hid _ := hown3
              clear hown3 hgrow
              go_wp2
              go_roundw
              case rel => exact ⟨k + 1, k + 1, ls ++ [x], by omega, by omega, by go_num, by go_num, by simp; omega, R.out, B2, HL2⟩
              case measure => simp [intOf] <;> omega
          · obtain rfl : m = k := by omega
            have HL2 : Hid (PartsAt s ls (m + 1) (m + 1)) := HL.out.blank hld (by rw [HC.out]; exact h59) (by rw [HC.out]; exact hb)
            go_wp2_with (go_at_call 31; refine (hbc _).mono ?_; rintro e w' ⟨rfl, rfl⟩)
            go_roundw
            case rel => exact ⟨m + 1, m + 1, ls, by omega, by omega, by go_num, by go_num, by omega, hown, hbel, HL2⟩
            case measure => simp [intOf] <;> omega
    · obtain rfl : k = Q.size := by omega
      have HE : Hid (s.drop Q.size = [] ∨ (s.drop Q.size).head? = some 59) := .inl (List.drop_eq_nil_of_le (by rw [HSD.out]; exact Nat.le_refl _))
      by_cases hmn : m < Q.size
      · have hx := HX.out m Q.size
        obtain ⟨x, hxd⟩ : ∃ x, x = (s.drop m).take (Q.size - m) := ⟨_, rfl⟩
        rw [← hxd] at hx
        have HP : Hid (partsOf s = ls ++ [x]) := by show _ = _; rw [hxd]; exact HL.out.last hmn (by have := HSD.out; omega) HE.out
        clear hxd
        go_wp2_with (first
          | (at_builtin; refine wpList_append_own _ rfl _ _ 61 rfl w.heap.size 9 i0 (.string ⟨#[]⟩) 1 16 Tryz.underlying61 HI.out HZ0.out HZ1.out HZ2.out rfl (by decide) _ _ _ rfl (hown.alloc _) ⟨wr.heap.size, 0, none⟩ 1 1 [.string (BA x)] rfl rfl (cell_one_new _ _ _) (one_str _) ?c3 ?c4 ?c5 ?_))
        case c3 => unfold maxLen; omega
        case c4 => omega
        case c5 => first | omega | (simp; omega)
        · intro v' w2 hown3 hgrow _
          have B2 : Below w.heap.size w w2 := (hbel.alloc hsz _).grown hgrow (by simp; omega) (fun k h => (hown.lt k h).1)
          rw [strs_snoc, show ls.length + 1 = (ls ++ [x]).length by simp] at hown3
          have R : Hid _ := hown3
          clear hown3 hgrow
          go_wp2
          go_ret
          exact ⟨_, rfl, by rw [HP.out]; exact R.out, B2⟩
      · obtain rfl : m = Q.size := by omega
        have HP : Hid (partsOf s = ls) := HL.out.done HE.out
        go_wp2
        go_ret
        exact ⟨_, rfl, by rw [HP.out]; exact hown, hbel⟩
end Go.Proofs.YteacdjakdkdbnaaGreatDoor
