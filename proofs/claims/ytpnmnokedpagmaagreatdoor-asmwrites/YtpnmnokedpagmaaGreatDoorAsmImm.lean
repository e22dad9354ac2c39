/-
  Package asm's reader: what stands in the place of an Op's Imm.
-/
import Derived.Test.YtpnmnokedpagmaaGreatDoorAsmOps
import Derived.Maps.OwnSet
namespace Go.Proofs.YtpnmnokedpagmaaGreatDoor
open Go.RowKit
set_option linter.unusedVariables false
set_option linter.unusedSimpArgs false
set_option maxRecDepth 20000

/-- The errors that strconv tells of lie in two of the program's variables. -/
def ErrAt (w : World) (g : Nat) : Prop := ∃ ev, w.cell? ⟨g, 0, none⟩ = some ev ∧ (ev = .nilIface ∨ ∃ te pe, ev = .iface te pe)
def ErrsOk (w : World) : Prop := ErrAt w 5 ∧ ErrAt w 6
theorem ErrsOk.below {w w' : World} {B : Nat} (h : ErrsOk w) (k : Below B w w') (hB : 6 < B) : ErrsOk w' := by
  obtain ⟨⟨e1, h1, g1⟩, e2, h2, g2⟩ := h
  exact ⟨⟨e1, (k.cell (p := ⟨5, 0, none⟩) (by show 5 < B; omega)).trans h1, g1⟩, e2, (k.cell (p := ⟨6, 0, none⟩) hB).trans h2, g2⟩

/-- A map's datum that holds just these labels. -/
structure LabOk (L : Labs) (D : DataW Unit) : Prop where
  isMap : Maps.IsMap D
  has : ∀ y, Maps.has D (.string y) = (L.lookup y).isSome
  at_ : ∀ y n, L.lookup y = some n → D.atKey (.string y) (.lit (.int .i64 0)) = .lit (.int .i64 n)
  le : ∀ y n, L.lookup y = some n → n ≤ 4294967296
theorem LabOk.nil : LabOk [] (.map []) := ⟨⟨_, rfl⟩, fun y => by rfl, fun y n h => by simp at h, fun y n h => by simp at h⟩
theorem lookup_snoc (L : Labs) (x y : Bs) (n : Nat) (hx : L.lookup x = none) : (L ++ [(x, n)]).lookup y = if y = x then some n else L.lookup y := by
  induction L with
  | nil =>
    by_cases h : y = x
    · simp [List.lookup, h]
    · have : (y == x) = false := by simpa using h
      simp [List.lookup, h, this]
  | cons p t ih =>
    obtain ⟨k, v⟩ := p
    simp only [List.cons_append, List.lookup] at hx ⊢
    cases hk : x == k with
    | true => rw [hk] at hx; cases hx
    | false =>
      rw [hk] at hx
      cases hy : y == k with
      | true =>
        have h1 : y = k := by simpa using hy
        have h2 : ¬ y = x := fun e => by rw [← e, hy] at hk; cases hk
        simp [h2]
      | false => exact ih hx
theorem LabOk.snoc {L : Labs} {D : DataW Unit} (h : LabOk L D) (x : Bs) (n : Nat) (hx : L.lookup x = none) (hn : n ≤ 4294967296) : LabOk (L ++ [(x, n)]) (D.put (.string x) (.lit (.int .i64 n))) := by
  have hne : ∀ y, ¬ y = x → (Lit.string y) ≠ .string x := fun y hy e => hy (by injection e)
  refine ⟨?_, fun y => ?_, fun y m hm => ?_, fun y m hm => ?_⟩
  · obtain ⟨es, he⟩ := h.isMap
    subst he
    exact ⟨_, rfl⟩
  · rw [lookup_snoc L x y n hx]
    by_cases hy : y = x
    · subst hy; rw [if_pos rfl]; exact Maps.has_put_same h.isMap (by trivial) _
    · rw [if_neg hy, Maps.has_put_other (hne y hy)]; exact h.has y
  · rw [lookup_snoc L x y n hx] at hm
    by_cases hy : y = x
    · subst hy; rw [if_pos rfl] at hm; injection hm with hm; subst hm; exact Maps.atKey_put_same h.isMap (by trivial) _ _
    · rw [if_neg hy] at hm; rw [Maps.atKey_put_other (hne y hy)]; exact h.at_ y m hm
  · rw [lookup_snoc L x y n hx] at hm
    by_cases hy : y = x
    · rw [if_pos hy] at hm; injection hm with hm; omega
    · rw [if_neg hy] at hm; exact h.le y m hm

theorem key_str (q : Bs) (hq : q.length ≤ 4294967296) : keyOf Tryz.prog 9 (.string (BA q)) = some (.string q) := Go.WideMaps.keyOf_string_mk Tryz.underlying9 (by unfold maxLen; rw [BA_size]; omega)

set_option maxHeartbeats 1000000 in
theorem imm_c (b M n here : Nat) (a0 : Option Addr) (c0 : Nat) (L : Labs) (D : DataW Unit) (op : Nat) (q : Bs) (hq : q.length ≤ 4294967296) (w : World)
    (hM : w.cell? ⟨b, 103, none⟩ = some (.map (some M))) (hW : w.cell? ⟨b, 104, none⟩ = some (.slice a0 here c0)) (hh : here ≤ 4294967296)
    (hown : w.ownsMap Tryz.prog 9 (plainElem Tryz.prog 3) M n D) (hL : LabOk L D) (hE : ErrsOk w) :
    Calls Tryz.prog 62 #[.pointer (some ⟨b, 0, none⟩), .int .i64 op, .string (BA q)] w fun e w' => ∃ v ok, e = .returned (.tuple #[.int .i64 v, .bool ok]) ∧ immOf L here op q = (if ok then some v else none) ∧ Below w.heap.size w w' := by
  cases hn : isNum q with
  | true =>
    by_cases ho : ∃ v, Lib.parseIntB 16 q = .ok v
    · obtain ⟨v, hpi⟩ := ho
      have HI : Hid (immOf L here op q = some v) := by unfold immOf; rw [hn, hpi]; rfl
      have hc := Tryz.strconv_ParseInt_10_at16_ok (BA q) (by rw [BA_size]; omega) v hpi
      clear hown hW hM hL hE
      go_enter Tryz.func62, Tryz.ntmps62
      go_wp2_with (first
        | (go_at_call 45; refine (isNum_c q hq _).mono ?_; rw [hn]; rintro e w' ⟨rfl, rfl⟩)
        | (go_at_call 79; refine (hc _).mono ?_; rintro e w1 ⟨rfl, hw1⟩)
        | go_in)
      have hb : Below w'.heap.size w' w1 := by
        rcases hw1 with rfl | ⟨t, rfl⟩
        · exact Below.refl _ _
        · exact Lib.bytesWorld_below _ _ _
      clear hw1
      go_region
      all_goals go_wp2
      all_goals go_ret2
      all_goals exact ⟨_, true, rfl, HI.out, hb.drew⟩
    · by_cases hpi : Lib.parseIntB 16 q = .range
      · have HI : Hid (immOf L here op q = none) := by unfold immOf; rw [hn, hpi]; rfl
        obtain ⟨-, ev, h1, h2⟩ := hE
        have hc := Tryz.strconv_ParseInt_10_at16_range (BA q) (by rw [BA_size]; omega) hpi ev w h1 h2
        clear hown hW hM hL
        go_enter Tryz.func62, Tryz.ntmps62
        go_wp2_with (first
          | (go_at_call 45; refine (isNum_c q hq _).mono ?_; rw [hn]; rintro e w' ⟨rfl, rfl⟩)
          | (go_at_call 79; refine hc.mono ?_; rintro e w1 ⟨N1, rfl, _, _, hb⟩)
          | go_in)
        go_region
        all_goals go_wp2
        all_goals go_ret2
        all_goals exact ⟨_, false, rfl, HI.out, hb.drew⟩
      · have HI : Hid (immOf L here op q = none) := by show immOf L here op q = none; unfold immOf; rw [hn]; simp only [if_true]; split; exact absurd ⟨_, by assumption⟩ ho; rfl
        obtain ⟨⟨ev, h1, h2⟩, -⟩ := hE
        have hc := Tryz.strconv_ParseInt_10_at16_bad (BA q) (by rw [BA_size]; omega) (fun v e => ho ⟨v, e⟩) hpi ev w h1 h2
        clear hown hW hM hL
        go_enter Tryz.func62, Tryz.ntmps62
        go_wp2_with (first
          | (go_at_call 45; refine (isNum_c q hq _).mono ?_; rw [hn]; rintro e w' ⟨rfl, rfl⟩)
          | (go_at_call 79; refine hc.mono ?_; rintro e w1 ⟨N1, rfl, _, _, hb⟩)
          | go_in)
        go_region
        all_goals go_wp2
        all_goals go_ret2
        all_goals exact ⟨_, false, rfl, HI.out, hb.drew⟩
  | false =>
    cases hlk : L.lookup q with
    | none =>
      have hhas := hL.has q
      rw [hlk] at hhas
      have hk := key_str q hq
      have HH : Hid _ := hhas
      have HI : Hid (immOf L here op q = none) := by unfold immOf; rw [hn, hlk]; rfl
      clear hhas
      go_enter Tryz.func62, Tryz.ntmps62
      go_wp2_with (first
        | (go_at_call 45; refine (isNum_c q hq _).mono ?_; rw [hn]; rintro e w' ⟨rfl, rfl⟩)
        | (at_lookup; refine wpList_lookup_own_ok_int _ rfl _ _ 61 rfl 9 3 .i64 (Maps.string_keyed Tryz.underlying9) Tryz.underlying61 Tryz.underlying3 (Tryz.zeroValue3 _) M n D rfl hown _ _ rfl hk ?_; intro c hat hwc; rw [HH.out])
        | go_in)
      go_ret2
      exact ⟨_, false, rfl, HI.out, Below.refl _ _⟩
    | some a =>
      have HA := hL.at_ q a hlk
      have hle := hL.le q a hlk
      have hhas := hL.has q
      rw [hlk] at hhas
      have hk := key_str q hq
      have HH : Hid _ := hhas
      clear hhas
      cases hj : jumpB op with
      | true =>
        have HI : Hid (immOf L here op q = some ((a : Int) - here)) := by unfold immOf; rw [hn, hlk, hj]; rfl
        go_enter Tryz.func62, Tryz.ntmps62
        go_wp2_with (first
          | (go_at_call 45; refine (isNum_c q hq _).mono ?_; rw [hn]; rintro e w' ⟨rfl, rfl⟩)
          | (at_lookup; refine wpList_lookup_own_ok_int _ rfl _ _ 61 rfl 9 3 .i64 (Maps.string_keyed Tryz.underlying9) Tryz.underlying61 Tryz.underlying3 (Tryz.zeroValue3 _) M n D rfl hown _ _ rfl hk ?_; intro c hat hwc; rw [HH.out]; obtain rfl : c = a := (by rw [HA] at hat; injection hat with hat; injection hat with _ hat; exact hat.symm))
          | (go_at_call 80; refine (takesLabel_c op _).mono ?_; rw [hj]; rintro e w' ⟨rfl, rfl⟩)
          | go_in)
        go_ret2
        exact ⟨_, true, rfl, HI.out, Below.refl _ _⟩
      | false =>
        have HI : Hid (immOf L here op q = none) := by unfold immOf; rw [hn, hlk, hj]; rfl
        go_enter Tryz.func62, Tryz.ntmps62
        go_wp2_with (first
          | (go_at_call 45; refine (isNum_c q hq _).mono ?_; rw [hn]; rintro e w' ⟨rfl, rfl⟩)
          | (at_lookup; refine wpList_lookup_own_ok_int _ rfl _ _ 61 rfl 9 3 .i64 (Maps.string_keyed Tryz.underlying9) Tryz.underlying61 Tryz.underlying3 (Tryz.zeroValue3 _) M n D rfl hown _ _ rfl hk ?_; intro c hat hwc; rw [HH.out]; obtain rfl : c = a := (by rw [HA] at hat; injection hat with hat; injection hat with _ hat; exact hat.symm))
          | (go_at_call 80; refine (takesLabel_c op _).mono ?_; rw [hj]; rintro e w' ⟨rfl, rfl⟩)
          | go_in)
        go_ret2
        exact ⟨_, false, rfl, HI.out, Below.refl _ _⟩
end Go.Proofs.YtpnmnokedpagmaaGreatDoor
