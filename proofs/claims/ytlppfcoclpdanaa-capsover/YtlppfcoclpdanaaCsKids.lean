/-
  Layer 12 (caps): contracts of Children, lent, Lent, lentTo, Over, under, over the translated program.
-/
import Derived.Test.YtlppfcoclpdanaaCsRead2
namespace Go.Proofs.Ytlppfcoclpdanaa.Cs
open Go.ChangeShapes Go.WideShapes Go.ChangeAt Go.RowKit
open Wh Sn
set_option linter.unusedVariables false
set_option maxRecDepth 20000

/-- Caps as cells. -/
def kc (T : Tr) (L : List Nat) : List Value := L.flatMap fun p => [Value.int .i64 (p : Nat), .int .u64 ((T p).gen : Nat)]
theorem kc_len (T : Tr) (L : List Nat) : (kc T L).length = L.length * 2 := by
  induction L with
  | nil => rfl
  | cons a L ih => simp only [kc, List.flatMap_cons, List.length_append, List.length_cons, List.length_nil] at ih ⊢; omega
theorem kc_snoc (T : Tr) (L : List Nat) (p : Nat) : kc T (L ++ [p]) = kc T L ++ [.int .i64 (p : Nat), .int .u64 ((T p).gen : Nat)] := by simp [kc]
theorem kc_get (T : Tr) : ∀ (L : List Nat) (j : Nat), j < L.length → (kc T L)[j * 2]? = some (.int .i64 (L.getD j 0 : Nat)) ∧ (kc T L)[j * 2 + 1]? = some (.int .u64 ((T (L.getD j 0)).gen : Nat))
  | [], j, h => by simp at h
  | a :: L, 0, h => ⟨rfl, rfl⟩
  | a :: L, j + 1, h => by
    have := kc_get T L j (by simpa using h)
    rw [show (j + 1) * 2 = j * 2 + 1 + 1 by omega, show j * 2 + 1 + 1 + 1 = (j * 2 + 1) + 1 + 1 by omega]
    exact this
/-- What a call that tells caps of its own ends in. -/
def Own2 (w : World) (xs : List Value) (e : Ending) (w' : World) : Prop := ∃ A n c, e = .returned (.slice A n c) ∧ Que w' w.heap.size 2 (.slice A n c) n xs ∧ But [] w w'
theorem Try.infoCap : (Try.prog.info? 26).map (fun i => (i.zero, i.size, i.bytes)) = some (some (.agg #[.int .i64 0, .int .u64 0]), 2, 16) := by kernel_rfl
theorem one_cap (x y : Int) : ∀ u ∈ [Value.int .i64 x, .int .u64 y], u.oneCell' = true := fun v hv => by
  simp only [List.mem_cons, List.not_mem_nil, or_false] at hv
  rcases hv with rfl | rfl <;> rfl
theorem que_lower {w : World} {base base' size n : Nat} {v : Value} {xs : List Value} (h : Que w base size v n xs) (hb : base' ≤ base) : Que w base' size v n xs := by
  refine ⟨h.1, ?_⟩
  rcases h.2 with h0 | ⟨g, off, cap, e, h1, h2⟩
  · exact .inl h0
  · exact .inr ⟨g, off, cap, e, by omega, h2⟩
/-- An own row of numbers, as it is read. -/
theorem que_at {w : World} {base n c : Nat} {A : Option Addr} {l : List Nat} (h : Que w base 1 (.slice A n c) n (ic l)) : n = l.length ∧ ∀ j, j < n → ∃ g off, A = some ⟨g, off, none⟩ ∧ base ≤ g ∧ g < w.heap.size ∧ w.cell? ⟨g, off + j, none⟩ = some (.int .i64 (l.getD j 0 : Nat)) := by
  have hl : l.length = n := by have := h.1; rw [ic_len] at this; omega
  refine ⟨hl.symm, fun j hj => ?_⟩
  obtain ⟨g, off, cap, e, hb, hg, _, hr⟩ := h.row (by omega)
  injection e with e1 _ _
  exact ⟨g, off, e1, hb, hg, hr j _ (ic_get l j (by omega))⟩
def chS (T : Tr) (at_ : Int) (g : Nat) : List Nat := if isB T at_ g = true then kids T at_ else []
set_option maxHeartbeats 2000000 in
theorem Children_c (b m : Nat) (Z : List Nat) (T : Tr) (f : Nat → Value) (at_ : Int) (g : Nat) (w : World) (h : TrAt w b Z T m f) :
    Calls Try.prog 17 #[.pointer (some ⟨b, 0, none⟩), .agg #[.int .i64 at_, .int .u64 g]] w (Own2 w (kc T (chS T at_ g))) := by
  obtain ⟨B, hB⟩ : ∃ B, B = w.heap.size := ⟨_, rfl⟩
  obtain ⟨w0, hw0⟩ : ∃ w0, w0 = w.alloc (.cells #[.int .i64 at_, .int .u64 g] 26) := ⟨_, rfl⟩
  have hr := new_range w [.int .i64 at_, .int .u64 g] 26
  have HK0 : Hid (But [] w w0) := by show But _ _ _; rw [hw0]; exact (But.refl [] w).alloc _
  change (w.alloc (.cells #[.int .i64 at_, .int .u64 g] 26)).rangeAt _ _ _ at hr
  rw [← hw0, ← hB] at hr
  have HC1 : Hid (w0.cell? ⟨B, 0, none⟩ = some (.int .i64 at_)) := range_cells hr 0 _ rfl
  have HC2 : Hid (w0.cell? ⟨B, 1, none⟩ = some (.int .u64 g)) := range_cells hr 1 _ rfl
  have HBW := hid hB
  have H := hid h
  have H0 := hid (h.keep0 HK0.out)
  clear h hr
  go_enter Try.func17, Try.ntmps17
  go_upto_region 1 with fail
  rw [← hw0, ← hB]
  clear hw0 hB
  have hc1 := HC1.out
  have hc2 := HC2.out
  go_wp2_with fail
  clear hc1 hc2
  refine (there_c b m Z T f at_ g w0 H0.out).mono ?_
  rintro e w1 ⟨rfl, k1⟩
  have hc1 := cell_keep HC1.out k1 (by simp)
  have H1 := hid (H0.out.keep0 k1)
  have HK1 := hid (HK0.out.trans k1)
  clear k1
  by_cases hi : isB T at_ g = true
  · have HI : Hid (chS T at_ g = kids T at_) := if_pos hi
    rw [hi]
    clear hi
    go_wp2_with fail
    refine (derived_c b m Z T f at_ w1 H1.out).mono ?_
    rintro e w2 ⟨A, n, c, rfl, hq2, k2⟩
    obtain ⟨hn, hat⟩ := que_at hq2
    have hle := nums_le (kid T at_) 64
    change (kids T at_).length ≤ 64 at hle
    have H2 := hid (H1.out.keep0 k2)
    have HK2 := hid (HK1.out.trans k2)
    have HAT := hid hat
    have HLT : Hid (∀ j, j < n → (kids T at_).getD j 0 < 64) := fun j hj => ((nums_mem _ _ _).1 (getD_mem (L := kids T at_) (by omega))).1
    have HN := hid hn
    have hn64 : n ≤ 64 := by omega
    clear hq2 hat k2 hn hle hc1
    go_wp2
    go_loopg [5, 17] (n + 1) (fun g0 v i wx => ∃ (k q cv : Nat) (Av : Option Addr), k + g0 = n + 1 ∧ k ≤ n ∧ i = .int .i64 k ∧ v = .slice Av q cv ∧ Hid (Que wx w2.heap.size 2 (.slice Av q cv) q (kc T ((kids T at_).take k))) ∧ Hid (But [] w2 wx))
    case atStart => exact ⟨0, 0, 0, none, by omega, by omega, rfl, rfl, Que.nil _ _ _, But.refl _ _⟩
    case round =>
      obtain ⟨k, q, cv, Av, hkg, hk, rfl, rfl, HQ, HB⟩ := hrel
      by_cases hlt : k < n
      · have hkI : (k : Int) < (n : Int) := by omega
        obtain ⟨ga, oa, rfl, _, hga, hca⟩ := HAT.out k hlt
        have hca := cell_keep hca HB.out (by simp)
        have hp64 := HLT.out k hlt
        have hsn := kc_snoc T ((kids T at_).take k) ((kids T at_).getD k 0)
        rw [← take_snoc (by have := HN.out; omega)] at hsn
        generalize (kids T at_).getD k 0 = p at *
        have hq64 : q ≤ 64 := by
          have := HQ.out.1
          rw [kc_len, List.length_take] at this
          omega
        clear hga
        go_wp2_with fail
        refine (cap_c b m Z T f p hp64 wr (H2.out.keep0 HB.out)).mono ?_
        rintro e w3 ⟨rfl, k3⟩
        have hsz := (HB.out.trans k3).size
        obtain ⟨g', off', c', w5, hr5, hq5, hk5, ho5⟩ := que_push (P := Try.prog) 44 26 _ Try.underlying44 Try.infoCap rfl (by decide) (by decide) (HQ.out.keep0 k3) [.int .i64 (p : Nat), .int .u64 ((T p).gen : Nat)] rfl (one_cap _ _) hsz (by omega)
        rw [← hsn] at hq5
        have HQ5 := hid hq5
        have HB5 : Hid (But [] w2 w5) := but_own (HB.out.trans k3) hk5 (fun i hi => (HQ.out.lt i hi).1)
        have HR5 := hid hr5
        clear hr5 hq5 hk5 ho5 hsn HQ hca hsz
        generalize (T p).gen = gp at *
        go_wp2_with (first | (at_builtin; refine wpList_append_known _ rfl _ _ 44 rfl _ _ rfl rfl HR5.out ?_))
        go_roundg (n + 1 - (k + 1))
        case measure => omega
        case rel => exact ⟨k + 1, _, _, _, by omega, by omega, by go_num, rfl, HQ5.out, HB5.out⟩
      · obtain rfl : k = n := by omega
        go_wp2
        go_ret
        refine ⟨_, _, _, rfl, ?_, HK2.out.trans HB.out⟩
        have := HQ.out
        rw [List.take_of_length_le (by have := HN.out; omega)] at this
        rw [HI.out]
        exact que_lower this HK2.out.size
  · have hi : isB T at_ g = false := by simpa using hi
    have HI : Hid (chS T at_ g = []) := if_neg (by rw [hi]; simp)
    rw [hi]
    clear hi
    go_wp2
    go_ret
    exact ⟨_, _, _, rfl, by rw [HI.out]; exact Que.nil _ _ _, HK1.out⟩
end Go.Proofs.Ytlppfcoclpdanaa.Cs
