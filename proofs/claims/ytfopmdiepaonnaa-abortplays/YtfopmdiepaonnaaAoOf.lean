/-
  Layer 17 (abort): the contract of listOf, over the translated program.
-/
import Derived.Test.YtfopmdiepaonnaaAoBase
namespace Go.Proofs.Ytfopmdiepaonnaa.Ao
open Go.ChangeShapes Go.WideShapes Go.ChangeAt Go.RowKit
open Wh
set_option linter.unusedVariables false
set_option maxRecDepth 20000

theorem wpList_build' {P : Program} {ops : Array Oper} {rest : List Oper} {o : Oper} {a : Act} {w : World} {Q : Exit → Act → World → Prop} (hg : o.guard = none) (t : TypeId) (parts : List (Nat × Operand)) (ho : o.op = .build t parts.toArray)
    (cells : Array Value) (hf : P.built t (parts.map fun (i, x) => (i, a.eval x)) = some cells)
    (h : wpList P ops Q rest (a.put o.dst (.agg cells)) w) : wpList P ops Q (o :: rest) a w := by
  have e : (parts.toArray.map fun (i, x) => (i, a.eval x)).toList = parts.map fun (i, x) => (i, a.eval x) := by simp
  exact wpList_build hg t parts.toArray ho (by rw [e, hf]; rfl) (by rw [e, hf]; exact h)
/-- copy of nothing. -/
theorem run_copy_no {P : Program} (w : World) (dT sT ty elem : TypeId) (b o dLen dCap c z : Nat) (hu : P.underlying dT = some (.slice elem)) (hs : (P.info? elem).map (·.size) = some z) :
    (Builtin.copy_ #[dT, sT] ty #[.slice (some ⟨b, o, none⟩) dLen dCap, .slice none 0 c]).run P w = .ok (goInt 0) w := by
  cases hq : P.info? elem with
  | none => simp [hq] at hs
  | some i =>
    have hst := run_storeCells_cells (P := P) b o [] 0 w (fun j hj => by simp at hj) (fun j hj => by simp at hj) (fun v hv => by cases hv)
    rw [Nat.add_zero] at hst
    simp [Builtin.copy_, run_underlying hu, Builtin.lenOf, Builtin.firstCells, sizeOf, typeInfo, hq, hst, World.setCells]
theorem run_full (w : World) (b : Nat) : (Instr.sliceAt 25 (.pointer (some ⟨b, 0, none⟩)) none none none).run Try.prog w = .ok (.slice (some ⟨b, 0, none⟩) 64 64) w := by
  have ha : Try.prog.arrayLen 25 = 64 := by kernel_rfl
  have he : Try.prog.elem 25 = wT := by kernel_rfl
  obtain ⟨i0, hi, hz0, hz1, hz2⟩ := info_parts infoWant
  rw [run_sliceAt_array_all w _ _ (by rw [ha, he]; exact Try.underlying25), ha, he]
  simp [sizeOf, typeInfo, hi, slicedAt, Addr.add_lit]
/-- The copy of a list's wants into a new one's room. -/
theorem run_lay {w : World} {b n c : Nat} {A : Option Addr} {l : List Wn} (hv : VB w b 257 fun j => .int .i64 (if j < 256 then 0 else n)) (h : Li w A l) (hn : l.length = n) (hm : n ≤ 64) (hA : n = 0 ∨ True) :
    ∃ v' w', (Builtin.copy_ #[42, 42] 3 #[.slice (some ⟨b, 0, none⟩) 64 64, .slice A n c]).run Try.prog w = .ok v' w' ∧ LtAt w' b l ∧ But [b] w w' := by
  have key : ∀ g off, A = some ⟨g, off, none⟩ → w.rangeAt g off (wl l) → ∃ v' w', (Builtin.copy_ #[42, 42] 3 #[.slice (some ⟨b, 0, none⟩) 64 64, .slice A n c]).run Try.prog w = .ok v' w' ∧ LtAt w' b l ∧ But [b] w w' := by
    rintro g off rfl hr
    have hlen : (wl l).length = n * 4 := by rw [wl_len, hn]
    refine ⟨_, _, run_copy_wide w 42 42 3 wT b 0 64 64 ⟨g, off, none⟩ n c 4 n (wl l) Try.underlying42 szWant (by show min _ _ = _; omega) hlen (fun j v hj => by rw [Addr.add_lit]; exact hr j v hj) (hv.there (by omega)) (wl_one l), ?_, (But.refl [b] w).setCells (by simp) _ _⟩
    refine (hv.sets (o := 0) (wl l) (by omega)).congr fun j hj => ?_
    show (if 0 ≤ j ∧ j < 0 + (wl l).length then (wl l).getD (j - 0) undef else Value.int .i64 (if j < 256 then 0 else n)) = .int .i64 (lf l j)
    rw [hlen]
    by_cases h1 : j < n * 4
    · have := wl_get l (j / 4) (j % 4) (by omega) (by omega)
      rw [show j / 4 * 4 + j % 4 = j by omega] at this
      rw [if_pos ⟨Nat.zero_le _, by omega⟩, List.getD_eq_getElem?_getD, Nat.sub_zero, this, ← lf_at l (by omega) (by omega), show j / 4 * 4 + j % 4 = j by omega]
      rfl
    · rw [if_neg (by omega)]
      by_cases h2 : j < 256
      · rw [if_pos h2]
        unfold lf
        rw [if_pos h2, List.getD_eq_getElem?_getD, List.getElem?_eq_none (by omega)]
        show Value.int .i64 0 = .int .i64 (nw.at_ (j % 4))
        unfold nw Wn.at_
        split <;> rfl
      · rw [if_neg h2, show j = 256 by omega, lf_n, hn]
  rcases h with rfl | ⟨g, off, e, h1, h2⟩
  · obtain rfl : n = 0 := by rw [← hn]; rfl
    have hz : LtAt w b [] := hv.congr fun j hj => by
      show Value.int .i64 (if j < 256 then 0 else (0 : Nat)) = .int .i64 (lf [] j)
      by_cases h2 : j < 256
      · rw [if_pos h2]
        unfold lf
        rw [if_pos h2]
        show Value.int .i64 0 = .int .i64 (nw.at_ (j % 4))
        unfold nw Wn.at_
        split <;> rfl
      · rw [if_neg h2, show j = 256 by omega, lf_n]; rfl
    cases A with
    | none => exact ⟨_, _, run_copy_no w _ _ _ wT b 0 64 64 c 4 Try.underlying42 szWant, hz, But.refl _ _⟩
    | some a =>
      refine ⟨_, _, run_copy_wide w 42 42 3 wT b 0 64 64 a 0 c 4 0 [] Try.underlying42 szWant (by show min _ _ = _; omega) rfl (fun j v hj => by simp at hj) (fun j hj => by simp at hj) (fun v hv => by cases hv), ?_, (But.refl [b] w).setCells (by simp) _ _⟩
      exact hz
  · exact key g off e h2
theorem nc_vb (w : World) (n : Nat) : VB (w.alloc (.cells (nc n).toArray lT)) w.heap.size 257 fun j => .int .i64 (if j < 256 then 0 else n) :=
  VB.new w _ lT 257 (by rw [List.size_toArray, nc_len]) _ fun j hj => by rw [List.getElem?_toArray]; exact nc_get n j hj
set_option maxHeartbeats 1000000 in
theorem listOf_c (A : Option Addr) (n c : Nat) (l : List Wn) (w : World) (h : Li w A l) (hn : l.length = n) (hm : n ≤ 64) :
    Calls Try.prog 22 #[.slice A n c] w fun e w' => e = .returned (vv l) ∧ But [] w w' := by
  have hz := zList
  obtain ⟨b, hb⟩ : ∃ b, b = w.heap.size := ⟨_, rfl⟩
  obtain ⟨wa, hwa⟩ : ∃ wa, wa = w.alloc (.cells (lc []).toArray lT) := ⟨_, rfl⟩
  have HB0 : Hid (But [] w wa) := by show But _ _ _; rw [hwa]; exact (But.refl [] w).alloc _
  have hv := lt_new w []
  rw [← hwa, ← hb] at hv
  have HT0 := hid hv.there
  have HS0 : Hid (wa.heap.size = b + 1) := by show _ = _; rw [hwa, hb]; simp
  have HBW := hid hb
  obtain ⟨wb, hwb⟩ : ∃ wb, wb = wa.alloc (.cells (nc n).toArray lT) := ⟨_, rfl⟩
  obtain ⟨g, hg⟩ : ∃ g, g = wa.heap.size := ⟨_, rfl⟩
  have hnv := nc_vb wa n
  rw [← hwb, ← hg] at hnv
  have k1 : But [] wa wb := by rw [hwb]; exact (But.refl [] wa).alloc _
  obtain ⟨v', w', hr, hl', k2⟩ := run_lay (c := c) hnv ((h.keep HB0.out).keep k1) hn hm (.inr trivial)
  have HCP := hid hr
  have HR := hid hl'.all
  have HK : Hid (But [] wa w') := but_own k1 k2 (fun i hi => by simp at hi; omega)
  have HGB : Hid (g = b + 1) := by rw [hg]; exact HS0
  have HT1 : Hid (w'.there b 0 (lc l).toArray.size) := by
    show World.there _ _ _ _
    rw [lc_size]
    exact there_keep HT0.out HK.out (by have := HS0.out; omega) (by simp)
  have hbn := bNc n
  have hfull := fun w b => run_full w b
  clear hv hnv k1 k2 hr hl' h hn
  unfold vv
  go_enter Try.func22, Try.ntmps22
  go_upto_region 1 with fail
  rw [← hwa, ← hb]
  clear hwa hb
  go_upto_region 2 with (first
    | (refine wpList_build' rfl lT [(1, .tmp 5)] rfl (nc n).toArray ?hb ?_; case hb => exact bNc n)
    | (refine wpList_store_new rfl lT _ _ rfl (lc []).toArray (nc n).toArray rfl rfl (iNc _) (by rw [lc_size, List.size_toArray, nc_len]) (nc_all _) ?_))
  rw [← hwb, ← hg]
  clear hwb hg hbn hz
  go_wp2_with (first
    | (refine wpList_copy_known _ rfl _ _ 42 42 rfl _ _ rfl rfl HCP.out ?_)
    | (refine wpList_load_mid rfl lT _ rfl g 0 rfl (lc l) _ HR.out Try.underlying27 rfl (iList _) ?_)
    | (refine wpList_store_mid rfl lT _ _ rfl b 0 (lc l).toArray rfl rfl ?ht (iList' _) (lc_all _) ?_; case ht => exact HT1.out))
  refine bodyPost_ret (results_range1 rfl _ _ b 0 (lc l) _ rfl (World.rangeAt_setCells_same _ _ _ _ (by have := HT1.out; rwa [lc_size, ← lc_len l] at this)) Try.underlying27 rfl (iList _)) rfl ?_
  exact ⟨rfl, but_own (HB0.out.trans HK.out) ((But.refl [b] _).setCells (by simp) _ _) (fun i hi => by simp at hi; have := HBW.out; omega)⟩
end Go.Proofs.Ytfopmdiepaonnaa.Ao
