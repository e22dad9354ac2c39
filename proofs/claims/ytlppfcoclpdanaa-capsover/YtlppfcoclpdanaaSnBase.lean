/-
  Layer 10 (span): how a set lies in the machine's memory; contracts of edge, Of, Len, First and of the rules, over the translated program.
-/
import Derived.Test.YtlppfcoclpdanaaProg
import Derived.Test.YtlppfcoclpdanaaSnMath
import Derived.Test.YtlppfcoclpdanaaWhole
import Derived.Deep.RegionHeld3
import Derived.Deep.CutBlock
import Derived.Deep.DeepCutAuto
namespace Go.Proofs.Ytlppfcoclpdanaa.Sn
open Go.ChangeShapes Go.WideShapes Go.ChangeAt Go.RowKit
open Wh
set_option linter.unusedVariables false
set_option maxRecDepth 20000

/-- A set lies at A, in n rows; its block, if there is one, lies from lo on. -/
structure SetAt (w : World) (lo : Nat) (A : Option Addr) (n : Nat) (f : Nat → Bool) : Prop where
  lim : Lim f
  len : (E f).length = n * 2
  rd : Rd .i64 w lo w.heap.size A (il (E f))
section
variable {w w' : World} {lo n : Nat} {A : Option Addr} {f : Nat → Bool}
theorem SetAt.n_le (h : SetAt w lo A n f) : n ≤ 512 := by have := E_le f; have := h.len; omega
theorem SetAt.at_ (h : SetAt w lo A n f) {k : Nat} (hk : k < n * 2) : ∃ g off, A = some ⟨g, off, none⟩ ∧ lo ≤ g ∧ g < w.heap.size ∧ ∀ j, j < n * 2 → w.cell? ⟨g, off + j, none⟩ = some (.int .i64 (ed f j : Nat)) := by
  have hl := h.len
  obtain ⟨g, off, e, h1, h2, h3⟩ := h.rd.at_ (j := k) (by rw [il_len]; omega)
  refine ⟨g, off, e, h1, h2, fun j hj => ?_⟩
  have := h3 j (by rw [il_len]; omega)
  rw [il_get _ _ (by omega)] at this
  rw [this]
  congr 3
  show (E f).getD j 0 = (E f).getD j 1024
  rw [List.getD_eq_getElem?_getD, List.getD_eq_getElem?_getD, List.getElem?_eq_getElem (by omega)]; rfl
theorem SetAt.keep {l : List Nat} (h : SetAt w lo A n f) (hk : But l w w') (hn : ∀ g off, A = some ⟨g, off, none⟩ → n ≠ 0 → g ∉ l) : SetAt w' lo A n f := by
  refine ⟨h.lim, h.len, ?_⟩
  have hl := h.len
  rcases h.rd with h0 | ⟨b, off, e, h1, h2, hc⟩
  · exact .inl h0
  · by_cases h0 : n = 0
    · left
      have : E f = [] := List.eq_nil_of_length_eq_zero (by omega)
      rw [this]; rfl
    · exact .inr ⟨b, off, e, h1, Nat.lt_of_lt_of_le h2 hk.size, fun j hj => (hk.cell (p := ⟨b, off + j, none⟩) h2 (hn b off e h0)).trans (hc j hj)⟩
theorem SetAt.keep0 (h : SetAt w lo A n f) (hk : But [] w w') : SetAt w' lo A n f := h.keep hk (fun _ _ _ _ => by simp)
theorem SetAt.wider {lo' : Nat} (h : SetAt w lo A n f) (hl : lo' ≤ lo) : SetAt w lo' A n f := ⟨h.lim, h.len, h.rd.wider hl (Nat.le_refl _)⟩
theorem SetAt.congr {g : Nat → Bool} (h : SetAt w lo A n f) (hg : ∀ k, f k = g k) : SetAt w lo A n g := by
  obtain rfl : f = g := funext hg
  exact h
/-- A set that was laid: its rows are a row of the call's own. -/
theorem SetAt.of_que {v : Value} (hf : Lim f) (h : Que w lo 2 v n (ic (E f))) : ∃ A c, v = .slice A n c ∧ SetAt w lo A n f := by
  obtain ⟨A, c, rfl, hl, hr⟩ := que_rd h
  exact ⟨A, c, rfl, hf, hl, hr⟩
theorem SetAt.nil (w : World) (lo : Nat) (hf : ∀ k, f k = false) : SetAt w lo .none 0 f := ⟨fun k _ => hf k, by rw [E_none hf]; rfl, .inl (by rw [E_none hf]; rfl)⟩
end

set_option maxHeartbeats 1000000 in
theorem edge_c (A : Option Addr) (n c lo i : Nat) (f : Nat → Bool) (w : World) (h : SetAt w lo A n f) (hi : i < 1000000) :
    Calls Try.prog 59 #[.agg #[.slice A n c], .int .i64 i] w fun e w' => e = .returned (.int .i64 (ed f i : Nat)) ∧ But [] w w' := by
  have hn := h.n_le
  have hl := h.len
  by_cases hlt : i < n * 2
  · obtain ⟨g, off, hA, -, hg, hc⟩ := h.at_ hlt
    have hc1 := hc i hlt
    rw [show off + i = off + i / 2 * 2 + i % 2 by omega] at hc1
    have he1 : Int.tdiv (i : Int) 2 = (i / 2 : Nat) := by rw [Int.tdiv_eq_ediv_of_nonneg (by omega)]; omega
    have he2 : Int.tmod (i : Int) 2 = (i % 2 : Nat) := by rw [Int.tmod_eq_emod_of_nonneg (by omega)]; omega
    have hq : i / 2 < n := by omega
    have hr : i % 2 < 2 := by omega
    generalize i / 2 = q at *
    generalize i % 2 = r at *
    generalize ed f i = x at *
    subst hA
    clear h hc hl
    go_enter Try.func59, Try.ntmps59
    go_wp2
    go_ret
    exact ⟨rfl, (But.refl [] w).alloc _⟩
  · have he : ed f i = 1024 := by
      unfold ed
      rw [List.getD_eq_getElem?_getD, List.getElem?_eq_none (by omega)]; rfl
    rw [he]
    clear h he
    go_enter Try.func59, Try.ntmps59
    go_wp2
    go_ret
    exact ⟨rfl, (But.refl [] w).alloc _⟩

theorem Try.infoRow : (Try.prog.info? 75).map (fun i => (i.zero, i.size, i.bytes)) = some (some (.agg #[.int .i64 0, .int .i64 0]), 2, 16) := by kernel_rfl
theorem Try.infoInt : (Try.prog.info? 3).map (fun i => (i.zero, i.size, i.bytes)) = some (some (.int .i64 0), 1, 8) := by kernel_rfl
theorem with1_c (a b : Bool) (w : World) : Calls Try.prog 60 #[.bool a, .bool b] w fun e w' => e = .returned (.bool (a || b)) ∧ w = w' := by
  cases a <;> cases b <;> (go_enter Try.func60, Try.ntmps60; go_wp2; go_ret; exact ⟨rfl, rfl⟩)
theorem without1_c (a b : Bool) (w : World) : Calls Try.prog 55 #[.bool a, .bool b] w fun e w' => e = .returned (.bool (a && !b)) ∧ w = w' := by
  cases a <;> cases b <;> (go_enter Try.func55, Try.ntmps55; go_wp2; go_ret; exact ⟨rfl, rfl⟩)
theorem both1_c (a b : Bool) (w : World) : Calls Try.prog 61 #[.bool a, .bool b] w fun e w' => e = .returned (.bool (a && b)) ∧ w = w' := by
  cases a <;> cases b <;> (go_enter Try.func61, Try.ntmps61; go_wp2; go_ret; exact ⟨rfl, rfl⟩)
theorem hid {p : Prop} (h : p) : Hid p := h
/-- What a call that tells a set ends in. -/
def Gives (w : World) (f : Nat → Bool) (e : Ending) (w' : World) : Prop := ∃ A n c, e = .returned (.agg #[.slice A n c]) ∧ SetAt w' w.heap.size A n f ∧ But [] w w'
theorem range1 {w : World} {b o : Nat} {v : Value} (h : w.cell? ⟨b, o, none⟩ = some v) : w.rangeAt b o [v] := fun j u hu => by
  cases j with
  | zero => simp at hu; subst hu; exact h
  | succ j => simp at hu
theorem sizeSet : (Try.prog.info? 31).map (·.size) = some 1 := by kernel_rfl
set_option maxHeartbeats 1000000 in
theorem of_c (a b : Int) (w : World) :
    Calls Try.prog 8 #[.int .i64 a, .int .i64 b] w (Gives w (one a b)) := by
  obtain ⟨p, hp⟩ : ∃ p : Nat, max a 0 = (p : Int) := ⟨(max a 0).toNat, by omega⟩
  by_cases hlt : (p : Int) < min b 1024
  · obtain ⟨q, hq⟩ : ∃ q : Nat, min b 1024 = (q : Int) := ⟨(min b 1024).toNat, by omega⟩
    have hE : E (one a b) = [p, q] := E_one (by omega) (by omega) (fun n => one_some hp hq n)
    have HE : Hid (E (one a b) = [p, q]) := hE
    have hpq : p < q := by omega
    have hp' : (if a < 0 then 0 else a) = (p : Int) := by split <;> omega
    have hq' : (if (1024 : Int) < b then 1024 else b) = (q : Int) := by split <;> omega
    rw [hq] at hlt
    have hR : Rd .i64 ((w.alloc (.cells #[.slice (some ⟨w.heap.size + 1, 0, none⟩) 1 1] 31)).alloc (.cells #[.int .i64 p, .int .i64 q] 75)) w.heap.size ((w.alloc (.cells #[.slice (some ⟨w.heap.size + 1, 0, none⟩) 1 1] 31)).alloc (.cells #[.int .i64 p, .int .i64 q] 75)).heap.size (some ⟨w.heap.size + 1, 0, none⟩) (il [p, q]) := by
      refine .inr ⟨_, _, rfl, by omega, by simp, fun j hj => ?_⟩
      have hn := new_range (w.alloc (.cells #[.slice (some ⟨w.heap.size + 1, 0, none⟩) 1 1] 31)) (ic [p, q]) 75
      rw [show (w.alloc (.cells #[.slice (some ⟨w.heap.size + 1, 0, none⟩) 1 1] 31)).heap.size = w.heap.size + 1 by simp] at hn
      rw [il_get _ _ (by rwa [il_len] at hj)]
      exact hn j _ (ic_get _ _ (by rwa [il_len] at hj))
    have HR := hid hR
    clear hE hR hp hq
    go_enter Try.func8, Try.ntmps8
    go_wp2
    refine bodyPost_ret (results_range1 rfl _ _ w.heap.size 0 [.slice (some ⟨w.heap.size + 1, 0, none⟩) 1 1] _ rfl (range1 (by simp)) Try.underlying31 rfl sizeSet) rfl ?_
    exact ⟨_, _, _, rfl, ⟨one_lim a b, by rw [HE.out]; rfl, by rw [HE.out]; exact HR.out⟩, ((But.refl [] w).alloc _).alloc _⟩
  · have hno : ∀ n, one a b n = false := one_none (by omega)
    have HN : Hid (∀ n, one a b n = false) := hno
    have hp' : (if a < 0 then 0 else a) = (p : Int) := by split <;> omega
    obtain ⟨q, hq⟩ : ∃ q : Int, min b 1024 = q := ⟨_, rfl⟩
    have hq' : (if (1024 : Int) < b then 1024 else b) = q := by split <;> omega
    rw [hq] at hlt
    clear hno hp hq
    go_enter Try.func8, Try.ntmps8
    go_wp2
    refine bodyPost_ret (results_range1 rfl _ _ w.heap.size 0 [.slice none 0 0] _ rfl (range1 (by simp)) Try.underlying31 rfl sizeSet) rfl ?_
    exact ⟨_, _, _, rfl, SetAt.nil _ _ HN.out, (But.refl [] w).alloc _⟩
end Go.Proofs.Ytlppfcoclpdanaa.Sn
