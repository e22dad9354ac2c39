/-
  Layer 15 (bind): how the document's table lies in the machine's memory; contracts of its May, Put, Get, over the translated program.
-/
import Derived.Test.YtiklneamdfgahaaBdBase
import Derived.Test.YtiklneamdfgahaaWhole
namespace Go.Proofs.Ytiklneamdfgahaa.Bd
open Go.ChangeShapes Go.WideShapes Go.ChangeAt Go.RowKit
open Wh
set_option linter.unusedVariables false
set_option maxRecDepth 20000

/-- A page's three cells. -/
def rb (v : Option Fw) : List Value := [.bool v.isSome, .int .i64 (v.getD (0, false)).1, .bool (v.getD (0, false)).2]
theorem rb_len (v : Option Fw) : (rb v).length = 3 := rfl
theorem rb_one (v : Option Fw) : ∀ u ∈ rb v, u.oneCell' = true := by
  intro u hu
  simp only [rb, List.mem_cons, List.not_mem_nil, or_false] at hu
  rcases hu with rfl | rfl | rfl <;> rfl
/-- What the cells of the document's table hold. -/
def rv (T : Tb) (j : Nat) : Value := (rb (T (j / 3))).getD (j % 3) undef
theorem rv_at (T : Tb) (k i : Nat) (hi : i < 3) : (rb (T k))[i]? = some (rv T (k * 3 + i)) := by
  unfold rv
  rw [show (k * 3 + i) / 3 = k by omega, show (k * 3 + i) % 3 = i by omega]
  have : i < (rb (T k)).length := hi
  simp [List.getD, this]
/-- Block b is the document's table. -/
def RfAt (w : World) (b : Nat) (T : Tb) : Prop := VB w b 6144 (rv T)
theorem RfAt.lt {w : World} {b : Nat} {T : Tb} (h : RfAt w b T) : b < w.heap.size := VB.lt h (by omega)
theorem RfAt.keep {l : List Nat} {w w' : World} {b : Nat} {T : Tb} (h : RfAt w b T) (k : But l w w') (hn : b ∉ l) : RfAt w' b T := VB.keep h k hn
theorem RfAt.row {w : World} {b : Nat} {T : Tb} (h : RfAt w b T) (s p : Nat) (hs : s < 64) (hp : p < 32) : w.rangeAt b (s * 96 + p * 3) (rb (T (s * 32 + p))) :=
  VB.range h _ (by rw [rb_len]; omega) fun i hi => by
    rw [rb_len] at hi
    rw [rv_at T _ i hi]
    congr 2
    omega
theorem RfAt.there {w : World} {b : Nat} {T : Tb} (h : RfAt w b T) (s p : Nat) (hs : s < 64) (hp : p < 32) : w.there b (s * 96 + p * 3) 3 := VB.there h (by omega)
theorem RfAt.set {w : World} {b : Nat} {T : Tb} (h : RfAt w b T) (s p : Nat) (hs : s < 64) (hp : p < 32) (v : Option Fw) : RfAt (w.setCells b (s * 96 + p * 3) (rb v)) b (up T (s * 32 + p) v) :=
  VB.congr (VB.sets (o := s * 96 + p * 3) h (rb v) (by rw [rb_len]; omega)) (fun j hj => by
    rw [rb_len]
    by_cases hc : s * 96 + p * 3 ≤ j ∧ j < s * 96 + p * 3 + 3
    · rw [if_pos hc]
      unfold rv
      rw [show j / 3 = s * 32 + p by omega, up_same, show j % 3 = j - (s * 96 + p * 3) by omega]
    · rw [if_neg hc]
      unfold rv
      rw [up_else _ _ _ _ (by omega)])
/-- The cells of a new one. -/
def rz : List Value := (List.range 6144).map fun j => rv no j
theorem rz_len : rz.length = 6144 := by simp [rz]
theorem rz_get (j : Nat) (h : j < 6144) : rz[j]? = some (rv no j) := by simp [rz, h]
theorem bTab : Try.prog.built 31 [] = some rz.toArray := by kernel_rfl
theorem rzs : rz.toArray.size = 6144 := by simp [rz_len]
attribute [irreducible] rz
theorem rz_new (w : World) (t : TypeId) : RfAt (w.alloc (.cells rz.toArray t)) w.heap.size no :=
  VB.new w rz.toArray t 6144 rzs _ (fun j hj => by have := rz_get j hj; simpa using this)
/-- The document's May. -/
def mayB (s p : Int) : Bool := decide (hsP s p)
theorem may_c (s p : Int) (w : World) :
    Calls Try.prog 24 #[.int .i64 s, .int .i64 p] w fun r w' => r = .returned (.bool (mayB s p)) ∧ w = w' := by
  by_cases h0 : 0 ≤ s
  · by_cases h1 : s < 64
    · by_cases h2 : 0 ≤ p
      · by_cases h3 : p < 32
        · have HV : Hid (mayB s p = true) := decide_eq_true ⟨⟨h0, h1⟩, h2, h3⟩
          rw [HV.out]
          go_enter Try.func24, Try.ntmps24
          go_wp2
          go_ret
          exact ⟨rfl, rfl⟩
        · have HV : Hid (mayB s p = false) := decide_eq_false (fun h => h3 h.2.2)
          rw [HV.out]
          have h' : decide (p < 32) = false := decide_eq_false h3
          go_enter Try.func24, Try.ntmps24
          go_wp2
          go_ret
          exact ⟨rfl, rfl⟩
      · have HV : Hid (mayB s p = false) := decide_eq_false (fun h => h2 h.2.1)
        rw [HV.out]
        have h' : decide (0 ≤ p) = false := decide_eq_false h2
        go_enter Try.func24, Try.ntmps24
        go_wp2
        go_ret
        exact ⟨rfl, rfl⟩
    · have HV : Hid (mayB s p = false) := decide_eq_false (fun h => h1 h.1.2)
      rw [HV.out]
      have h' : decide (s < 64) = false := decide_eq_false h1
      go_enter Try.func24, Try.ntmps24
      go_wp2
      go_ret
      exact ⟨rfl, rfl⟩
  · have HV : Hid (mayB s p = false) := decide_eq_false (fun h => h0 h.1.1)
    rw [HV.out]
    have h' : decide (0 ≤ s) = false := decide_eq_false h0
    go_enter Try.func24, Try.ntmps24
    go_wp2
    go_ret
    exact ⟨rfl, rfl⟩
theorem infoRB : (Try.prog.info? 27).map (·.size) = some 3 := by kernel_rfl
theorem zRB (w : World) : (zeroValue 27).run Try.prog w = .ok (.agg #[.bool false, .int .i64 0, .bool false]) w := by kernel_rfl
theorem rget_yes (b : Nat) (T : Tb) (s p : Nat) (w : World) (h : RfAt w b T) (hs : s < 64) (hp : p < 32) :
    Calls Try.prog 9 #[.pointer (some ⟨b, 0, none⟩), .int .i64 s, .int .i64 p] w fun r w' => r = .returned (.agg (rb (T (s * 32 + p))).toArray) ∧ But [] w w' := by
  have HV : Hid (mayB s p = true) := decide_eq_true ⟨⟨by omega, by omega⟩, by omega, by omega⟩
  have hbl := h.lt
  have HR := hid (range_keep (h.row s p hs hp) ((But.refl [] w).alloc (.cells #[.bool false, .int .i64 0, .bool false] 27)) (by simp))
  have HT := hid (there_new w #[.bool false, .int .i64 0, .bool false] 27 3 rfl)
  have HK : Hid (But [] w (w.alloc (.cells #[.bool false, .int .i64 0, .bool false] 27))) := (But.refl [] w).alloc _
  have hz := zRB
  have hs' : (s : Int) < 64 := by omega
  have hp' : (p : Int) < 32 := by omega
  obtain ⟨g, hg⟩ : ∃ g, g = w.heap.size := ⟨_, rfl⟩
  have HG : Hid (g = w.heap.size) := hg
  rw [← hg] at HT
  clear h
  generalize T (s * 32 + p) = x at HR ⊢
  go_enter Try.func9, Try.ntmps9
  go_upto_region 1 with fail
  rw [← hg]
  clear hg
  generalize w.alloc (.cells #[.bool false, .int .i64 0, .bool false] 27) = w1 at *
  go_wp2_with (first
    | (go_at_call 24; refine (may_c s p _).mono ?_; rw [HV.out]; rintro r w1 ⟨rfl, rfl⟩)
    | (refine wpList_load_mid rfl 27 _ rfl b (s * 96 + p * 3) rfl (rb x) _ HR.out Try.underlying27 rfl infoRB ?_)
    | (refine wpList_store_mid rfl 27 _ _ rfl g 0 (rb x).toArray rfl rfl HT.out infoRB (all_oneCell_toArray (rb_one x)) ?_))
  have HR2 := World.rangeAt_setCells_same w1 g 0 (rb x) HT.out
  refine bodyPost_ret (results_range1 rfl _ _ g 0 (rb x) _ rfl HR2 Try.underlying27 rfl infoRB) rfl ?_
  exact ⟨rfl, HK.out.setCells (.inr (by have := HG.out; omega)) _ _⟩
theorem rget_no (b : Nat) (s p : Int) (w : World) (h : ¬ hsP s p) :
    Calls Try.prog 9 #[.pointer (some ⟨b, 0, none⟩), .int .i64 s, .int .i64 p] w fun r w' => r = .returned (.agg (rb none).toArray) ∧ But [] w w' := by
  have HV : Hid (mayB s p = false) := decide_eq_false h
  have hz := zRB
  have HR := hid (new_range w (rb none) 27)
  clear h
  go_enter Try.func9, Try.ntmps9
  go_wp2_with (refine (may_c s p _).mono ?_; rw [HV.out]; rintro r w1 ⟨rfl, rfl⟩)
  refine bodyPost_ret (results_range1 rfl _ _ w.heap.size 0 (rb none) _ rfl HR.out Try.underlying27 rfl infoRB) rfl ?_
  exact ⟨rfl, (But.refl [] w).alloc _⟩
theorem rget_c (b : Nat) (T : Tb) (s p : Int) (w : World) (h : RfAt w b T) :
    Calls Try.prog 9 #[.pointer (some ⟨b, 0, none⟩), .int .i64 s, .int .i64 p] w fun r w' => r = .returned (.agg (rb (gt T s p)).toArray) ∧ But [] w w' := by
  by_cases hs : hsP s p
  · have hs' := hs
    obtain ⟨⟨h0, h1⟩, h2, h3⟩ := hs'
    rw [gt_in hs]
    have := rget_yes b T s.toNat p.toNat w h (by omega) (by omega)
    rwa [show ((s.toNat : Nat) : Int) = s by omega, show ((p.toNat : Nat) : Int) = p by omega] at this
  · rw [gt_out hs]
    exact rget_no b s p w hs
/-- What a call leaves that may write the document's table. -/
def Rl (b : Nat) (T : Tb) (w w' : World) : Prop := RfAt w' b T ∧ But [b] w w'
theorem rput_yes (b : Nat) (T : Tb) (s p : Nat) (f : Int) (u : Bool) (w : World) (h : RfAt w b T) (hs : s < 64) (hp : p < 32) (hf : frP f) :
    Calls Try.prog 21 #[.pointer (some ⟨b, 0, none⟩), .int .i64 s, .int .i64 p, .int .i64 f, .bool u] w fun r w' => r = .returned (.bool true) ∧ Rl b (up T (s * 32 + p) (some (f, u))) w w' := by
  have HV : Hid (mayB s p = true) := decide_eq_true ⟨⟨by omega, by omega⟩, by omega, by omega⟩
  have HT := hid (h.there s p hs hp)
  have HW : Hid (Rl b (up T (s * 32 + p) (some (f, u))) w (w.setCells b (s * 96 + p * 3) (rb (some (f, u))))) := ⟨h.set s p hs hp _, (But.refl [b] w).setCells (.inl (by simp)) _ _⟩
  obtain ⟨hf0, hf1⟩ := hf
  have hs' : (s : Int) < 64 := by omega
  have hp' : (p : Int) < 32 := by omega
  have hf0' : decide (f < 0) = false := decide_eq_false (by omega)
  have hf1' : decide (511 < f) = false := decide_eq_false (by omega)
  clear h
  go_enter Try.func21, Try.ntmps21
  go_wp2_with (first
    | (go_at_call 24; refine (may_c s p _).mono ?_; rw [HV.out]; rintro r w1 ⟨rfl, rfl⟩)
    | (refine wpList_store_mid rfl 27 _ _ rfl b (s * 96 + p * 3) (rb (some (f, u))).toArray rfl rfl HT.out infoRB (all_oneCell_toArray (rb_one _)) ?_))
  go_ret
  exact ⟨rfl, HW.out⟩
theorem rput_no (b : Nat) (s p f : Int) (u : Bool) (w : World) (h : ¬ ptP s p f) :
    Calls Try.prog 21 #[.pointer (some ⟨b, 0, none⟩), .int .i64 s, .int .i64 p, .int .i64 f, .bool u] w fun r w' => r = .returned (.bool false) ∧ w = w' := by
  by_cases hs : hsP s p
  · have HV : Hid (mayB s p = true) := decide_eq_true hs
    by_cases h0 : f < 0
    · clear h hs
      go_enter Try.func21, Try.ntmps21
      go_wp2_with (go_at_call 24; refine (may_c s p _).mono ?_; rw [HV.out]; rintro r w1 ⟨rfl, rfl⟩)
      go_ret
      exact ⟨rfl, rfl⟩
    · have h1 : 511 < f := by
        apply Decidable.byContradiction
        intro h1
        exact h ⟨hs, by omega, by omega⟩
      have h0' : decide (f < 0) = false := decide_eq_false h0
      clear h hs
      go_enter Try.func21, Try.ntmps21
      go_wp2_with (go_at_call 24; refine (may_c s p _).mono ?_; rw [HV.out]; rintro r w1 ⟨rfl, rfl⟩)
      go_ret
      exact ⟨rfl, rfl⟩
  · have HV : Hid (mayB s p = false) := decide_eq_false hs
    clear h hs
    go_enter Try.func21, Try.ntmps21
    go_wp2_with (go_at_call 24; refine (may_c s p _).mono ?_; rw [HV.out]; rintro r w1 ⟨rfl, rfl⟩)
    go_ret
    exact ⟨rfl, rfl⟩
theorem rput_c (b : Nat) (T : Tb) (s p f : Int) (u : Bool) (w : World) (h : RfAt w b T) :
    Calls Try.prog 21 #[.pointer (some ⟨b, 0, none⟩), .int .i64 s, .int .i64 p, .int .i64 f, .bool u] w fun r w' => r = .returned (.bool (ptB s p f)) ∧ Rl b (pt T s p (f, u)) w w' := by
  by_cases hc : ptP s p f
  · rw [show ptB s p f = true from decide_eq_true hc, show pt T s p (f, u) = up T (pl s p) (some (f, u)) from if_pos hc]
    obtain ⟨⟨⟨h0, h1⟩, h2, h3⟩, hf⟩ := hc
    have := rput_yes b T s.toNat p.toNat f u w h (by omega) (by omega) hf
    rwa [show ((s.toNat : Nat) : Int) = s by omega, show ((p.toNat : Nat) : Int) = p by omega] at this
  · rw [show ptB s p f = false from decide_eq_false hc, show pt T s p (f, u) = T from if_neg hc]
    refine (rput_no b s p f u w hc).mono ?_
    rintro r w' ⟨rfl, rfl⟩
    exact ⟨rfl, h, But.refl _ _⟩
end Go.Proofs.Ytiklneamdfgahaa.Bd
