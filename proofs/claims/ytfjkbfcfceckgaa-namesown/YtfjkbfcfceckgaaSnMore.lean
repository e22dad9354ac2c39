/-
  Layer 10 (span): contracts of Len, All, First, over the translated program.
-/
import Derived.Test.YtfjkbfcfceckgaaSnBase
namespace Go.Proofs.Ytfjkbfcfceckgaa.Sn
open Go.ChangeShapes Go.WideShapes Go.ChangeAt Go.RowKit
open Wh
set_option linter.unusedVariables false
set_option maxRecDepth 20000

set_option maxHeartbeats 1000000 in
theorem len_c (A : Option Addr) (n c lo : Nat) (f : Nat → Bool) (w : World) (h : SetAt w lo A n f) :
    Calls Try.prog 23 #[.agg #[.slice A n c]] w fun e w' => e = .returned (.int .i64 ((nums f 1024).length : Nat)) ∧ But [] w w' := by
  have H := hid h
  have hn := h.n_le
  have HL := hid h.len
  obtain ⟨w0, hw0⟩ : ∃ w0, w0 = w.alloc (.cells #[.slice A n c] 51) := ⟨_, rfl⟩
  have HB0 : Hid (But [] w w0) := by show But _ _ _; rw [hw0]; exact (But.refl [] w).alloc _
  clear h
  go_enter Try.func23, Try.ntmps23
  go_wp2
  rw [← hw0]
  clear hw0
  go_loopg [3, 9] (n + 1) (fun g0 s i wx => ∃ k p : Nat, k + g0 = n + 1 ∧ k ≤ n ∧ i = .int .i64 k ∧ s = .int .i64 ((nums f p).length : Nat) ∧ p ≤ 1025 ∧ Hid ((edg f p).length = k * 2) ∧ Hid (But [] w wx))
  case atStart => exact ⟨0, 0, by omega, by omega, rfl, rfl, by omega, rfl, HB0⟩
  case round =>
    obtain ⟨k, p, hkg, hkn, rfl, rfl, hp, HE, HB⟩ := hrel
    by_cases hlt : k < n
    · obtain ⟨q0, q1, q2, q3, q4, q5, q6, q7⟩ := row_at H.out.lim hp HE.out (by have := HL.out; omega)
      obtain ⟨g, off, hA, -, hg, hc⟩ := H.out.at_ (k := k * 2) (by omega)
      have hca := cell_keep (hc (k * 2) (by omega)) HB.out (by simp)
      have hcb := cell_keep (hc (k * 2 + 1) (by omega)) HB.out (by simp)
      rw [← Nat.add_assoc] at hcb
      have hn1 : (nums f (ed f (k * 2 + 1) + 1)).length = (nums f p).length + (ed f (k * 2 + 1) - ed f (k * 2)) := by
        rw [nums_succ, q7]
        simp only [Bool.false_eq_true, if_false, List.append_nil]
        rw [nums_full (Nat.le_of_lt q2) q5, nums_none q1 q4]
      have hcl := nums_le f p
      generalize ed f (k * 2) = a at *
      generalize ed f (k * 2 + 1) = b at *
      have HE2 := hid q6
      obtain ⟨m, hm⟩ : ∃ m, m = (nums f p).length := ⟨_, rfl⟩
      rw [← hm] at hn1 hcl ⊢
      have HN1 := hid hn1
      have hs : (m : Int) + ((b : Int) - (a : Int)) = ((nums f (b + 1)).length : Nat) := by rw [hn1]; omega
      have hle : (nums f (b + 1)).length ≤ 3000 := by rw [hn1]; omega
      generalize hz : (nums f (b + 1)).length = z at *
      have HZ := hid hz
      subst hA
      clear hc q0 q4 q5 q6 q7 hm hn1 hz
      go_wp2
      go_roundg (n + 1 - (k + 1))
      case measure => omega
      case rel => exact ⟨k + 1, b + 1, by omega, by omega, by go_num, by rw [HZ.out], by omega, HE2.out, HB.out.alloc _⟩
    · obtain rfl : k = n := by omega
      have hE := row_end H.out.lim hp HE.out HL.out
      have he : (nums f 1024).length = (nums f p).length := by
        rcases Nat.lt_or_ge 1024 p with h4 | h4
        · obtain rfl : p = 1025 := by omega
          rw [show nums f 1025 = _ from nums_succ f 1024, H.out.lim 1024 (by omega)]; simp
        · rw [nums_none h4 (fun n h1 _ => hE n h1)]
      have HX := hid he
      clear hE he
      go_wp2
      go_ret
      exact ⟨by rw [HX.out]; rfl, HB.out⟩

/-- How a slice stands: none, or one of a block, with room for what it has. -/
def Fm (A : Option Addr) (n c : Nat) : Prop := (A = none ∧ n = 0 ∧ c = 0) ∨ ∃ g off, A = some ⟨g, off, none⟩ ∧ n ≤ c
theorem que_fm {w : World} {base size n c : Nat} {A : Option Addr} {xs : List Value} (h : Que w base size (.slice A n c) n xs) : Fm A n c := by
  rcases h.2 with ⟨h1, h2⟩ | ⟨g, off, cap, e, _, _, hnc, _⟩
  · injection h1 with h3 h4 h5
    exact .inl ⟨h3, h4, h5⟩
  · injection e with e1 e2 e3
    subst e1; subst e3
    exact .inr ⟨g, off, rfl, hnc⟩
/-- What a call that tells numbers ends in. -/
def Tells (w : World) (l : List Nat) (e : Ending) (w' : World) : Prop := ∃ A n c, e = .returned (.slice A n c) ∧ l.length = n ∧ Rd .i64 w' w.heap.size w'.heap.size A (il l) ∧ But [] w w' ∧ Fm A n c
/-- A set that was laid goes out through the result's own cell. -/
theorem gives_of {w w0 wx : World} {f : Nat → Bool} {b4 n : Nat} {v : Value} (hf : Lim f) (hq : Que wx w0.heap.size 2 v n (ic (E f))) (h0 : But [] w w0) (hb : But [] w0 wx) (hw : w.heap.size ≤ b4) (hlt : b4 < w0.heap.size) :
    Gives w f (.returned (.agg #[v])) (wx.setCell ⟨b4, 0, .none⟩ v) := by
  have hk : But [b4] wx (wx.setCell ⟨b4, 0, .none⟩ v) := (But.refl _ _).setCell (by simp) _
  have hq' := hq.keep hk (fun i hi => by have := (hq.lt i hi).1; simp; omega)
  obtain ⟨A, c, rfl, hs⟩ := SetAt.of_que hf hq'
  exact ⟨A, n, c, rfl, hs.wider h0.size, but_own (h0.trans hb) hk (fun i hi => by simp at hi; omega)⟩
end Go.Proofs.Ytfjkbfcfceckgaa.Sn
