/-
  Layer 10 (span): contracts of Len, All, First, over the translated program.
-/
import Derived.Test.YtlppfcoclpdanaaSnBase
namespace Go.Proofs.Ytlppfcoclpdanaa.Sn
open Go.ChangeShapes Go.WideShapes Go.ChangeAt Go.RowKit
open Wh
set_option linter.unusedVariables false
set_option maxRecDepth 20000

set_option maxHeartbeats 1000000 in
theorem len_c (A : Option Addr) (n c lo : Nat) (f : Nat → Bool) (w : World) (h : SetAt w lo A n f) :
    Calls Try.prog 18 #[.agg #[.slice A n c]] w fun e w' => e = .returned (.int .i64 ((nums f 1024).length : Nat)) ∧ But [] w w' := by
  have H := hid h
  have hn := h.n_le
  have HL := hid h.len
  obtain ⟨w0, hw0⟩ : ∃ w0, w0 = w.alloc (.cells #[.slice A n c] 31) := ⟨_, rfl⟩
  have HB0 : Hid (But [] w w0) := by show But _ _ _; rw [hw0]; exact (But.refl [] w).alloc _
  clear h
  go_enter Try.func18, Try.ntmps18
  go_wp2
  rw [← hw0]
  clear hw0
  go_loopg [3, 9] (n + 1) (fun g0 s i wx => ∃ k p : Nat, k + g0 = n + 1 ∧ k ≤ n ∧ i = .int .i64 k ∧ s = .int .i64 ((nums f p).length : Nat) ∧ p ≤ 1025 ∧ Hid ((edg f p).length = k * 2) ∧ Hid (But [] w wx))
  case atStart => exact ⟨0, 0, by omega, by omega, rfl, rfl, by omega, rfl, HB0⟩
  case round =>
    obtain ⟨k, p, hkg, hkn, rfl, rfl, hp, HE, HB⟩ := hrel
    by_cases hlt : k < n
    · obtain ⟨q0, q1, q2, q3, q4, q5, q6, q7⟩ := row_at H.out.lim hp HE.out (by have := HL.out; omega)
      obtain ⟨g, off, hA, -, hg, hc⟩ := H.out.at_ (k := k * 2) (by omega)
      have hca := cell_keep (hc (k * 2) (by omega)) HB.out (by simp)
      have hcb := cell_keep (hc (k * 2 + 1) (by omega)) HB.out (by simp)
      rw [← Nat.add_assoc] at hcb
      have hn1 : (nums f (ed f (k * 2 + 1) + 1)).length = (nums f p).length + (ed f (k * 2 + 1) - ed f (k * 2)) := by
        rw [nums_succ, q7]
        simp only [Bool.false_eq_true, if_false, List.append_nil]
        rw [nums_full (Nat.le_of_lt q2) q5, nums_none q1 q4]
      have hcl := nums_le f p
      generalize ed f (k * 2) = a at *
      generalize ed f (k * 2 + 1) = b at *
      have HE2 := hid q6
      obtain ⟨m, hm⟩ : ∃ m, m = (nums f p).length := ⟨_, rfl⟩
      rw [← hm] at hn1 hcl ⊢
      have HN1 := hid hn1
      have hs : (m : Int) + ((b : Int) - (a : Int)) = ((nums f (b + 1)).length : Nat) := by rw [hn1]; omega
      have hle : (nums f (b + 1)).length ≤ 3000 := by rw [hn1]; omega
      generalize hz : (nums f (b + 1)).length = z at *
      have HZ := hid hz
      subst hA
      clear hc q0 q4 q5 q6 q7 hm hn1 hz
      go_wp2
      go_roundg (n + 1 - (k + 1))
      case measure => omega
      case rel => exact ⟨k + 1, b + 1, by omega, by omega, by go_num, by rw [HZ.out], by omega, HE2.out, HB.out.alloc _⟩
    · obtain rfl : k = n := by omega
      have hE := row_end H.out.lim hp HE.out HL.out
      have he : (nums f 1024).length = (nums f p).length := by
        rcases Nat.lt_or_ge 1024 p with h4 | h4
        · obtain rfl : p = 1025 := by omega
          rw [show nums f 1025 = _ from nums_succ f 1024, H.out.lim 1024 (by omega)]; simp
        · rw [nums_none h4 (fun n h1 _ => hE n h1)]
      have HX := hid he
      clear hE he
      go_wp2
      go_ret
      exact ⟨by rw [HX.out]; rfl, HB.out⟩

/-- How a slice stands: none, or one of a block, with room for what it has. -/
def Fm (A : Option Addr) (n c : Nat) : Prop := (A = none ∧ n = 0 ∧ c = 0) ∨ ∃ g off, A = some ⟨g, off, none⟩ ∧ n ≤ c
theorem que_fm {w : World} {base size n c : Nat} {A : Option Addr} {xs : List Value} (h : Que w base size (.slice A n c) n xs) : Fm A n c := by
  rcases h.2 with ⟨h1, h2⟩ | ⟨g, off, cap, e, _, _, hnc, _⟩
  · injection h1 with h3 h4 h5
    exact .inl ⟨h3, h4, h5⟩
  · injection e with e1 e2 e3
    subst e1; subst e3
    exact .inr ⟨g, off, rfl, hnc⟩
/-- What a call that tells numbers ends in. -/
def Tells (w : World) (l : List Nat) (e : Ending) (w' : World) : Prop := ∃ A n c, e = .returned (.slice A n c) ∧ l.length = n ∧ Rd .i64 w' w.heap.size w'.heap.size A (il l) ∧ But [] w w' ∧ Fm A n c
set_option maxHeartbeats 2000000 in
theorem all_c (A : Option Addr) (n c lo : Nat) (f : Nat → Bool) (w : World) (h : SetAt w lo A n f) :
    Calls Try.prog 33 #[.agg #[.slice A n c]] w (Tells w (nums f 1024)) := by
  have H := hid h
  have hn := h.n_le
  have HL := hid h.len
  obtain ⟨w0, hw0⟩ : ∃ w0, w0 = w.alloc (.cells #[.slice A n c] 31) := ⟨_, rfl⟩
  have HB0 : Hid (But [] w w0) := by show But _ _ _; rw [hw0]; exact (But.refl [] w).alloc _
  clear h
  go_enter Try.func33, Try.ntmps33
  go_wp2
  rw [← hw0]
  clear hw0
  go_loopg [3, 10] (n + 1) (fun g0 v i wx => ∃ (k p m cv : Nat) (Av : Option Addr), k + g0 = n + 1 ∧ k ≤ n ∧ i = .int .i64 k ∧ v = .slice Av m cv ∧ p ≤ 1025 ∧ Hid ((edg f p).length = k * 2) ∧ Hid (Que wx w0.heap.size 1 (.slice Av m cv) m (ic (nums f p))) ∧ Hid (But [] w0 wx))
  case atStart => exact ⟨0, 0, 0, 0, none, by omega, by omega, rfl, rfl, by omega, rfl, Que.nil _ _ _, But.refl _ _⟩
  case round =>
    obtain ⟨k, p, m, cv, Av, hkg, hkn, rfl, rfl, hp, HE, HQ, HB⟩ := hrel
    by_cases hlt : k < n
    · obtain ⟨q0, q1, q2, q3, q4, q5, q6, q7⟩ := row_at H.out.lim hp HE.out (by have := HL.out; omega)
      obtain ⟨g, off, hA, -, hg, hc⟩ := H.out.at_ (k := k * 2) (by omega)
      have hca := cell_keep (cell_keep (hc (k * 2) (by omega)) HB0.out (by simp)) HB.out (by simp)
      have hcb := cell_keep (cell_keep (hc (k * 2 + 1) (by omega)) HB0.out (by simp)) HB.out (by simp)
      rw [← Nat.add_assoc] at hcb
      have hna : nums f (ed f (k * 2)) = nums f p := nums_none q1 q4
      have hnb : nums f (ed f (k * 2 + 1) + 1) = nums f (ed f (k * 2 + 1)) := by
        rw [nums_succ, q7]; simp
      generalize ed f (k * 2) = a at *
      generalize ed f (k * 2 + 1) = b at *
      have HE2 := hid q6
      have HNB := hid hnb
      have HF := hid q5
      have HQa : Hid (Que wr w0.heap.size 1 (.slice Av m cv) m (ic (nums f a))) := by show Que _ _ _ _ _ _; rw [hna]; exact HQ.out
      subst hA
      obtain ⟨B, hB⟩ : ∃ B, B = wr.heap.size := ⟨_, rfl⟩
      have HOB : Hid (∀ x, (Value.slice Av m cv).ownBlock = some x → x ≠ B) := fun x hx => by
        have := (HQ.out.lt x (by rw [hx]; simp)).2
        omega
      clear hc q0 q4 q5 q6 q7 hna hnb HQ
      go_upto_region 5 with fail
      rw [← hB]
      have hc1 : (wr.alloc (.cells #[.int .i64 a, .int .i64 b] 75)).cell? ⟨B, 0, none⟩ = some (.int .i64 a) := by rw [hB]; simp
      have hc2 : (wr.alloc (.cells #[.int .i64 a, .int .i64 b] 75)).cell? ⟨B, 1, none⟩ = some (.int .i64 b) := by rw [hB]; simp
      have HQ1 := hid (HQa.out.keep0 ((But.refl [] wr).alloc (.cells #[.int .i64 a, .int .i64 b] 75)))
      have HB1 := hid (HB.out.alloc (.cells #[.int .i64 a, .int .i64 b] 75))
      generalize wr.alloc (.cells #[.int .i64 a, .int .i64 b] 75) = w1 at *
      clear hB HQa hca hcb
      go_wp2
      clear hc1
      go_loopg [3, 6] (b - a + 1) (fun g1 v j wx => ∃ (q m cv : Nat) (Av : Option Addr), q + g1 = b + 1 ∧ a ≤ q ∧ q ≤ b ∧ j = .int .i64 q ∧ v = .slice Av m cv ∧ Hid (wx.cell? ⟨B, 1, none⟩ = some (.int .i64 b)) ∧ Hid (∀ x, (Value.slice Av m cv).ownBlock = some x → x ≠ B) ∧ Hid (Que wx w0.heap.size 1 (.slice Av m cv) m (ic (nums f q))) ∧ Hid (But [] w0 wx))
      case atStart => exact ⟨a, m, cv, Av, by omega, by omega, by omega, rfl, rfl, hc2, HOB.out, HQ1.out, HB1.out⟩
      case round =>
        obtain ⟨q, m, cv, Av, hqg, haq, hqb, rfl, rfl, HC, HO, HQ, HB⟩ := hrel
        have hcb := HC.out
        by_cases hq : q < b
        · have hn2 : nums f (q + 1) = nums f q ++ [q] := by rw [nums_succ, HF.out q haq hq]; rfl
          have hm : m ≤ 1025 := by
            have := HQ.out.1
            rw [ic_len] at this
            have := nums_le f q
            omega
          obtain ⟨g', off', c', w5, hr5, hq5, hk5, ho5⟩ := que_push (P := Try.prog) 82 3 _ Try.underlying82 Try.infoInt rfl (by decide) (by decide) HQ.out (ic [q]) rfl (ic_one _) HB.out.size (by omega)
          have HR5 : Hid ((Builtin.append_ #[82, 82] 82 #[.slice Av m cv, .slice (some ⟨wr.heap.size, 0, none⟩) 1 1]).run Try.prog (wr.alloc (.cells #[.int .i64 q] 3)) = .ok (.slice (some ⟨g', off', none⟩) (m + 1) c') w5) := hr5
          have HQ5 : Hid (Que w5 w0.heap.size 1 (.slice (some ⟨g', off', none⟩) (m + 1) c') (m + 1) (ic (nums f (q + 1)))) := by
            show Que _ _ _ _ _ _
            rw [hn2, ic_app]
            exact hq5
          have HB5 := hid (but_own HB.out hk5 (fun i hi => (HQ.out.lt i hi).1))
          have HO5 : Hid (∀ x, (Value.slice (some ⟨g', off', none⟩) (m + 1) c').ownBlock = some x → x ≠ B) := by
            intro x hx
            obtain rfl : g' = x := by simpa [Value.ownBlock] using hx
            rcases ho5 with ho | ho
            · exact HO.out g' ho
            · have : B < wr.heap.size := lt_of_cell hcb
              omega
          have HC5 := hid (cell_keep hcb hk5 (fun hm => HO.out B (by simpa using hm) rfl))
          clear hr5 hq5 hk5 ho5 hn2 HQ HB HO HC
          go_wp2_with (first | (at_builtin; refine wpList_append_known _ rfl _ _ 82 rfl _ _ rfl rfl HR5.out ?_))
          go_roundg (b + 1 - (q + 1))
          case measure => omega
          case rel => exact ⟨q + 1, _, _, _, by omega, by omega, by omega, by go_num, rfl, HC5.out, HO5.out, HQ5.out, HB5.out⟩
        · obtain rfl : q = b := by omega
          go_wp2
          go_roundg (n + 1 - (k + 1))
          case measure => omega
          case rel => exact ⟨k + 1, q + 1, m, cv, Av, by omega, by omega, by go_num, rfl, by omega, HE2.out, by rw [HNB.out]; exact HQ.out, HB.out⟩
    · obtain rfl : k = n := by omega
      have hE := row_end H.out.lim hp HE.out HL.out
      have he : nums f 1024 = nums f p := by
        rcases Nat.lt_or_ge 1024 p with h4 | h4
        · obtain rfl : p = 1025 := by omega
          rw [show nums f 1025 = _ from nums_succ f 1024, H.out.lim 1024 (by omega)]; simp
        · rw [nums_none h4 (fun n h1 _ => hE n h1)]
      have HX := hid he
      clear hE he
      go_wp2
      go_ret
      obtain ⟨A', c', hv, hl', hr'⟩ := que_rd HQ.out
      injection hv with h1 h2 h3
      subst h1; subst h3
      exact ⟨_, _, _, rfl, by rw [HX.out, hl']; omega, by rw [HX.out]; exact hr'.wider (HB0.out.size) (Nat.le_refl _), HB0.out.trans HB.out, que_fm HQ.out⟩

/-- A set that was laid goes out through the result's own cell. -/
theorem gives_of {w w0 wx : World} {f : Nat → Bool} {b4 n : Nat} {v : Value} (hf : Lim f) (hq : Que wx w0.heap.size 2 v n (ic (E f))) (h0 : But [] w w0) (hb : But [] w0 wx) (hw : w.heap.size ≤ b4) (hlt : b4 < w0.heap.size) :
    Gives w f (.returned (.agg #[v])) (wx.setCell ⟨b4, 0, .none⟩ v) := by
  have hk : But [b4] wx (wx.setCell ⟨b4, 0, .none⟩ v) := (But.refl _ _).setCell (by simp) _
  have hq' := hq.keep hk (fun i hi => by have := (hq.lt i hi).1; simp; omega)
  obtain ⟨A, c, rfl, hs⟩ := SetAt.of_que hf hq'
  exact ⟨A, n, c, rfl, hs.wider h0.size, but_own (h0.trans hb) hk (fun i hi => by simp at hi; omega)⟩
end Go.Proofs.Ytlppfcoclpdanaa.Sn
