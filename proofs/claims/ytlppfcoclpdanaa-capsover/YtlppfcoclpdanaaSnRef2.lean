/-
  Layer 10 (span): contracts of the document's All, Rows, and of Rows (with slices.Clone), over the translated program.
-/
import Derived.Test.YtlppfcoclpdanaaSnRef
import Derived.Test.YtlppfcoclpdanaaSnInts
import Derived.Deep.QuietTactic
import Derived.BigQuiet
namespace Go.Proofs.Ytlppfcoclpdanaa.Sn
open Go.ChangeShapes Go.WideShapes Go.ChangeAt Go.RowKit
open Wh
set_option linter.unusedVariables false
set_option maxRecDepth 20000

set_option maxHeartbeats 2000000 in
theorem rall_c (f : Nat → Bool) (w : World) :
    Calls Try.prog 34 #[.agg (bv f).toArray] w (Tells w (nums f 1024)) := by
  obtain ⟨b, hb⟩ : ∃ b, b = w.heap.size := ⟨_, rfl⟩
  obtain ⟨w0, hw0⟩ : ∃ w0, w0 = w.alloc (.cells (bv f).toArray 36) := ⟨_, rfl⟩
  have HB0 : Hid (But [] w w0) := by show But _ _ _; rw [hw0]; exact (But.refl [] w).alloc _
  have hr := new_range w (bv f) 36
  rw [← hw0, ← hb] at hr
  have HR := hid hr
  clear hr
  go_enter Try.func34, Try.ntmps34
  go_wp2
  rw [← hw0, ← hb]
  clear hw0 hb
  go_loopg [3, 4] 1025 (fun g0 v i wx => ∃ (k m cv : Nat) (Av : Option Addr), k + g0 = 1025 ∧ k ≤ 1024 ∧ i = .int .i64 k ∧ v = .slice Av m cv ∧ Hid (Que wx w0.heap.size 1 (.slice Av m cv) m (ic (nums f k))) ∧ Hid (But [] w0 wx))
  case atStart => exact ⟨0, 0, 0, none, by omega, by omega, rfl, rfl, Que.nil _ _ _, But.refl _ _⟩
  case round =>
    obtain ⟨k, m, cv, Av, hkg, hk, rfl, rfl, HQ, HB⟩ := hrel
    by_cases hlt : k < 1024
    · have hkI : (k : Int) < 1024 := by omega
      have hca : wr.cell? ⟨b, k, none⟩ = some (.bool (f k)) := by
        have := cell_keep (range_cells HR.out k _ (bv_get f k hlt)) HB.out (by simp)
        rwa [Nat.zero_add] at this
      have hn := nums_succ f k
      cases hf : f k with
      | false =>
        rw [hf] at hca hn
        have HN : Hid (nums f (k + 1) = nums f k) := by show _ = _; rw [hn]; simp
        clear hn hf
        go_wp2
        go_roundg (1025 - (k + 1))
        case measure => omega
        case rel => exact ⟨k + 1, m, cv, Av, by omega, by omega, by go_num, rfl, by rw [HN.out]; exact HQ.out, HB.out⟩
      | true =>
        rw [hf] at hca hn
        have hm : m ≤ 1025 := by
          have := HQ.out.1
          rw [ic_len] at this
          have := nums_le f k
          omega
        obtain ⟨g', off', c', w5, hr5, hq5, hk5, ho5⟩ := que_push (P := Try.prog) 82 3 _ Try.underlying82 Try.infoInt rfl (by decide) (by decide) HQ.out (ic [k]) rfl (ic_one _) HB.out.size (by omega)
        have HR5 : Hid ((Builtin.append_ #[82, 82] 82 #[.slice Av m cv, .slice (some ⟨wr.heap.size, 0, none⟩) 1 1]).run Try.prog (wr.alloc (.cells #[.int .i64 k] 3)) = .ok (.slice (some ⟨g', off', none⟩) (m + 1) c') w5) := hr5
        have HQ5 : Hid (Que w5 w0.heap.size 1 (.slice (some ⟨g', off', none⟩) (m + 1) c') (m + 1) (ic (nums f (k + 1)))) := by
          show Que _ _ _ _ _ _
          rw [hn]
          simp only [if_true]
          rw [ic_app]
          exact hq5
        have HB5 := hid (but_own HB.out hk5 (fun i hi => (HQ.out.lt i hi).1))
        clear hr5 hq5 hk5 ho5 hn HQ HB hf
        go_wp2_with (first | (at_builtin; refine wpList_append_known _ rfl _ _ 82 rfl _ _ rfl rfl HR5.out ?_))
        go_roundg (1025 - (k + 1))
        case measure => omega
        case rel => exact ⟨k + 1, _, _, _, by omega, by omega, by go_num, rfl, HQ5.out, HB5.out⟩
    · obtain rfl : k = 1024 := by omega
      have h64' : decide ((1024 : Int) < 1024) = false := by decide
      go_wp2
      go_ret
      obtain ⟨A', c', hv, hl', hr'⟩ := que_rd HQ.out
      injection hv with h1 h2 h3
      subst h1; subst h3
      exact ⟨_, _, _, rfl, by omega, hr'.wider (HB0.out.size) (Nat.le_refl _), HB0.out.trans HB.out, que_fm HQ.out⟩

/-- What a call that tells rows ends in. -/
def Rowed (w : World) (f : Nat → Bool) (e : Ending) (w' : World) : Prop := ∃ A n c, e = .returned (.slice A n c) ∧ (E f).length = n * 2 ∧ Li w' A (E f) ∧ But [] w w'
theorem ic_set2 (l : List Nat) (y x : Nat) {j : Nat} (hj : j = l.length) : (ic (l ++ [y])).set j (.int .i64 (x : Nat)) = ic (l ++ [x]) := by subst hj; exact ic_set l y x
set_option maxHeartbeats 2000000 in
theorem rrows_c (f : Nat → Bool) (hf : Lim f) (w : World) :
    Calls Try.prog 53 #[.agg (bv f).toArray] w (Rowed w f) := by
  have HF := hid hf
  obtain ⟨b, hb⟩ : ∃ b, b = w.heap.size := ⟨_, rfl⟩
  obtain ⟨w0, hw0⟩ : ∃ w0, w0 = w.alloc (.cells (bv f).toArray 36) := ⟨_, rfl⟩
  have HB0 : Hid (But [] w w0) := by show But _ _ _; rw [hw0]; exact (But.refl [] w).alloc _
  have hr := new_range w (bv f) 36
  rw [← hw0, ← hb] at hr
  have HR := hid hr
  clear hr hf
  go_enter Try.func53, Try.ntmps53
  go_wp2
  rw [← hw0, ← hb]
  clear hw0 hb
  go_loopg [3, 4] 1025 (fun g0 v i wx => ∃ (k m cv : Nat) (Av : Option Addr), k + g0 = 1025 ∧ k ≤ 1024 ∧ i = .int .i64 k ∧ v = .slice Av m cv ∧ Hid (Que wx w0.heap.size 2 (.slice Av m cv) m (ic (rws f k))) ∧ Hid (But [] w0 wx))
  case atStart => exact ⟨0, 0, 0, none, by omega, by omega, rfl, rfl, Que.nil _ _ _, But.refl _ _⟩
  case round =>
    obtain ⟨k, m, cv, Av, hkg, hk, rfl, rfl, HQ, HB⟩ := hrel
    by_cases hlt : k < 1024
    · have hkI : (k : Int) < 1024 := by omega
      have hca : wr.cell? ⟨b, k, none⟩ = some (.bool (f k)) := by
        have := cell_keep (range_cells HR.out k _ (bv_get f k hlt)) HB.out (by simp)
        rwa [Nat.zero_add] at this
      cases hf : f k with
      | false =>
        rw [hf] at hca
        have HN := hid (rws_no hf)
        clear hf
        go_wp2
        go_roundg (1025 - (k + 1))
        case measure => omega
        case rel => exact ⟨k + 1, m, cv, Av, by omega, by omega, by go_num, rfl, by rw [HN.out]; exact HQ.out, HB.out⟩
      | true =>
        rw [hf] at hca
        cases hp : pv f k with
        | true =>
          obtain ⟨e1, e2⟩ := rws_on hf hp
          have hq := HQ.out
          rw [e1] at hq
          have hml : (edg f k).length + 1 = m * 2 := by have := hq.1; rwa [ic_len, List.length_append, List.length_singleton] at this
          obtain ⟨m1, rfl⟩ : ∃ m1, m = m1 + 1 := ⟨m - 1, by omega⟩
          obtain ⟨g2, off2, cap2, hv, _⟩ := hq.row (by omega)
          injection hv with hv3 hv4 hv5
          subst hv3; subst hv5
          have hk9 : (edg f k).length < (ic (edg f k ++ [k])).length := by rw [ic_len, List.length_append]; simp
          have hq2 := que_set hq (edg f k).length (.int .i64 ((k + 1 : Nat) : Int)) hk9
          rw [ic_set, ← e2] at hq2
          have hzf := que_there hq hk9
          obtain ⟨_, h0⟩ | ⟨g3, off3, cap3, hv6, hb3, hg3, _, _, _, hrng⟩ := hq.2
          · omega
          injection hv6 with hv6 hv7 hv8
          injection hv6 with hv6
          injection hv6 with hv6 hv9
          subst hv6; subst hv9; subst hv8
          have hcz := hrng (edg f k).length _ (ic_get _ _ (by simp))
          have eg : (edg f k ++ [k]).getD (edg f k).length 0 = k := by simp [List.getD]
          rw [eg] at hcz
          have ek : off2 + (edg f k).length = off2 + m1 * 2 + 1 := by omega
          rw [ek] at hq2 hzf hcz
          have hm9 : m1 ≤ 1025 := by have := edg_len f k; omega
          have hk1 : ((k + 1 : Nat) : Int) = (k : Int) + 1 := by omega
          rw [hk1] at hq2
          have HQ4 := hid hq2
          have HB4 : Hid (But [] w0 (wr.setCell ⟨g2, off2 + m1 * 2 + 1, none⟩ (.int .i64 ((k : Int) + 1)))) := but_own HB.out ((But.refl [g2] wr).setCell (by simp) _) (fun i hi => by simp at hi; omega)
          have hpos : (0 : Int) < (m1 : Int) + 1 := by omega
          clear hq hq2 hrng hk9 e1 e2 hml hv4 hv7 ek hb3 hg3 HQ hf hp eg hk1
          go_wp2
          go_roundg (1025 - (k + 1))
          case measure => omega
          case rel => exact ⟨k + 1, m1 + 1, _, _, by omega, by omega, by go_num, rfl, HQ4.out, HB4.out⟩
        | false =>
          obtain ⟨e1, e2⟩ := rws_new hf hp
          have hq := HQ.out
          rw [e1] at hq
          have hml : (edg f k).length = m * 2 := by have := hq.1; rwa [ic_len] at this
          have hm : m ≤ 1025 := by have := edg_len f k; omega
          obtain ⟨g', off', c', w5, hr5, hq5, hk5, ho5⟩ := que_push (P := Try.prog) 29 75 _ Try.underlying29 Try.infoRow rfl (by decide) (by decide) hq (ic [k, k + 1]) rfl (ic_one _) HB.out.size (by omega)
          have HR5 : Hid ((Builtin.append_ #[29, 29] 29 #[.slice Av m cv, .slice (some ⟨wr.heap.size, 0, none⟩) 1 1]).run Try.prog (wr.alloc (.cells #[.int .i64 k, .int .i64 ((k : Int) + 1)] 75)) = .ok (.slice (some ⟨g', off', none⟩) (m + 1) c') w5) := hr5
          have HQ5 : Hid (Que w5 w0.heap.size 2 (.slice (some ⟨g', off', none⟩) (m + 1) c') (m + 1) (ic (rws f (k + 1)))) := by
            show Que _ _ _ _ _ _
            rw [e2, ic_app]
            exact hq5
          have HB5 := hid (but_own HB.out hk5 (fun i hi => (hq.lt i hi).1))
          by_cases h0 : m = 0
          · subst h0
            clear hr5 hq5 hk5 ho5 hq e1 e2 HQ HB hf hp hml
            have h00 : decide ((0 : Int) < 0) = false := by decide
            go_wp2_with (first | (at_builtin; refine wpList_append_known _ rfl _ _ 29 rfl _ _ rfl rfl HR5.out ?_))
            go_roundg (1025 - (k + 1))
            case measure => omega
            case rel => exact ⟨k + 1, _, _, _, by omega, by omega, by go_num, rfl, HQ5.out, HB5.out⟩
          · obtain ⟨m1, rfl⟩ : ∃ m1, m = m1 + 1 := ⟨m - 1, by omega⟩
            obtain ⟨g2, off2, cap2, hv, _, _, _, hrng⟩ := hq.row (by omega)
            injection hv with hv3 hv4 hv5
            subst hv3; subst hv5
            have hcz := hrng (m1 * 2 + 1) _ (ic_get _ _ (by omega))
            rw [← Nat.add_assoc] at hcz
            have hle : (edg f k).getD (m1 * 2 + 1) 0 < k := by
              rw [List.getD_eq_getElem?_getD, List.getElem?_eq_getElem (by omega)]
              exact edg_lt f k _ (List.getElem_mem _)
            generalize (edg f k).getD (m1 * 2 + 1) 0 = x at *
            have hne : ¬ (x : Int) = (k : Int) := by omega
            have hneb : ((x : Int) == (k : Int)) = false := by simpa using hne
            have hpos : (0 : Int) < (m1 : Int) + 1 := by omega
            clear hr5 hq5 hk5 ho5 hq e1 e2 HQ HB hf hp hml hrng hv4 hle
            go_wp2_with (first | (at_builtin; refine wpList_append_known _ rfl _ _ 29 rfl _ _ rfl rfl HR5.out ?_))
            go_roundg (1025 - (k + 1))
            case measure => omega
            case rel => exact ⟨k + 1, _, _, _, by omega, by omega, by go_num, rfl, HQ5.out, HB5.out⟩
    · obtain rfl : k = 1024 := by omega
      have h64' : decide ((1024 : Int) < 1024) = false := by decide
      go_wp2
      go_ret
      have hq := HQ.out
      rw [rws_end HF.out] at hq
      obtain ⟨A', c', hv, hl', hr'⟩ := que_rd hq
      injection hv with h1 h2 h3
      subst h1; subst h3
      exact ⟨_, _, _, rfl, hl', Li.of hr', HB0.out.trans HB.out⟩
end Go.Proofs.Ytlppfcoclpdanaa.Sn
