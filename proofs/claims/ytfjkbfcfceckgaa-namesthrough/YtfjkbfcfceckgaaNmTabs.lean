/-
  Layer 11 (names): contracts of Len, Names, Own, Through and Same, over the translated program.
-/
import Derived.Test.YtfjkbfcfceckgaaNmBase
import Derived.Test.YtfjkbfcfceckgaaSnMore
import Derived.ChangeKeysEq
namespace Go.Proofs.Ytfjkbfcfceckgaa.Nm
open Go.ChangeShapes Go.WideShapes Go.ChangeAt Go.RowKit
open Wh Sn
set_option linter.unusedVariables false
set_option maxRecDepth 20000

/-- An index of an array of marks. -/
theorem idx_tv (T : Tf) (j : Nat) (hj : j < 512) (w : World) : (Instr.index 26 (.agg (tv T).toArray) (.int .i64 j)).run Try.prog w = .ok (.int .u16 (T j + 1)) w := by
  have h2 : (tv T).toArray[j]? = some (.int .u16 (T j + 1)) := by have := tv_get T j hj; simpa using this
  have h3 := run_part_plain (P := Try.prog) w (e := 25) (by kernel_rfl) h2
  simp [Instr.index, asIntOf, run_underlying Try.underlying26, h3, hj]
/-- The names that mean something. -/
def has (T : Tf) : Nat → Bool := fun j => decide (0 ≤ T j)
set_option maxHeartbeats 1000000 in
theorem len_c (T : Tf) (hT : Ok T) (w : World) :
    Calls Try.prog 24 #[.agg (tv T).toArray] w fun e w' => e = .returned (.int .i64 ((nums (has T) 512).length : Nat)) ∧ But [] w w' := by
  obtain ⟨b, hb⟩ : ∃ b, b = w.heap.size := ⟨_, rfl⟩
  obtain ⟨w0, hw0⟩ : ∃ w0, w0 = w.alloc (.cells (tv T).toArray 28) := ⟨_, rfl⟩
  have HB0 : Hid (But [] w w0) := by show But _ _ _; rw [hw0]; exact (But.refl [] w).alloc _
  have hr := new_range w (tv T) 28
  rw [← hw0, ← hb] at hr
  have HR := hid hr
  have HT := hid hT
  clear hr hT
  go_enter Try.func24, Try.ntmps24
  go_upto_region 2 with fail
  rw [← hw0, ← hb]
  clear hw0 hb
  go_wp2_with (first
    | (refine wpList_load_mid rfl 26 _ rfl b 0 rfl (tv T) _ HR.out Try.underlying26 rfl (iArr _) ?_))
  go_loopg [3, 8] 513 (fun g0 s i wx => ∃ j : Nat, j + g0 = 513 ∧ j ≤ 512 ∧ i = .int .i64 j ∧ s = .int .i64 ((nums (has T) j).length : Nat) ∧ Hid (But [] w wx))
  case atStart => exact ⟨0, by omega, by omega, rfl, rfl, HB0.out⟩
  case round =>
    obtain ⟨j, hjg, hj, rfl, rfl, HB⟩ := hrel
    by_cases hlt : j < 512
    · have hjI : (j : Int) < 512 := by omega
      have hix := idx_tv T j hlt
      have hn := nums_succ (has T) j
      have hle := nums_le (has T) j
      by_cases hv : 0 ≤ T j
      · have hne : (T j + 1 == 0) = false := by simp; omega
        have e : Hid ((nums (has T) (j + 1)).length = (nums (has T) j).length + 1) := by
          show _ = _; rw [hn, show has T j = true from decide_eq_true hv]; simp
        generalize T j = x at hix hne
        generalize (nums (has T) j).length = m at *
        clear hv hn
        go_wp2
        go_roundg (513 - (j + 1))
        case measure => omega
        case rel => exact ⟨j + 1, by omega, by omega, by go_num, by rw [e.out]; go_num, HB.out⟩
      · have h0 : T j = -1 := by have := HT.out.ge j; omega
        have hne : ((-1 : Int) + 1 == 0) = true := by decide
        have e : Hid ((nums (has T) (j + 1)).length = (nums (has T) j).length) := by
          show _ = _; rw [hn, show has T j = false from decide_eq_false hv]; simp
        rw [h0] at hix
        generalize (nums (has T) j).length = m at *
        clear hv hn h0
        go_wp2
        go_roundg (513 - (j + 1))
        case measure => omega
        case rel => exact ⟨j + 1, by omega, by omega, by go_num, by rw [e.out], HB.out⟩
    · obtain rfl : j = 512 := by omega
      have h64' : decide ((512 : Int) < 512) = false := by decide
      go_wp2
      go_ret
      exact ⟨rfl, HB.out⟩

theorem Try.infoInt : (Try.prog.info? 3).map (fun i => (i.zero, i.size, i.bytes)) = some (some (.int .i64 0), 1, 8) := by kernel_rfl
set_option maxHeartbeats 2000000 in
theorem names_c (T : Tf) (hT : Ok T) (w : World) :
    Calls Try.prog 27 #[.agg (tv T).toArray] w (Tells w (nums (has T) 512)) := by
  obtain ⟨b, hb⟩ : ∃ b, b = w.heap.size := ⟨_, rfl⟩
  obtain ⟨w0, hw0⟩ : ∃ w0, w0 = w.alloc (.cells (tv T).toArray 28) := ⟨_, rfl⟩
  have HB0 : Hid (But [] w w0) := by show But _ _ _; rw [hw0]; exact (But.refl [] w).alloc _
  have hr := new_range w (tv T) 28
  rw [← hw0, ← hb] at hr
  have HR := hid hr
  have HT := hid hT
  clear hr hT
  go_enter Try.func27, Try.ntmps27
  go_upto_region 2 with fail
  rw [← hw0, ← hb]
  clear hw0 hb
  go_wp2_with (first
    | (refine wpList_load_mid rfl 26 _ rfl b 0 rfl (tv T) _ HR.out Try.underlying26 rfl (iArr _) ?_))
  go_loopg [3, 8] 513 (fun g0 v i wx => ∃ (k m cv : Nat) (Av : Option Addr), k + g0 = 513 ∧ k ≤ 512 ∧ i = .int .i64 k ∧ v = .slice Av m cv ∧ Hid (Que wx w0.heap.size 1 (.slice Av m cv) m (ic (nums (has T) k))) ∧ Hid (But [] w0 wx))
  case atStart => exact ⟨0, 0, 0, none, by omega, by omega, rfl, rfl, Que.nil _ _ _, But.refl _ _⟩
  case round =>
    obtain ⟨k, m, cv, Av, hkg, hk, rfl, rfl, HQ, HB⟩ := hrel
    by_cases hlt : k < 512
    · have hkI : (k : Int) < 512 := by omega
      have hix := idx_tv T k hlt
      have hn := nums_succ (has T) k
      by_cases hv : 0 ≤ T k
      · have hne : (T k + 1 == 0) = false := by simp; omega
        rw [show has T k = true from decide_eq_true hv] at hn
        have hm : m ≤ 1025 := by
          have := HQ.out.1
          rw [ic_len] at this
          have := nums_le (has T) k
          omega
        obtain ⟨g', off', c', w5, hr5, hq5, hk5, ho5⟩ := que_push (P := Try.prog) 29 3 _ Try.underlying29 Nm.Try.infoInt rfl (by decide) (by decide) HQ.out (ic [k]) rfl (ic_one _) HB.out.size (by omega)
        have HR5 : Hid ((Builtin.append_ #[29, 29] 29 #[.slice Av m cv, .slice (some ⟨wr.heap.size, 0, none⟩) 1 1]).run Try.prog (wr.alloc (.cells #[.int .i64 k] 3)) = .ok (.slice (some ⟨g', off', none⟩) (m + 1) c') w5) := hr5
        have HQ5 : Hid (Que w5 w0.heap.size 1 (.slice (some ⟨g', off', none⟩) (m + 1) c') (m + 1) (ic (nums (has T) (k + 1)))) := by
          show Que _ _ _ _ _ _
          rw [hn]
          simp only [if_true]
          rw [ic_app]
          exact hq5
        have HB5 := hid (but_own HB.out hk5 (fun i hi => (HQ.out.lt i hi).1))
        generalize T k = x at hix hne
        clear hr5 hq5 hk5 ho5 hn HQ HB hv
        go_wp2_with (first | (at_builtin; refine wpList_append_known _ rfl _ _ 29 rfl _ _ rfl rfl HR5.out ?_))
        go_roundg (513 - (k + 1))
        case measure => omega
        case rel => exact ⟨k + 1, _, _, _, by omega, by omega, by go_num, rfl, HQ5.out, HB5.out⟩
      · have h0 : T k = -1 := by have := HT.out.ge k; omega
        have hne : ((-1 : Int) + 1 == 0) = true := by decide
        have HN : Hid (nums (has T) (k + 1) = nums (has T) k) := by
          show _ = _; rw [hn, show has T k = false from decide_eq_false hv]; simp
        rw [h0] at hix
        clear hv hn h0
        go_wp2
        go_roundg (513 - (k + 1))
        case measure => omega
        case rel => exact ⟨k + 1, m, cv, Av, by omega, by omega, by go_num, rfl, by rw [HN.out]; exact HQ.out, HB.out⟩
    · obtain rfl : k = 512 := by omega
      have h64' : decide ((512 : Int) < 512) = false := by decide
      go_wp2
      go_ret
      obtain ⟨A', c', hv, hl', hr'⟩ := que_rd HQ.out
      injection hv with h1 h2 h3
      subst h1; subst h3
      exact ⟨_, _, _, rfl, by omega, hr'.wider (HB0.out.size) (Nat.le_refl _), HB0.out.trans HB.out, que_fm HQ.out⟩
end Go.Proofs.Ytfjkbfcfceckgaa.Nm
