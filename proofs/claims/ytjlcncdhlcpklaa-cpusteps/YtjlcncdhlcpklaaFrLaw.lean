/-
  Layer 4 (frames): contracts of what the statements call (Same, awake), over the translated program.
-/
import Derived.Test.YtjlcncdhlcpklaaFrRef
namespace Go.Proofs.Ytjlcncdhlcpklaa.Fr
open Go.ChangeShapes Go.WideShapes Go.ChangeAt Go.RowKit
set_option linter.unusedVariables false
set_option maxRecDepth 20000

set_option maxHeartbeats 1000000 in
theorem same_c (bm bp n bx c : Nat) (xs : List Int) (w : World) (h : MemAt w bm bp n xs) (hb : Blk w bx xs) :
    Calls Try.prog 10 #[.pointer (some ⟨bm, 0, none⟩), .slice (some ⟨bx, 0, none⟩) (16 * n) c] w fun e w' => e = .returned (.bool true) ∧ But [] w w' := by
  have H : Hid (MemAt w bm bp n xs) := h
  have HB : Hid (Blk w bx xs) := hb
  have hn := h.most
  clear h hb
  go_enter Try.func10, Try.ntmps10
  go_wp2_with fail
  refine (len_c bm bp n xs _ H.out).mono ?_
  rintro e w1 ⟨rfl, rfl⟩
  go_wp2
  go_loopg [5] n (fun g i wx => ∃ m : Nat, m + g = n ∧ i = .int .i64 m ∧ But [] w wx)
  case atStart => exact ⟨0, by omega, rfl, But.refl _ _⟩
  case round =>
    obtain ⟨m, hmg, rfl, hbx⟩ := hrel
    have HX : Hid (But [] w wr) := hbx
    clear hbx
    go_wp2_with fail
    refine (len_c bm bp n xs _ (H.out.keep HX.out (by simp) (by simp))).mono ?_
    rintro e w1 ⟨rfl, rfl⟩
    by_cases hlt : m < n
    · go_wp2_with fail
      refine (page_c bm bp n m xs _ (H.out.keep HX.out (by simp) (by simp)) hlt).mono ?_
      rintro e w1 ⟨rfl, hb1⟩
      have HX1 : Hid (But [] w w1) := HX.out.trans hb1
      clear hb1
      have HA : Hid (∀ z : Array Value, z.size = 16 → (w1.alloc (.cells z 50)).there w1.heap.size 0 16) := fun z hz => there_new _ _ _ _ hz
      go_wp2_with (first
        | (refine wpList_store_mid rfl 50 _ _ rfl w1.heap.size 0 (pgv xs (m * 16)).toArray rfl rfl (pgv_there (HA.out _ rfl)) (pgv_info' _ _) (pgv_all _ _) ?_))
      go_loopg [8] 16 (fun g2 j wy => ∃ i : Nat, i + g2 = 16 ∧ j = .int .i64 i ∧ wy.rangeAt w1.heap.size 0 (pgv xs (m * 16)) ∧ But [] w wy)
      case atStart => exact ⟨0, by omega, rfl, World.rangeAt_setCells_same _ _ _ _ (by rw [pgv_len]; exact HA.out _ rfl), (HX1.out.alloc _).setCells (.inr HX1.out.size) _ _⟩
      case round =>
        obtain ⟨i, hig, rfl, hr, hby⟩ := hrel
        have HR : Hid (wr.rangeAt w1.heap.size 0 (pgv xs (m * 16))) := hr
        have HY : Hid (But [] w wr) := hby
        clear hr hby
        by_cases hi : i < 16
        · have hk : m * 16 + i < xs.length := by have := H.out.len; omega
          obtain ⟨q, hq⟩ : ∃ q, q = xs.getD (m * 16 + i) 0 := ⟨_, rfl⟩
          have hc1 : wr.cell? ⟨w1.heap.size, i, none⟩ = some (.int .u32 q) := by
            have := HR.out i _ (pgv_get xs (m * 16) i hi)
            rwa [Nat.zero_add, ← hq] at this
          have hc2 : wr.cell? ⟨bx, 16 * m + i, none⟩ = some (.int .u32 q) := by
            have := (HB.out.keep HY.out (by simp) (m * 16 + i) hk).1
            rwa [← hq, Nat.mul_comm m 16] at this
          have HQ : Hid (xs.getD (m * 16 + i) 0 = q) := hq.symm
          clear hq hk
          go_wp2_with fail
          refine (get_c bm bp n m i xs _ (H.out.keep HY.out (by simp) (by simp)) hlt hi).mono ?_
          rintro e w2 ⟨rfl, rfl⟩
          rw [HQ.out]
          go_wp2
          have hbd : (16 : Int) * (m : Int) + (i : Int) < 16 * (n : Int) := by omega
          go_quiet (fail)
          go_wp2
          go_roundg (16 - (i + 1))
          case measure => omega
          case rel => exact ⟨i + 1, by omega, by go_num, range_keep HR.out ((But.refl [] _).drewN _) (by simp), HY.out.drewN _⟩
        · obtain rfl : i = 16 := by omega
          go_wp2
          go_roundg (n - (m + 1))
          case measure => omega
          case rel => exact ⟨m + 1, by omega, by go_num, HY.out⟩
    · obtain rfl : m = n := by omega
      go_wp2
      go_ret
      exact ⟨rfl, HX.out⟩
theorem same_nil (w : World) :
    Calls Try.prog 10 #[.pointer none, .slice none 0 0] w fun e w' => e = .returned (.bool true) ∧ w = w' := by
  go_enter Try.func10, Try.ntmps10
  go_wp2_with fail
  refine (len_nil _).mono ?_
  rintro e w1 ⟨rfl, rfl⟩
  go_wp2
  go_loopg [5] 0 (fun g i wx => i = .int .i64 0 ∧ w = wx)
  case atStart => exact ⟨rfl, rfl⟩
  case round =>
    obtain ⟨rfl, rfl⟩ := hrel
    go_wp2_with fail
    refine (len_nil _).mono ?_
    rintro e w1 ⟨rfl, rfl⟩
    go_wp2
    go_ret
    exact ⟨rfl, rfl⟩
end Go.Proofs.Ytjlcncdhlcpklaa.Fr
