/-
  Layer 4 (frames): contracts of what the statements call (Same, awake), over the translated program.
-/
import Derived.Test.YthabdcejjnhpbaaFrRef
namespace Go.Proofs.Ythabdcejjnhpbaa
open Go.ChangeShapes Go.WideShapes Go.ChangeAt Go.RowKit
set_option linter.unusedVariables false

theorem lt_of_there {w : World} {b o n : Nat} (h : w.there b o n) (hn : 0 < n) : b < w.heap.size := by
  obtain ⟨v, hv⟩ := Option.isSome_iff_exists.1 (h 0 hn).1
  exact lt_of_cell hv
theorem range_keep {l : List Nat} {w w' : World} {b o : Nat} {cs : List Value} (h : w.rangeAt b o cs) (hk : But l w w') (hn : b ∉ l) : w'.rangeAt b o cs := fun j v hv =>
  (hk.cell (p := ⟨b, o + j, none⟩) (lt_of_cell (h j v hv)) hn).trans (h j v hv)

set_option maxHeartbeats 1000000 in
theorem same_c (bm bp n bx c : Nat) (xs : List Int) (w : World) (h : MemAt w bm bp n xs) (hb : Blk w bx xs) :
    Calls Try.prog 9 #[.pointer (some ⟨bm, 0, none⟩), .slice (some ⟨bx, 0, none⟩) (16 * n) c] w fun e w' => e = .returned (.bool true) ∧ But [] w w' := by
  have H : Hid (MemAt w bm bp n xs) := h
  have HB : Hid (Blk w bx xs) := hb
  have hn := h.most
  clear h hb
  go_enter Try.func9, Try.ntmps9
  go_wp2_with fail
  refine (len_c bm bp n xs _ H.out).mono ?_
  rintro e w1 ⟨rfl, rfl⟩
  go_wp2
  go_loopg [5] n (fun g i wx => ∃ m : Nat, m + g = n ∧ i = .int .i64 m ∧ But [] w wx)
  case atStart => exact ⟨0, by omega, rfl, But.refl _ _⟩
  case round =>
    obtain ⟨m, hmg, rfl, hbx⟩ := hrel
    have HX : Hid (But [] w wr) := hbx
    clear hbx
    go_wp2_with fail
    refine (len_c bm bp n xs _ (H.out.keep HX.out (by simp) (by simp))).mono ?_
    rintro e w1 ⟨rfl, rfl⟩
    by_cases hlt : m < n
    · go_wp2_with fail
      refine (page_c bm bp n m xs _ (H.out.keep HX.out (by simp) (by simp)) hlt).mono ?_
      rintro e w1 ⟨rfl, hb1⟩
      have HX1 : Hid (But [] w w1) := HX.out.trans hb1
      clear hb1
      have HA : Hid (∀ z : Array Value, z.size = 16 → (w1.alloc (.cells z 40)).there w1.heap.size 0 16) := fun z hz => there_new _ _ _ _ hz
      go_wp2_with (first
        | (refine wpList_store_mid rfl 40 _ _ rfl w1.heap.size 0 (pgv xs (m * 16)).toArray rfl rfl (pgv_there (HA.out _ rfl)) (pgv_info' _ _) (pgv_all _ _) ?_))
      go_loopg [8] 16 (fun g2 j wy => ∃ i : Nat, i + g2 = 16 ∧ j = .int .i64 i ∧ wy.rangeAt w1.heap.size 0 (pgv xs (m * 16)) ∧ But [] w wy)
      case atStart => exact ⟨0, by omega, rfl, World.rangeAt_setCells_same _ _ _ _ (by rw [pgv_len]; exact HA.out _ rfl), (HX1.out.alloc _).setCells (.inr HX1.out.size) _ _⟩
      case round =>
        obtain ⟨i, hig, rfl, hr, hby⟩ := hrel
        have HR : Hid (wr.rangeAt w1.heap.size 0 (pgv xs (m * 16))) := hr
        have HY : Hid (But [] w wr) := hby
        clear hr hby
        by_cases hi : i < 16
        · have hk : m * 16 + i < xs.length := by have := H.out.len; omega
          obtain ⟨q, hq⟩ : ∃ q, q = xs.getD (m * 16 + i) 0 := ⟨_, rfl⟩
          have hc1 : wr.cell? ⟨w1.heap.size, i, none⟩ = some (.int .u32 q) := by
            have := HR.out i _ (pgv_get xs (m * 16) i hi)
            rwa [Nat.zero_add, ← hq] at this
          have hc2 : wr.cell? ⟨bx, 16 * m + i, none⟩ = some (.int .u32 q) := by
            have := (HB.out.keep HY.out (by simp) (m * 16 + i) hk).1
            rwa [← hq, Nat.mul_comm m 16] at this
          have HQ : Hid (xs.getD (m * 16 + i) 0 = q) := hq.symm
          clear hq hk
          go_wp2_with fail
          refine (get_c bm bp n m i xs _ (H.out.keep HY.out (by simp) (by simp)) hlt hi).mono ?_
          rintro e w2 ⟨rfl, rfl⟩
          rw [HQ.out]
          go_wp2
          have hbd : (16 : Int) * (m : Int) + (i : Int) < 16 * (n : Int) := by omega
          go_quiet (fail)
          go_wp2
          go_roundg (16 - (i + 1))
          case measure => omega
          case rel => exact ⟨i + 1, by omega, by go_num, range_keep HR.out ((But.refl [] _).drewN _) (by simp), HY.out.drewN _⟩
        · obtain rfl : i = 16 := by omega
          go_wp2
          go_roundg (n - (m + 1))
          case measure => omega
          case rel => exact ⟨m + 1, by omega, by go_num, HY.out⟩
    · obtain rfl : m = n := by omega
      go_wp2
      go_ret
      exact ⟨rfl, HX.out⟩
theorem same_nil (w : World) :
    Calls Try.prog 9 #[.pointer none, .slice none 0 0] w fun e w' => e = .returned (.bool true) ∧ w = w' := by
  go_enter Try.func9, Try.ntmps9
  go_wp2_with fail
  refine (len_nil _).mono ?_
  rintro e w1 ⟨rfl, rfl⟩
  go_wp2
  go_loopg [5] 0 (fun g i wx => i = .int .i64 0 ∧ w = wx)
  case atStart => exact ⟨rfl, rfl⟩
  case round =>
    obtain ⟨rfl, rfl⟩ := hrel
    go_wp2_with fail
    refine (len_nil _).mono ?_
    rintro e w1 ⟨rfl, rfl⟩
    go_wp2
    go_ret
    exact ⟨rfl, rfl⟩
theorem awake_c (w : World) :
    Calls Try.prog 10 #[] w fun e w' => e = .returned (.bool true) ∧ But [] w w' := by
  go_enter Try.func10, Try.ntmps10
  go_wp2_with fail
  refine (new_c 2 _ (by omega) (by omega)).mono ?_
  rintro e w1 ⟨bm, bp, rfl, hm, hp, h1, k1⟩
  go_wp2_with fail
  refine (put_c bm bp 2 1 3 7 _ _ h1 (by omega) (by omega)).mono ?_
  rintro e w2 ⟨rfl, h2, k2⟩
  go_wp2_with fail
  refine (copy_c bm bp 2 0 1 _ _ h2 (by omega) (by omega)).mono ?_
  rintro e w3 ⟨rfl, h3, k3⟩
  go_wp2_with fail
  refine (get_c bm bp 2 0 3 _ _ h3 (by omega) (by omega)).mono ?_
  rintro e w4 ⟨rfl, rfl⟩
  rw [show (layL ((List.replicate (16 * 2) 0).set (1 * 16 + 3) 7) (0 * 16) (((List.replicate (16 * 2) 0).set (1 * 16 + 3) 7).drop (1 * 16))).getD (0 * 16 + 3) 0 = 7 by decide]
  have H3 : Hid (MemAt w3 bm bp 2 (layL ((List.replicate (16 * 2) 0).set (1 * 16 + 3) 7) (0 * 16) (((List.replicate (16 * 2) 0).set (1 * 16 + 3) 7).drop (1 * 16)))) := h3
  have HK : Hid (But [] w w3) := by
    have e1 : But [bp] w w3 := ((k1.wider (by simp)).trans k2).trans k3
    exact e1.strike (fun k hk hl => by simp at hk; omega)
  clear h1 h2 h3 k1 k2 k3
  go_wp2_with fail
  refine (len_c bm bp 2 _ _ H3.out).mono ?_
  rintro e w4 ⟨rfl, rfl⟩
  go_wp2
  go_ret
  exact ⟨rfl, HK.out⟩
end Go.Proofs.Ythabdcejjnhpbaa
