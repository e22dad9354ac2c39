/-
  Layer 17 (abort): the contract of the statement that there are never more wants than the limit, over the translated program.
-/
import Derived.Test.YtfopmdiepaonnaaAoSame
namespace Go.Proofs.Ytfopmdiepaonnaa.Ao
open Go.ChangeShapes Go.WideShapes Go.ChangeAt Go.RowKit
open Wh
set_option linter.unusedVariables false
set_option maxRecDepth 20000

theorem and127 (x : Int) : bits .and .i64 x 127 = x % 128 := and_mask64 7 127 x (by omega) (by decide)
theorem and15 (x : Int) : bits .and .i64 x 15 = x % 16 := and_mask64 4 15 x (by omega) (by decide)
/-- The wants that the statement asks for. -/
def ma (j : Nat) : Wn := ⟨(j : Int) % 16, 0, j, 5⟩
def ml (k : Nat) : List Wn := (List.range k).map ma
theorem ml_len (k : Nat) : (ml k).length = k := by simp [ml]
theorem ml_snoc (k : Nat) : ml (k + 1) = ml k ++ [ma k] := by simp [ml, List.range_succ]
theorem ml_any (k j : Nat) (h : k ≤ j) (e : Int) : (ml k).any (key e 0 j) = false := by
  rw [List.any_eq_false]
  intro a ha hk
  obtain ⟨q, hq, rfl⟩ := List.mem_map.1 ha
  have := (key_iff.1 hk).2.2
  have := List.mem_range.1 hq
  have e2 : (ma q).n = q := rfl
  omega
theorem ma_may (j : Nat) (h : j < 128) : mb (ma j) = true := by
  rw [mb_iff]
  show 0 ≤ (j : Int) % 16 ∧ (j : Int) % 16 ≤ 15 ∧ (0 : Int) ≤ 0 ∧ (0 : Int) ≤ 3 ∧ 0 ≤ (j : Int) ∧ (j : Int) ≤ 511 ∧ (1 : Int) ≤ 5 ∧ (5 : Int) ≤ 100
  omega
theorem ml_ask (k : Nat) (h : k < 64) : askC (ml k) (ma k) = 0 ∧ askL (ml k) (ma k) = ml (k + 1) := by
  rw [ml_snoc]
  exact ask_ok (ma_may k (by omega)) (ml_any k k (Nat.le_refl _) _) (by rw [ml_len]; omega)
theorem ml_full (k : Nat) (h : 64 ≤ k) (h2 : k < 128) : askC (ml 64) (ma k) = 7 ∧ askL (ml 64) (ma k) = ml 64 :=
  ask_full (ma_may k h2) (ml_any 64 k h _) (ml_len 64)
theorem mAsk (k : Nat) (h : k < 64) (w : World) : Calls Try.prog 6 #[.agg (lc (ml k)).toArray, .agg #[.int .i64 ((k : Int) % 16), .int .i64 0, .int .i64 k, .int .i64 5]] w fun r w' => r = .returned (.tuple #[.agg (lc (ml (k + 1))).toArray, .int .i64 0]) ∧ But [] w w' := by
  have hh := ask_c (ml k) (by rw [ml_len]; omega) ((k : Int) % 16) 0 k 5 w
  have e := ml_ask k h
  unfold ma at e
  rw [e.1, e.2] at hh
  exact hh
theorem mFull (k : Nat) (h : 64 ≤ k) (h2 : k < 128) (w : World) : Calls Try.prog 6 #[.agg (lc (ml 64)).toArray, .agg #[.int .i64 ((k : Int) % 16), .int .i64 0, .int .i64 k, .int .i64 5]] w fun r w' => r = .returned (.tuple #[.agg (lc (ml 64)).toArray, .int .i64 7]) ∧ But [] w w' := by
  have hh := ask_c (ml 64) (by rw [ml_len]; omega) ((k : Int) % 16) 0 k 5 w
  have e := ml_full k h h2
  unfold ma at e
  rw [e.1, e.2] at hh
  exact hh
theorem mAll (k : Nat) (h : k ≤ 64) (w : World) : Calls Try.prog 15 #[.agg (lc (ml k)).toArray] w fun r w' => (∃ A c, r = .returned (.slice A k c)) ∧ But [] w w' := by
  have hh := all_c (ml k) (by rw [ml_len]; exact h) w
  rw [ml_len] at hh
  refine hh.mono ?_
  rintro r w' ⟨v, rfl, hq, kk⟩
  obtain ⟨A, c, rfl, -⟩ := hq.form
  exact ⟨⟨A, c, rfl⟩, kk⟩
set_option maxHeartbeats 4000000 in
theorem most_c (x : Int) (w : World) : Calls Try.prog 5 #[.int .i64 x] w fun r w' => r = .returned (.bool true) ∧ But [] w w' := by
  have hz := zList
  obtain ⟨n, hn⟩ : ∃ n : Nat, x % 128 = n := ⟨(x % 128).toNat, by omega⟩
  have hn128 : n < 128 := by omega
  have h127 := and127 x
  rw [hn] at h127
  obtain ⟨b, w0, hb, hw0, h0, k0⟩ := made_lt w []
  have H0 := hid h0
  have K0 := hid k0
  have HBW := hid hb
  have HAW := hid awake_c
  clear h0 k0 hn
  go_enter Try.func5, Try.ntmps5
  go_upto_region 3 with fail
  rw [← hw0, ← hb]
  clear hw0 hb h127
  go_wp2
  go_loopg [4] (n + 1) (fun g0 i wx => ∃ k : Nat, k + g0 = n + 1 ∧ k ≤ n ∧ i = .int .i64 k ∧ Hid (LtAt wx b (ml (min k 64))) ∧ Hid (But [] w wx))
  case atStart => exact ⟨0, by omega, by omega, rfl, H0.out, K0.out⟩
  case round =>
    clear H0 K0
    obtain ⟨k, hkg, hk, rfl, HV, HB⟩ := hrel
    by_cases hlt : k < n
    · have h15 := and15 (k : Int)
      by_cases h64 : k < 64
      · have HAK := hid (mAsk k h64)
        have HE : Hid (min (k + 1) 64 = k + 1) := by show _ = _; omega
        rw [show min k 64 = k by omega] at HV
        have HR := hid HV.out.all
        go_wp2_with (first
          | (refine wpList_load_mid rfl lT _ rfl b 0 rfl (lc (ml k)) _ HR.out Try.underlying27 rfl (iList _) ?_))
        refine (HAK.out _).mono ?_
        rintro r w5 ⟨rfl, k5⟩
        obtain ⟨b6, w6, hb6, hw6, h6, k6⟩ := made_lt w5 (ml (k + 1))
        have HR6 := hid h6.all
        have K6 := hid (HB.out.trans (k5.trans k6))
        have HT6 : Hid (w6.there b 0 (lc (ml (k + 1))).toArray.size) := by show World.there _ _ _ _; rw [lc_size]; exact (HV.out.keep0 (k5.trans k6)).there
        clear k5 k6 h6 HAK HR
        go_upto_region 7 with (first
          | (refine wpList_store_new rfl lT _ _ rfl (lc []).toArray (lc (ml (k + 1))).toArray rfl rfl (iList' _) (by rw [lc_size, lc_size]) (lc_all _) ?_))
        rw [← hw6, ← hb6]
        clear hw6 hb6 h15
        go_wp2_with (first
          | (refine wpList_load_mid rfl lT _ rfl b6 0 rfl (lc (ml (k + 1))) _ HR6.out Try.underlying27 rfl (iList _) ?_)
          | (refine wpList_store_mid rfl lT _ _ rfl b 0 (lc (ml (k + 1))).toArray rfl rfl ?ht (iList' _) (lc_all _) ?_; case ht => exact HT6.out))
        go_roundg (n + 1 - (k + 1))
        case measure => omega
        case rel => exact ⟨k + 1, by omega, by omega, by go_num, by rw [HE.out]; exact lt_sets (by have := HT6.out; rwa [lc_size] at this) _, but_own K6.out ((But.refl [b] _).setCells (by simp) _ _) (fun i hi => by simp at hi; have := HBW.out; omega)⟩
      · have HAK := hid (mFull k (by omega) (by omega))
        have HE : Hid (min (k + 1) 64 = 64) := by show _ = _; omega
        rw [show min k 64 = 64 by omega] at HV
        have HR := hid HV.out.all
        have hd : decide ((k : Int) < 64) = false := decide_eq_false (by omega)
        go_wp2_with (first
          | (refine wpList_load_mid rfl lT _ rfl b 0 rfl (lc (ml 64)) _ HR.out Try.underlying27 rfl (iList _) ?_))
        refine (HAK.out _).mono ?_
        rintro r w5 ⟨rfl, k5⟩
        obtain ⟨b6, w6, hb6, hw6, h6, k6⟩ := made_lt w5 (ml 64)
        have HR6 := hid h6.all
        have K6 := hid (HB.out.trans (k5.trans k6))
        have HT6 : Hid (w6.there b 0 (lc (ml 64)).toArray.size) := by show World.there _ _ _ _; rw [lc_size]; exact (HV.out.keep0 (k5.trans k6)).there
        clear k5 k6 h6 HAK HR
        go_upto_region 7 with (first
          | (refine wpList_store_new rfl lT _ _ rfl (lc []).toArray (lc (ml 64)).toArray rfl rfl (iList' _) (by rw [lc_size, lc_size]) (lc_all _) ?_))
        rw [← hw6, ← hb6]
        clear hw6 hb6 h15
        go_wp2_with (first
          | (refine wpList_load_mid rfl lT _ rfl b6 0 rfl (lc (ml 64)) _ HR6.out Try.underlying27 rfl (iList _) ?_)
          | (refine wpList_store_mid rfl lT _ _ rfl b 0 (lc (ml 64)).toArray rfl rfl ?ht (iList' _) (lc_all _) ?_; case ht => exact HT6.out))
        go_roundg (n + 1 - (k + 1))
        case measure => omega
        case rel => exact ⟨k + 1, by omega, by omega, by go_num, by rw [HE.out]; exact lt_sets (by have := HT6.out; rwa [lc_size] at this) _, but_own K6.out ((But.refl [b] _).setCells (by simp) _ _) (fun i hi => by simp at hi; have := HBW.out; omega)⟩
    · obtain rfl : k = n := by omega
      have HALL := hid (mAll (min k 64) (by omega))
      have HR := hid HV.out.all
      by_cases h64 : 64 < k
      · have e : min k 64 = 64 := by omega
        rw [e] at HALL HR
        clear e HV
        go_wp2_with (first
          | (refine wpList_load_mid rfl lT _ rfl b 0 rfl (lc (ml 64)) _ HR.out Try.underlying27 rfl (iList _) ?_))
        refine (HALL.out _).mono ?_
        rintro r w5 ⟨⟨A, c, rfl⟩, k5⟩
        have K5 := hid (HB.out.trans k5)
        clear k5
        go_wp2_with fail
        refine (HAW.out _).mono ?_
        rintro r w6 ⟨rfl, k6⟩
        have K6 := hid (K5.out.trans k6)
        clear k6
        go_wp2
        go_ret
        exact ⟨rfl, K6.out⟩
      · have e : min k 64 = k := by omega
        rw [e] at HALL HR
        clear e HV
        go_wp2_with (first
          | (refine wpList_load_mid rfl lT _ rfl b 0 rfl (lc (ml k)) _ HR.out Try.underlying27 rfl (iList _) ?_))
        refine (HALL.out _).mono ?_
        rintro r w5 ⟨⟨A, c, rfl⟩, k5⟩
        have K5 := hid (HB.out.trans k5)
        clear k5
        go_wp2_with fail
        refine (HAW.out _).mono ?_
        rintro r w6 ⟨rfl, k6⟩
        have K6 := hid (K5.out.trans k6)
        clear k6
        go_wp2
        go_ret
        exact ⟨rfl, K6.out⟩
end Go.Proofs.Ytfopmdiepaonnaa.Ao
