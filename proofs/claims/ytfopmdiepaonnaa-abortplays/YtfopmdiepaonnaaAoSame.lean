/-
  Layer 17 (abort): contracts of what the statements call (want, same, awake), over the translated program.
-/
import Derived.Test.YtfopmdiepaonnaaAoAsk
namespace Go.Proofs.Ytfopmdiepaonnaa.Ao
open Go.ChangeShapes Go.WideShapes Go.ChangeAt Go.RowKit
open Wh
set_option linter.unusedVariables false
set_option maxRecDepth 20000

theorem want_c (e k m t : Int) (w : World) :
    Calls Try.prog 7 #[.agg #[.int .i64 e, .int .i64 k, .int .i64 m, .int .i64 t]] w fun r w' => r = .returned (.agg #[.int .i64 e, .int .i64 k, .int .i64 m, .int .i64 t]) ∧ But [] w w' := by
  go_enter Try.func7, Try.ntmps7
  go_wp2
  refine bodyPost_ret (results_range1 rfl _ _ (w.heap.size + 1) 0 [.int .i64 e, .int .i64 k, .int .i64 m, .int .i64 t] _ rfl (by simpa using new_range (w.alloc (.cells #[.int .i64 e, .int .i64 k, .int .i64 m, .int .i64 t] rW)) [.int .i64 e, .int .i64 k, .int .i64 m, .int .i64 t] wT) Try.underlying24 rfl szWant) rfl ?_
  exact ⟨rfl, ((But.refl _ _).alloc _).alloc _⟩
theorem eqWant (e k m t : Int) (w : World) : (Op.equalIn 10000 wT (.agg #[.int .i64 e, .int .i64 k, .int .i64 m, .int .i64 t]) (.agg #[.int .i64 e, .int .i64 k, .int .i64 m, .int .i64 t])).run Try.prog w = .ok true w := by
  rw [show (10000 : Nat) = 9999 + 1 from rfl, run_equalIn_struct w 9999 wT _ _ (by kernel_rfl) (by kernel_rfl)]
  simp [Program.fieldsOf, Try.underlying24, go_sem]
/-- Two wants' cells stand. -/
theorem r8b_keep {w w1 w2 : World} {g o B p : Nat} {a b c d a' b' c' d' : Value}
    (h : w1.cell? ⟨g, o, none⟩ = some a ∧ w1.cell? ⟨g, o + 1, none⟩ = some b ∧ w1.cell? ⟨g, o + 2, none⟩ = some c ∧ w1.cell? ⟨g, o + 3, none⟩ = some d ∧
      w1.cell? ⟨B, p, none⟩ = some a' ∧ w1.cell? ⟨B, p + 1, none⟩ = some b' ∧ w1.cell? ⟨B, p + 2, none⟩ = some c' ∧ w1.cell? ⟨B, p + 3, none⟩ = some d' ∧ But [] w w1) (k : But [] w1 w2) :
    w2.cell? ⟨g, o, none⟩ = some a ∧ w2.cell? ⟨g, o + 1, none⟩ = some b ∧ w2.cell? ⟨g, o + 2, none⟩ = some c ∧ w2.cell? ⟨g, o + 3, none⟩ = some d ∧
      w2.cell? ⟨B, p, none⟩ = some a' ∧ w2.cell? ⟨B, p + 1, none⟩ = some b' ∧ w2.cell? ⟨B, p + 2, none⟩ = some c' ∧ w2.cell? ⟨B, p + 3, none⟩ = some d' ∧ But [] w w2 := by
  obtain ⟨h1, h2, h3, h4, h5, h6, h7, h8, h9⟩ := h
  exact ⟨cell_keep h1 k (by simp), cell_keep h2 k (by simp), cell_keep h3 k (by simp), cell_keep h4 k (by simp), cell_keep h5 k (by simp), cell_keep h6 k (by simp), cell_keep h7 k (by simp), cell_keep h8 k (by simp), h9.trans k⟩
set_option maxHeartbeats 2000000 in
theorem same_c (A B : Option Addr) (n c d : Nat) (l : List Wn) (w : World) (hn : l.length = n) (hm : n ≤ 100000) (ha : Li w A l) (hb : Li w B l) :
    Calls Try.prog 14 #[.slice A n c, .slice B n d] w fun e w' => e = .returned (.bool true) ∧ But [] w w' := by
  have HN := hid hn
  have HA := hid ha
  have HB0 := hid hb
  clear hn ha hb
  go_enter Try.func14, Try.ntmps14
  go_wp2
  go_loopg [5] (n + 1) (fun g0 i wx => ∃ k : Nat, k + g0 = n + 1 ∧ k ≤ n ∧ i = .int .i64 k ∧ Hid (But [] w wx))
  case atStart => exact ⟨0, by omega, by omega, rfl, But.refl _ _⟩
  case round =>
    obtain ⟨k, hkg, hk, rfl, HB⟩ := hrel
    by_cases hlt : k < n
    · have hkl : k < l.length := by have := HN.out; omega
      obtain ⟨b1, o1, hA1, -, hr1⟩ := HA.out.at_ hkl
      obtain ⟨b2, o2, hA2, -, hr2⟩ := HB0.out.at_ hkl
      have q1 := range_keep (hr1 k hkl) HB.out (by simp)
      have q2 := range_keep (hr2 k hkl) HB.out (by simp)
      generalize l.getD k nw = a at q1 q2
      obtain ⟨x, y, z, t⟩ := a
      subst hA1
      subst hA2
      have hS : Hid (wr.drew.cell? ⟨b1, o1 + k * 4, none⟩ = some (.int .i64 x) ∧ wr.drew.cell? ⟨b1, o1 + k * 4 + 1, none⟩ = some (.int .i64 y) ∧ wr.drew.cell? ⟨b1, o1 + k * 4 + 2, none⟩ = some (.int .i64 z) ∧ wr.drew.cell? ⟨b1, o1 + k * 4 + 3, none⟩ = some (.int .i64 t) ∧
          wr.drew.cell? ⟨b2, o2 + k * 4, none⟩ = some (.int .i64 x) ∧ wr.drew.cell? ⟨b2, o2 + k * 4 + 1, none⟩ = some (.int .i64 y) ∧ wr.drew.cell? ⟨b2, o2 + k * 4 + 2, none⟩ = some (.int .i64 z) ∧ wr.drew.cell? ⟨b2, o2 + k * 4 + 3, none⟩ = some (.int .i64 t) ∧ But [] wr wr.drew) := by
        obtain ⟨c1, c2, c3, c4⟩ := four q1
        obtain ⟨d1, d2, d3, d4⟩ := four q2
        show _ ∧ _
        have k0 : But [] wr wr.drew := (But.refl [] wr).drew
        exact ⟨cell_keep c1 k0 (by simp), cell_keep c2 k0 (by simp), cell_keep c3 k0 (by simp), cell_keep c4 k0 (by simp), cell_keep d1 k0 (by simp), cell_keep d2 k0 (by simp), cell_keep d3 k0 (by simp), cell_keep d4 k0 (by simp), k0⟩
      have heq := eqWant x y z t
      clear q1 q2 hr1 hr2 hkl
      go_upto_region 6 with fail
      go_region_held3 (fun w' => w'.cell? ⟨b1, o1 + k * 4, none⟩ = some (.int .i64 x) ∧ w'.cell? ⟨b1, o1 + k * 4 + 1, none⟩ = some (.int .i64 y) ∧ w'.cell? ⟨b1, o1 + k * 4 + 2, none⟩ = some (.int .i64 z) ∧ w'.cell? ⟨b1, o1 + k * 4 + 3, none⟩ = some (.int .i64 t) ∧
          w'.cell? ⟨b2, o2 + k * 4, none⟩ = some (.int .i64 x) ∧ w'.cell? ⟨b2, o2 + k * 4 + 1, none⟩ = some (.int .i64 y) ∧ w'.cell? ⟨b2, o2 + k * 4 + 2, none⟩ = some (.int .i64 z) ∧ w'.cell? ⟨b2, o2 + k * 4 + 3, none⟩ = some (.int .i64 t) ∧ But [] wr w')
        (first | exact hS.out | assumption | exact r8b_keep (by assumption) (by assumption))
        (first
          | (go_at_call 7
             refine (want_c x y z t _).mono ?_
             rintro e w4 ⟨rfl, k4⟩))
      go_split_ands
      have hk4 : But [] wr w4 := by assumption
      have HB2 := hid (HB.out.trans hk4)
      go_wp2
      go_roundg (n + 1 - (k + 1))
      case measure => omega
      case rel => exact ⟨k + 1, by omega, by omega, by go_num, HB2.out⟩
    · obtain rfl : k = n := by omega
      go_wp2
      go_ret
      exact ⟨rfl, HB.out⟩
theorem aw_c : askC [] ⟨0, 0, 3, 2⟩ = 0 := by decide
theorem aw_l : askL [] ⟨0, 0, 3, 2⟩ = [⟨0, 0, 3, 2⟩] := by decide
theorem aw_t1 : tnL [⟨0, 0, 3, 2⟩] = [⟨0, 0, 3, 1⟩] := by decide
theorem aw_d1 : tnD [⟨0, 0, 3, 2⟩] = [] := by decide
theorem aw_t2 : tnL [⟨0, 0, 3, 1⟩] = [] := by decide
theorem aw_d2 : tnD [⟨0, 0, 3, 1⟩] = [⟨0, 0, 3, 0⟩] := by decide
theorem aw_ok1 : Ok [⟨0, 0, 3, 2⟩] := ⟨by decide, by decide⟩
theorem aw_ok2 : Ok [⟨0, 0, 3, 1⟩] := ⟨by decide, by decide⟩
theorem aw_ask (w : World) : Calls Try.prog 6 #[.agg (lc []).toArray, .agg #[.int .i64 0, .int .i64 0, .int .i64 3, .int .i64 2]] w fun r w' => r = .returned (.tuple #[.agg (lc [⟨0, 0, 3, 2⟩]).toArray, .int .i64 0]) ∧ But [] w w' := by
  have h := ask_c [] (by simp) 0 0 3 2 w
  rw [aw_c, aw_l] at h
  exact h
theorem aw_turn1 (w : World) : Calls Try.prog 12 #[.agg (lc [⟨0, 0, 3, 2⟩]).toArray] w fun r w' => (∃ A c, r = .returned (.tuple #[.agg (lc [⟨0, 0, 3, 1⟩]).toArray, .slice A 0 c])) ∧ But [] w w' := by
  refine (turn_c _ aw_ok1 w).mono ?_
  rintro r w' ⟨A, c, e, -, k⟩
  rw [aw_t1, aw_d1] at e
  exact ⟨⟨A, c, e⟩, k⟩
theorem aw_turn2 (w : World) : Calls Try.prog 12 #[.agg (lc [⟨0, 0, 3, 1⟩]).toArray] w fun r w' => (∃ g off c, r = .returned (.tuple #[.agg (lc []).toArray, .slice (some ⟨g, off, none⟩) 1 c]) ∧ w'.cell? ⟨g, off + 2, none⟩ = some (.int .i64 3)) ∧ But [] w w' := by
  refine (turn_c _ aw_ok2 w).mono ?_
  rintro r w' ⟨A, c, e, hq, k⟩
  rw [aw_t2, aw_d2] at e
  rw [aw_d2] at hq
  obtain ⟨A', c', e', -, hl⟩ := que_li hq
  injection e' with e1 e2 e3
  subst e1
  obtain ⟨g, off, rfl, -, hr⟩ := hl.at_ (k := 0) (by simp)
  have hr := hr 0 (by simp)
  rw [Nat.zero_mul, Nat.add_zero] at hr
  exact ⟨⟨g, off, c, e, (four hr).2.2.1⟩, k⟩
set_option maxHeartbeats 4000000 in
theorem awake_c (w : World) : Calls Try.prog 18 #[] w fun e w' => e = .returned (.bool true) ∧ But [] w w' := by
  have hz := zList
  obtain ⟨b, w0, hb, hw0, h0, k0⟩ := made_lt w []
  have H0 := hid h0
  have HR0 := hid h0.all
  have K0 := hid k0
  have HBW := hid hb
  clear h0 k0
  go_enter Try.func18, Try.ntmps18
  go_upto_region 2 with fail
  rw [← hw0, ← hb]
  clear hw0 hb
  go_wp2_with (first
    | (refine wpList_load_mid rfl lT _ rfl b 0 rfl (lc []) _ HR0.out Try.underlying27 rfl (iList _) ?_))
  refine (aw_ask w0).mono ?_
  rintro r w1 ⟨rfl, k1⟩
  have HT1 : Hid (w1.there b 0 (lc [⟨0, 0, 3, 2⟩]).toArray.size) := by show World.there _ _ _ _; rw [lc_size]; exact (H0.out.keep0 k1).there
  have HN1 : Hid (LtAt (w1.setCells b 0 (lc [⟨0, 0, 3, 2⟩])) b [⟨0, 0, 3, 2⟩]) := lt_sets (H0.out.keep0 k1).there _
  have KN1 : Hid (But [] w (w1.setCells b 0 (lc [⟨0, 0, 3, 2⟩]))) := but_own (K0.out.trans k1) ((But.refl [b] _).setCells (by simp) _ _) (fun i hi => by simp at hi; have := HBW.out; omega)
  clear k1 K0 H0
  go_upto_region 3 with (first
    | (refine wpList_store_mid rfl lT _ _ rfl b 0 (lc [⟨0, 0, 3, 2⟩]).toArray rfl rfl ?ht (iList' _) (lc_all _) ?_; case ht => exact HT1.out))
  try simp only [Array.toList_toArray, List.toList_toArray]
  generalize w1.setCells b 0 (lc [⟨0, 0, 3, 2⟩]) = w2 at *
  have HR2 := hid HN1.out.all
  go_wp2_with (first
    | (refine wpList_load_mid rfl lT _ rfl b 0 rfl (lc [⟨0, 0, 3, 2⟩]) _ HR2.out Try.underlying27 rfl (iList _) ?_))
  refine (aw_turn1 w2).mono ?_
  rintro r w3 ⟨⟨A, c, rfl⟩, k3⟩
  have HT3 : Hid (w3.there b 0 (lc [⟨0, 0, 3, 1⟩]).toArray.size) := by show World.there _ _ _ _; rw [lc_size]; exact (HN1.out.keep0 k3).there
  have HN3 : Hid (LtAt (w3.setCells b 0 (lc [⟨0, 0, 3, 1⟩])) b [⟨0, 0, 3, 1⟩]) := lt_sets (HN1.out.keep0 k3).there _
  have KN3 : Hid (But [] w (w3.setCells b 0 (lc [⟨0, 0, 3, 1⟩]))) := but_own (KN1.out.trans k3) ((But.refl [b] _).setCells (by simp) _ _) (fun i hi => by simp at hi; have := HBW.out; omega)
  clear k3 KN1 HN1 HR2
  go_upto_region 4 with (first
    | (refine wpList_store_mid rfl lT _ _ rfl b 0 (lc [⟨0, 0, 3, 1⟩]).toArray rfl rfl ?ht (iList' _) (lc_all _) ?_; case ht => exact HT3.out))
  try simp only [Array.toList_toArray, List.toList_toArray]
  generalize w3.setCells b 0 (lc [⟨0, 0, 3, 1⟩]) = w4 at *
  have HR4 := hid HN3.out.all
  go_wp2_with (first
    | (refine wpList_load_mid rfl lT _ rfl b 0 rfl (lc [⟨0, 0, 3, 1⟩]) _ HR4.out Try.underlying27 rfl (iList _) ?_))
  refine (aw_turn2 w4).mono ?_
  rintro r w5 ⟨⟨g, off, c5, rfl, hc⟩, k5⟩
  obtain ⟨b6, w6, hb6, hw6, h6, k6⟩ := made_lt w5 []
  have K6 := hid ((KN3.out.trans k5).trans k6)
  have hc6 := cell_keep hc k6 (by simp)
  clear h6 k6 k5 hc
  go_upto_region 5 with (first
    | (refine wpList_store_new rfl lT _ _ rfl (lc []).toArray (lc []).toArray rfl rfl (iList' _) (by rw [lc_size]) (lc_all _) ?_))
  rw [← hw6, ← hb6]
  clear hw6 hb6
  go_wp2
  go_ret
  exact ⟨rfl, K6.out⟩
end Go.Proofs.Ytfopmdiepaonnaa.Ao
