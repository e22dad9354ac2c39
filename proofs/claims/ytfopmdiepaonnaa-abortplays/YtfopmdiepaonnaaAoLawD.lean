/-
  Layer 17 (abort): the contract of the statement that what is not given back is taken in just the turn that was said, over the translated program. (Written by tools/gen_aod.py out of AoLawD.head.)
-/
import Derived.Test.YtfopmdiepaonnaaAoFlat
import Derived.Test.YtfopmdiepaonnaaTillB
import Derived.Deep.DeepCutAuto
namespace Go.Proofs.Ytfopmdiepaonnaa.Ao
open Go.ChangeShapes Go.WideShapes Go.ChangeAt Go.RowKit
open Wh
set_option linter.unusedVariables false
set_option maxRecDepth 20000

theorem due_boxes (w : World) (e k m t : Int) : ∃ bw wa, bw = w.heap.size ∧ wa = (w.alloc (.cells #[.int .i64 e, .int .i64 k, .int .i64 m, .int .i64 t] rW)).alloc (.cells (lc []).toArray lT) ∧
    wa.rangeAt bw 0 (Wn.vs ⟨e, k, m, t⟩) ∧ LtAt wa (bw + 1) [] ∧ wa.heap.size = bw + 2 ∧ But [] w wa := by
  have s1 : (w.alloc (.cells #[.int .i64 e, .int .i64 k, .int .i64 m, .int .i64 t] rW)).heap.size = w.heap.size + 1 := by simp
  have h1 : (w.alloc (.cells #[.int .i64 e, .int .i64 k, .int .i64 m, .int .i64 t] rW)).rangeAt w.heap.size 0 (Wn.vs ⟨e, k, m, t⟩) := new_range w (Wn.vs ⟨e, k, m, t⟩) rW
  have h2 := lt_new (w.alloc (.cells #[.int .i64 e, .int .i64 k, .int .i64 m, .int .i64 t] rW)) []
  rw [s1] at h2
  exact ⟨_, _, rfl, rfl, range_keep h1 ((But.refl [] _).alloc _) (by simp), h2, by simp, ((But.refl [] w).alloc _).alloc _⟩
/-- Of one name's wants: what is left of them, and what is due, behind a turn. -/
theorem key_dc (e k m : Int) (a : Wn) : key e k m (dc a) = key e k m a := rfl
theorem dn_key (e k m : Int) (l : List Wn) : (dn l).filter (key e k m) = dn (l.filter (key e k m)) := by
  unfold dn
  rw [List.filter_map]
  rfl
theorem tnD_key (e k m : Int) (l : List Wn) : (tnD l).filter (key e k m) = (dn (l.filter (key e k m))).filter z0 := by
  unfold tnD
  rw [List.filter_filter, ← dn_key, List.filter_filter]
  exact List.filter_congr fun a _ => Bool.and_comm _ _
theorem tnL_key (e k m : Int) (l : List Wn) : (tnL l).filter (key e k m) = (dn (l.filter (key e k m))).filter fun a => !z0 a := by
  unfold tnL
  rw [List.filter_filter, ← dn_key, List.filter_filter]
  exact List.filter_congr fun a _ => Bool.and_comm _ _
/-- What is wanted of one name in turn i: what was asked, so many turns less; nothing, once it was taken. -/
def ow (e k m t : Int) (i : Nat) : List Wn := if (i : Int) ≤ t then [⟨e, k, m, t - ((i : Int) - 1)⟩] else []
theorem ow_one {l : List Wn} {e k m t : Int} (h : l.any (key e k m) = false) : (l ++ [(⟨e, k, m, t⟩ : Wn)]).filter (key e k m) = [⟨e, k, m, t⟩] := by
  rw [List.filter_append, List.filter_eq_nil_iff.2 (fun a ha => by rw [List.any_eq_false] at h; exact h a ha), List.filter_cons_of_pos (show key e k m ⟨e, k, m, t⟩ = true from key_iff.2 ⟨rfl, rfl, rfl⟩)]
  rfl
theorem ow_turn (e k m t : Int) (i : Nat) : (dn (ow e k m t i)).filter (fun a => !z0 a) = ow e k m t (i + 1) ∧ ((dn (ow e k m t i)).filter z0).length = if (i : Int) = t then 1 else 0 := by
  unfold ow
  by_cases h1 : (i : Int) ≤ t
  · rw [if_pos h1]
    have e1 : dn [⟨e, k, m, t - ((i : Int) - 1)⟩] = [⟨e, k, m, t - ((i : Int) - 1) - 1⟩] := rfl
    rw [e1]
    by_cases h2 : (i : Int) = t
    · have hz : z0 ⟨e, k, m, t - ((i : Int) - 1) - 1⟩ = true := by show (t - ((i : Int) - 1) - 1 == 0) = true; simp; omega
      rw [List.filter_cons_of_neg (by rw [hz]; simp), List.filter_cons_of_pos hz, if_neg (by omega), if_pos h2]
      exact ⟨rfl, rfl⟩
    · have hz : z0 ⟨e, k, m, t - ((i : Int) - 1) - 1⟩ = false := by show (t - ((i : Int) - 1) - 1 == 0) = false; simp; omega
      rw [List.filter_cons_of_pos (by rw [hz]; rfl), List.filter_cons_of_neg (by rw [hz]; simp), if_pos (by omega), if_neg h2]
      refine ⟨?_, rfl⟩
      rw [show t - ((i : Int) - 1) - 1 = t - (((i + 1 : Nat) : Int) - 1) by omega]
      rfl
  · rw [if_neg h1, if_neg (by omega), if_neg (by omega)]
    exact ⟨rfl, rfl⟩
set_option maxHeartbeats 8000000 in
theorem due_c (A : Option Addr) (n c : Nat) (e k m t T : Int) (w : World) (h : RowOf ks_flatDeed w A n c) :
    Calls Try.prog 4 #[.slice A n c, .agg #[.int .i64 e, .int .i64 k, .int .i64 m, .int .i64 t], .int .i64 T] w fun r w' => r = .returned (.bool true) ∧ But [] w w' := by
  have hz := zList
  obtain ⟨D, hD⟩ := row_di h
  obtain ⟨bw, w0, hb, hw0, t1, t2, t3, t4⟩ := due_boxes w e k m t
  have HW0 := hid t1
  have HL0 := hid t2
  have HS0 := hid t3
  have K0 := hid t4
  have HBW := hid hb
  have HD := hid hD
  have HAW := hid awake_c
  clear t1 t2 t3 t4 hD h
  go_enter Try.func4, Try.ntmps4
  go_upto_region 2 with fail
  rw [← hw0, ← hb]
  clear hw0 hb
  obtain ⟨b, hbb⟩ : ∃ b, b = bw + 1 := ⟨_, rfl⟩
  rw [← hbb] at HL0 ⊢
  have HBB := hid hbb
  clear hbb
  go_upto_block 0 with fail
  go_cut [8] (fun s8 wx => ∃ L : List Wn, Hid (LtAt wx b L) ∧ Hid (Ok L) ∧ Hid (But [b] w0 wx))
  case first =>
    go_wp2
    go_loopg [8] 31 (fun g0 s8 wx => ∃ (i : Nat) (L : List Wn), i + g0 = 31 ∧ i ≤ 30 ∧ i ≤ n ∧ s8 = .int .i64 i ∧ Hid (LtAt wx b L) ∧ Hid (Ok L) ∧ Hid (But [b] w0 wx))
    case atStart => exact ⟨0, [], by omega, by omega, by omega, rfl, HL0.out, Ok.nil, But.refl _ _⟩
    case round =>
      clear HL0
      obtain ⟨i, L, hig, hi30, hin, rfl, HV, HO, HB⟩ := hrel
      by_cases hlt : i < n
      · by_cases h30 : i < 30
        · obtain ⟨g, off, hA, hg, hK, hrow⟩ := HD.out.at_ hlt
          subst hA
          have hgb : g ≠ b := by have := HBB.out; have := HBW.out; omega
          have hK1 := cell_keep (cell_keep hK K0.out (by simp)) HB.out (by simpa using hgb)
          have hrow1 := range_keep (range_keep hrow K0.out (by simp)) HB.out (by simpa using hgb)
          generalize D i = q at hK1 hrow1
          obtain ⟨K, ⟨x, y, z, u⟩⟩ := q
          have hK1 : wr.cell? ⟨g, off + i * 5, none⟩ = some (.int .i64 K) := hK1
          have CD := hid (deed_cells hrow1)
          clear hK hrow hrow1 hg
          by_cases h0 : 0 ≤ K
          · by_cases h3 : K ≤ 3
            · have HRV := hid HV.out.all
              have HT : Hid (∀ w', But [] wr w' → w'.there b 0 (lc (askL L ⟨x, y, z, u⟩)).toArray.size) := fun w' k => by show World.there _ _ _ _; rw [lc_size]; exact (HV.out.keep0 k).there
              have HAK : Hid (∀ w, Calls Try.prog 6 #[.agg (lc L).toArray, .agg #[.int .i64 x, .int .i64 y, .int .i64 z, .int .i64 u]] w fun r w' => r = .returned (.tuple #[.agg (lc (askL L ⟨x, y, z, u⟩)).toArray, .int .i64 (askC L ⟨x, y, z, u⟩)]) ∧ But [] w w') := fun w => ask_c L HO.out.1 x y z u w
              have HO2 := hid (HO.out.ask ⟨x, y, z, u⟩)
              generalize askL L ⟨x, y, z, u⟩ = L2 at *
              generalize askC L ⟨x, y, z, u⟩ = C at *
              go_upto_region 6 with fail
              clear hK1
              have hS0 : But [] wr wr.drew := (But.refl _ _).drew
              refine tib_begin (fun w' => But [] wr w') 11 (by kernel_rfl) ?_
              refine tib_take 0 (some 40) (.agg (lc L).toArray) rfl rfl (by kernel_rfl) (by kernel_rfl) (by kernel_rfl) (by kernel_rfl) (by decide) (fun _ _ _ h => h) (yieldsIf_load_mid (by rfl) _ _ rfl b 0 rfl (lc L) _ (fun w' h => range_keep HRV.out h (by simp)) Try.underlying27 rfl (iList _)) hS0 (by kernel_rfl) ?_
              simp only [Act.put, List.setIfInBounds_toArray, List.set_cons_zero, List.set_cons_succ]
              refine tib_take 1 (some 41) (.slice (some ⟨g, off, none⟩) n c) rfl rfl (by kernel_rfl) (by kernel_rfl) (by kernel_rfl) (by kernel_rfl) (by decide) (fun _ _ _ h => h) (Or.inl ⟨by rfl, fun w' hw' => by go_simp⟩) hS0 (by kernel_rfl) ?_
              simp only [Act.put, List.setIfInBounds_toArray, List.set_cons_zero, List.set_cons_succ]
              refine tib_take 2 (some 42) (.int .i64 i) rfl rfl (by kernel_rfl) (by kernel_rfl) (by kernel_rfl) (by kernel_rfl) (by decide) (fun _ _ _ h => h) (Or.inl ⟨by rfl, fun w' hw' => by go_simp⟩) hS0 (by kernel_rfl) ?_
              simp only [Act.put, List.setIfInBounds_toArray, List.set_cons_zero, List.set_cons_succ]
              refine tib_take 3 (some 43) (.pointer (some ⟨g, off + i * 5, none⟩)) rfl rfl (by kernel_rfl) (by kernel_rfl) (by kernel_rfl) (by kernel_rfl) (by decide) (fun _ _ _ h => h) (Or.inl ⟨by rfl, fun w' hw' => by go_simp⟩) hS0 (by kernel_rfl) ?_
              simp only [Act.put, List.setIfInBounds_toArray, List.set_cons_zero, List.set_cons_succ]
              refine tib_take 4 (some 44) (.pointer (some ⟨g, off + i * 5 + 1, none⟩)) rfl rfl (by kernel_rfl) (by kernel_rfl) (by kernel_rfl) (by kernel_rfl) (by decide) (fun _ _ _ h => h) (Or.inl ⟨by rfl, fun w' hw' => by go_simp⟩) hS0 (by kernel_rfl) ?_
              simp only [Act.put, List.setIfInBounds_toArray, List.set_cons_zero, List.set_cons_succ]
              refine tib_take 5 (some 45) (.agg #[.int .i64 x, .int .i64 y, .int .i64 z, .int .i64 u]) rfl rfl (by kernel_rfl) (by kernel_rfl) (by kernel_rfl) (by kernel_rfl) (by decide) (fun _ _ _ h => h) (Or.inl ⟨by rfl, fun w' hw' => by have hq0 := cell_keep CD.out.1 hw' (by simp); have hq1 := cell_keep CD.out.2.1 hw' (by simp); have hq2 := cell_keep CD.out.2.2.1 hw' (by simp); have hq3 := cell_keep CD.out.2.2.2 hw' (by simp); go_simp⟩) hS0 (by kernel_rfl) ?_
              simp only [Act.put, List.setIfInBounds_toArray, List.set_cons_zero, List.set_cons_succ]
              refine tib_one 6 rfl (by kernel_rfl) (by rfl) (fun K hK => ?_)
              go_simp
              refine (want_c x y z u _).mono ?_
              rintro r w7 ⟨rfl, k7⟩
              go_wp2_with fail
              have hS7 := hS0.trans k7
              refine hK.out _ _ ⟨fun _ _ => hS7, ?_⟩
              clear hK K
              try simp only [Act.put, List.setIfInBounds_toArray, List.set_cons_zero, List.set_cons_succ]
              refine tib_one 7 rfl (by kernel_rfl) (by rfl) (fun K hK => ?_)
              go_simp
              refine (HAK.out _).mono ?_
              rintro r w8 ⟨rfl, k8⟩
              go_wp2_with fail
              have hS8 := hS7.trans k8
              refine hK.out _ _ ⟨fun _ _ => hS8, ?_⟩
              clear hK K
              try simp only [Act.put, List.setIfInBounds_toArray, List.set_cons_zero, List.set_cons_succ]
              refine tib_take 8 (some 39) (.tuple #[.agg (lc L2).toArray, .int .i64 C]) rfl rfl (by kernel_rfl) (by kernel_rfl) (by kernel_rfl) (by kernel_rfl) (by decide) (fun _ _ _ h => h) (Or.inl ⟨by rfl, fun w' hw' => by go_simp⟩) hS8 (by kernel_rfl) ?_
              simp only [Act.put, List.setIfInBounds_toArray, List.set_cons_zero, List.set_cons_succ]
              refine tib_take 9 (some 48) (.agg (lc L2).toArray) rfl rfl (by kernel_rfl) (by kernel_rfl) (by kernel_rfl) (by kernel_rfl) (by decide) (fun _ _ _ h => h) (Or.inl ⟨by rfl, fun w' hw' => by go_simp⟩) hS8 (by kernel_rfl) ?_
              simp only [Act.put, List.setIfInBounds_toArray, List.set_cons_zero, List.set_cons_succ]
              refine tib_take0 10 (some 49) (.int .i64 C) rfl rfl (by kernel_rfl) (by kernel_rfl) (by kernel_rfl) (by decide) (fun _ _ _ h => h) (Or.inl ⟨by rfl, fun w' _ => by go_simp⟩) (fun _ => hS8) ?_
              simp only [Act.put, List.setIfInBounds_toArray, List.set_cons_zero, List.set_cons_succ]
              refine tib_one 11 rfl (by kernel_rfl) (by rfl) (fun K hK => ?_)
              refine wp_store_mid0 _ _ _ rfl b 0 (lc L2).toArray rfl rfl (HT.out _ hS8) (iList' _) (lc_all _) rfl ?_
              refine hK.out _ _ ⟨fun h => absurd rfl h, ?_⟩
              clear hK K
              refine tib_done (by kernel_rfl) ?_ _
              have HV9 : Hid (LtAt (w8.setCells b 0 (lc L2)) b L2) := lt_sets (by have := HT.out _ hS8; rwa [lc_size] at this) _
              have HB9 : Hid (But [b] w0 (w8.setCells b 0 (lc L2))) := (HB.out.trans (hS8.any _)).trans ((But.refl [b] _).setCells (by simp) _ _)
              clear hS8 HT HAK HRV HV HO HB
              go_wp2
              go_roundg (31 - (i + 1))
              case measure => omega
              case rel => exact ⟨i + 1, L2, by omega, by omega, by omega, by go_num, HV9.out, HO2.out, HB9.out⟩
            · have h3' : decide (K ≤ 3) = false := decide_eq_false h3
              go_wp2
              go_roundg (31 - (i + 1))
              case measure => omega
              case rel => exact ⟨i + 1, L, by omega, by omega, by omega, by go_num, HV.out, HO.out, HB.out⟩
          · have h0' : decide (0 ≤ K) = false := decide_eq_false h0
            go_wp2
            go_roundg (31 - (i + 1))
            case measure => omega
            case rel => exact ⟨i + 1, L, by omega, by omega, by omega, by go_num, HV.out, HO.out, HB.out⟩
        · obtain rfl : i = 30 := by omega
          go_wp2
          go_meet
          exact ⟨L, HV.out, HO.out, HB.out⟩
      · obtain rfl : i = n := by omega
        go_wp2
        go_meet
        exact ⟨L, HV.out, HO.out, HB.out⟩
  case rest =>
    obtain ⟨L, HV, HO, HB⟩ := hcut
    clear HL0
    have HRV := hid HV.out.all
    have HT : Hid (∀ w', But [] wc w' → w'.there b 0 (lc (askL L ⟨e, k, m, t⟩)).toArray.size) := fun w' k => by show World.there _ _ _ _; rw [lc_size]; exact (HV.out.keep0 k).there
    have HAK : Hid (∀ w, Calls Try.prog 6 #[.agg (lc L).toArray, .agg #[.int .i64 e, .int .i64 k, .int .i64 m, .int .i64 t]] w fun r w' => r = .returned (.tuple #[.agg (lc (askL L ⟨e, k, m, t⟩)).toArray, .int .i64 (askC L ⟨e, k, m, t⟩)]) ∧ But [] w w') := fun w => ask_c L HO.out.1 e k m t w
    have HO2 := hid (HO.out.ask ⟨e, k, m, t⟩)
    have HASK : Hid (askC L ⟨e, k, m, t⟩ = 0 → (askL L ⟨e, k, m, t⟩).filter (key e k m) = ow e k m t 1 ∧ 1 ≤ t ∧ t ≤ 100) := fun h0 => by
      obtain ⟨h1, h2, h3⟩ := ask_inv h0
      have h4 : 1 ≤ t ∧ t ≤ 100 := (mb_iff.1 h1).2.2.2.2.2.2
      rw [(ask_ok h1 h2 h3).2, ow_one h2]
      unfold ow
      rw [if_pos (by show ((1 : Nat) : Int) ≤ t; omega), show t - (((1 : Nat) : Int) - 1) = t by omega]
      exact ⟨rfl, by omega, by omega⟩
    generalize askL L ⟨e, k, m, t⟩ = L2 at *
    generalize askC L ⟨e, k, m, t⟩ = C at *
    have hbw : bw ≠ b := by have := HBB.out; omega
    have CW : Hid (wc.cell? ⟨bw, 0, none⟩ = some (.int .i64 e) ∧ wc.cell? ⟨bw, 1, none⟩ = some (.int .i64 k) ∧ wc.cell? ⟨bw, 2, none⟩ = some (.int .i64 m) ∧ wc.cell? ⟨bw, 3, none⟩ = some (.int .i64 t)) := by
      obtain ⟨c0, c1, c2, c3⟩ := four (range_keep HW0.out HB.out (by simpa using hbw))
      simp only [Nat.zero_add] at c1 c2 c3
      exact ⟨c0, c1, c2, c3⟩
    go_upto_region 7 with fail
    have hS0 : But [] wc wc.drew := (But.refl _ _).drew
    refine tib_begin (fun w' => But [] wc w') 7 (by kernel_rfl) ?_
    refine tib_take 0 (some 51) (.agg (lc L).toArray) rfl rfl (by kernel_rfl) (by kernel_rfl) (by kernel_rfl) (by kernel_rfl) (by decide) (fun _ _ _ h => h) (yieldsIf_load_mid (by rfl) _ _ rfl b 0 rfl (lc L) _ (fun w' h => range_keep HRV.out h (by simp)) Try.underlying27 rfl (iList _)) hS0 (by kernel_rfl) ?_
    simp only [Act.put, List.setIfInBounds_toArray, List.set_cons_zero, List.set_cons_succ]
    refine tib_take 1 (some 52) (.agg #[.int .i64 e, .int .i64 k, .int .i64 m, .int .i64 t]) rfl rfl (by kernel_rfl) (by kernel_rfl) (by kernel_rfl) (by kernel_rfl) (by decide) (fun _ _ _ h => h) (Or.inl ⟨by rfl, fun w' hw' => by have hq0 := cell_keep CW.out.1 hw' (by simp); have hq1 := cell_keep CW.out.2.1 hw' (by simp); have hq2 := cell_keep CW.out.2.2.1 hw' (by simp); have hq3 := cell_keep CW.out.2.2.2 hw' (by simp); go_simp⟩) hS0 (by kernel_rfl) ?_
    simp only [Act.put, List.setIfInBounds_toArray, List.set_cons_zero, List.set_cons_succ]
    refine tib_one 2 rfl (by kernel_rfl) (by rfl) (fun K hK => ?_)
    go_simp
    refine (want_c e k m t _).mono ?_
    rintro r w7 ⟨rfl, k7⟩
    go_wp2_with fail
    have hS7 := hS0.trans k7
    refine hK.out _ _ ⟨fun _ _ => hS7, ?_⟩
    clear hK K
    try simp only [Act.put, List.setIfInBounds_toArray, List.set_cons_zero, List.set_cons_succ]
    refine tib_one 3 rfl (by kernel_rfl) (by rfl) (fun K hK => ?_)
    go_simp
    refine (HAK.out _).mono ?_
    rintro r w8 ⟨rfl, k8⟩
    go_wp2_with fail
    have hS8 := hS7.trans k8
    refine hK.out _ _ ⟨fun _ _ => hS8, ?_⟩
    clear hK K
    try simp only [Act.put, List.setIfInBounds_toArray, List.set_cons_zero, List.set_cons_succ]
    refine tib_take 4 (some 50) (.tuple #[.agg (lc L2).toArray, .int .i64 C]) rfl rfl (by kernel_rfl) (by kernel_rfl) (by kernel_rfl) (by kernel_rfl) (by decide) (fun _ _ _ h => h) (Or.inl ⟨by rfl, fun w' hw' => by go_simp⟩) hS8 (by kernel_rfl) ?_
    simp only [Act.put, List.setIfInBounds_toArray, List.set_cons_zero, List.set_cons_succ]
    refine tib_take 5 (some 55) (.agg (lc L2).toArray) rfl rfl (by kernel_rfl) (by kernel_rfl) (by kernel_rfl) (by kernel_rfl) (by decide) (fun _ _ _ h => h) (Or.inl ⟨by rfl, fun w' hw' => by go_simp⟩) hS8 (by kernel_rfl) ?_
    simp only [Act.put, List.setIfInBounds_toArray, List.set_cons_zero, List.set_cons_succ]
    refine tib_take0 6 (some 56) (.int .i64 C) rfl rfl (by kernel_rfl) (by kernel_rfl) (by kernel_rfl) (by decide) (fun _ _ _ h => h) (Or.inl ⟨by rfl, fun w' _ => by go_simp⟩) (fun _ => hS8) ?_
    simp only [Act.put, List.setIfInBounds_toArray, List.set_cons_zero, List.set_cons_succ]
    refine tib_one 7 rfl (by kernel_rfl) (by rfl) (fun K hK => ?_)
    refine wp_store_mid0 _ _ _ rfl b 0 (lc L2).toArray rfl rfl (HT.out _ hS8) (iList' _) (lc_all _) rfl ?_
    refine hK.out _ _ ⟨fun h => absurd rfl h, ?_⟩
    clear hK K
    refine tib_take0 8 (some 9) (.int .i64 C) rfl rfl (by kernel_rfl) (by kernel_rfl) (by kernel_rfl) (by decide) (fun _ _ _ h => h) (Or.inl ⟨by rfl, fun w' _ => by go_simp⟩) (tib_past (by kernel_rfl)) ?_
    simp only [Act.put, List.setIfInBounds_toArray, List.set_cons_zero, List.set_cons_succ]
    refine tib_done (by kernel_rfl) ?_ _
    have HV9 : Hid (LtAt (w8.setCells b 0 (lc L2)) b L2) := lt_sets (by have := HT.out _ hS8; rwa [lc_size] at this) _
    have HB9 : Hid (But [b] w0 (w8.setCells b 0 (lc L2))) := (HB.out.trans (hS8.any _)).trans ((But.refl [b] _).setCells (by simp) _ _)
    clear hS8 HT HAK HRV HV HO HB CW
    try simp only [List.toList_toArray]
    generalize w8.setCells b 0 (lc L2) = w9 at *
    by_cases hC : C = 0
    · obtain ⟨hk0, ht1, ht2⟩ := HASK.out hC
      have HKY := hid hk0
      have CW : Hid (∀ wx, But [b] w0 wx → wx.cell? ⟨bw, 0, none⟩ = some (.int .i64 e) ∧ wx.cell? ⟨bw, 1, none⟩ = some (.int .i64 k) ∧ wx.cell? ⟨bw, 2, none⟩ = some (.int .i64 m) ∧ wx.cell? ⟨bw, 3, none⟩ = some (.int .i64 t)) := fun wx hx => by
        obtain ⟨c0, c1, c2, c3⟩ := four (range_keep HW0.out hx (by simpa using hbw))
        simp only [Nat.zero_add] at c1 c2 c3
        exact ⟨c0, c1, c2, c3⟩
      subst hC
      clear HASK hk0
      go_wp2
      go_loopg [10] 101 (fun g0 s10 wx => ∃ (i : Nat) (L : List Wn), i + g0 = 102 ∧ 1 ≤ i ∧ i ≤ 101 ∧ s10 = .int .i64 i ∧ Hid (LtAt wx b L) ∧ Hid (Ok L) ∧ Hid (L.filter (key e k m) = ow e k m t i) ∧ Hid (But [b] w0 wx))
      case atStart => exact ⟨1, L2, by omega, by omega, by omega, rfl, HV9.out, HO2.out, HKY.out, HB9.out⟩
      case round =>
        clear HV9 HB9 HKY HO2
        obtain ⟨i, L, hig, hi1, hi101, rfl, HV, HO, HKY, HB⟩ := hrel
        by_cases hlt : i ≤ 100
        · have hlI : (i : Int) ≤ 100 := by omega
          by_cases hT : (i : Int) ≤ T
          · have HRV := hid HV.out.all
            have HTC := hid (turn_c L HO.out wr)
            unfold vv at HTC
            go_wp2_with (first
              | (refine wpList_load_mid rfl lT _ rfl b 0 rfl (lc L) _ HRV.out Try.underlying27 rfl (iList _) ?_))
            refine HTC.out.mono ?_
            rintro r w3 ⟨A3, c3, rfl, hq3, k3⟩
            obtain ⟨b6, w6, hb6, hw6, h6, k6⟩ := made_lt w3 (tnL L)
            have HV6 := hid (HV.out.keep0 (k3.trans k6))
            have HR6 := hid h6.all
            have HB6 := hid (HB.out.trans ((k3.trans k6).any _))
            obtain ⟨A4, c4, e4, -, hli⟩ := que_li (hq3.keep0 k6)
            injection e4 with e41 e42 e43
            subst e41
            have HLD := hid hli
            have HO3 := hid HO.out.turn
            have HCN : Hid (((tnD L).filter (key e k m)).length = if (i : Int) = t then 1 else 0) := by show _ = _; rw [tnD_key, HKY.out]; exact (ow_turn e k m t i).2
            have HKN : Hid ((tnL L).filter (key e k m) = ow e k m t (i + 1)) := by show _ = _; rw [tnL_key, HKY.out]; exact (ow_turn e k m t i).1
            have hd64 : (tnD L).length ≤ 64 := Nat.le_trans (List.length_filter_le _ _) (by rw [dn_len]; exact HO.out.1)
            have hbL : b < w6.heap.size := HV6.out.lt
            clear hq3 k3 k6 h6 hli HTC HRV e42 e43
            go_upto_region 14 with (first
              | (refine wpList_store_new rfl lT _ _ rfl (lc []).toArray (lc (tnL L)).toArray rfl rfl (iList' _) (by simp only [lc_size]) (lc_all _) ?_))
            rw [← hw6, ← hb6]
            clear hw6 hb6
            generalize tnL L = L3 at *
            generalize tnD L = Du at *
            obtain ⟨p, hp⟩ : ∃ p, Du.length = p := ⟨_, rfl⟩
            rw [hp] at hd64 ⊢
            have HP := hid hp
            clear hp
            go_wp2
            go_loopg [13, 14] (p + 1) (fun g0 s13 s14 wx => ∃ (j cn : Nat), j + g0 = p + 1 ∧ j ≤ p ∧ cn ≤ j ∧ s13 = .int .i64 cn ∧ s14 = .int .i64 j ∧ Hid (((Du.take j).filter (key e k m)).length = cn) ∧ Hid (But [] w6 wx))
            case atStart => exact ⟨0, 0, by omega, by omega, by omega, rfl, rfl, rfl, But.refl _ _⟩
            case round =>
              obtain ⟨j, cn, hjg, hj, hcj, rfl, rfl, HC, HE⟩ := hrel
              by_cases hjp : j < p
              · have hjx : j < Du.length := by have := HP.out; omega
                obtain ⟨g, off, hA, hg, hrow⟩ := HLD.out.at_ hjx
                have hr := range_keep (hrow j hjx) HE.out (by simp)
                have HF := hid (filt_snoc (key e k m) Du j hjx)
                generalize Du.getD j nw = a at hr HF
                obtain ⟨x, y, z, u⟩ := a
                subst hA
                obtain ⟨h1, h2, h3, -⟩ := four hr
                obtain ⟨c0, c1, c2, -⟩ := CW.out wr (HB6.out.trans (HE.out.any _))
                clear hr hrow hjx hg
                by_cases e1 : x = e
                · by_cases e2 : y = k
                  · by_cases e3 : z = m
                    · have HC2 : Hid (((Du.take (j + 1)).filter (key e k m)).length = cn + 1) := by show _ = _; rw [HF.out, if_pos (key_iff.2 ⟨e1, e2, e3⟩), List.length_append, HC.out]; rfl
                      have q1 : (x == e) = true := by simp [e1]
                      have q2 : (y == k) = true := by simp [e2]
                      have q3 : (z == m) = true := by simp [e3]
                      clear e1 e2 e3 HF HC
                      go_upto_region 18 with fail
                      go_quiet (fail)
                      go_wp2
                      go_roundg (p + 1 - (j + 1))
                      case measure => omega
                      case rel => exact ⟨j + 1, cn + 1, by omega, by omega, by omega, by go_num, by go_num, HC2.out, HE.out.drewN _⟩
                    · have HC2 : Hid (((Du.take (j + 1)).filter (key e k m)).length = cn) := by show _ = _; rw [HF.out, if_neg (fun hh => e3 (key_iff.1 hh).2.2), HC.out]
                      have q1 : (x == e) = true := by simp [e1]
                      have q2 : (y == k) = true := by simp [e2]
                      have q3 : (z == m) = false := by simp [e3]
                      clear e1 e2 e3 HF HC
                      go_upto_region 18 with fail
                      go_quiet (fail)
                      go_wp2
                      go_roundg (p + 1 - (j + 1))
                      case measure => omega
                      case rel => exact ⟨j + 1, cn, by omega, by omega, by omega, rfl, by go_num, HC2.out, HE.out.drewN _⟩
                  · have HC2 : Hid (((Du.take (j + 1)).filter (key e k m)).length = cn) := by show _ = _; rw [HF.out, if_neg (fun hh => e2 (key_iff.1 hh).2.1), HC.out]
                    have q1 : (x == e) = true := by simp [e1]
                    have q2 : (y == k) = false := by simp [e2]
                    clear e1 e2 HF HC
                    go_upto_region 18 with fail
                    go_quiet (fail)
                    go_wp2
                    go_roundg (p + 1 - (j + 1))
                    case measure => omega
                    case rel => exact ⟨j + 1, cn, by omega, by omega, by omega, rfl, by go_num, HC2.out, HE.out.drewN _⟩
                · have HC2 : Hid (((Du.take (j + 1)).filter (key e k m)).length = cn) := by show _ = _; rw [HF.out, if_neg (fun hh => e1 (key_iff.1 hh).1), HC.out]
                  have q1 : (x == e) = false := by simp [e1]
                  clear e1 HF HC
                  go_upto_region 18 with fail
                  go_quiet (fail)
                  go_wp2
                  go_roundg (p + 1 - (j + 1))
                  case measure => omega
                  case rel => exact ⟨j + 1, cn, by omega, by omega, by omega, rfl, by go_num, HC2.out, HE.out.drewN _⟩
              · obtain rfl : j = p := by omega
                have hcn : cn = if (i : Int) = t then 1 else 0 := by
                  rw [← HC.out, ← HCN.out, ← HP.out, List.take_length]
                obtain ⟨-, -, -, c3'⟩ := CW.out wr (HB6.out.trans (HE.out.any _))
                have HRV9 : Hid (wr.rangeAt b6 0 (lc L3)) := range_keep HR6.out HE.out (by simp)
                have HT9 : Hid (wr.there b 0 (lc L3).toArray.size) := by show World.there _ _ _ _; rw [lc_size]; exact (HV6.out.keep0 HE.out).there
                have HV9 : Hid (LtAt (wr.setCells b 0 (lc L3)) b L3) := lt_sets (HV6.out.keep0 HE.out).there _
                have HB9 : Hid (But [b] w0 (wr.setCells b 0 (lc L3))) := (HB6.out.trans (HE.out.any _)).trans ((But.refl [b] _).setCells (by simp) _ _)
                by_cases hit : (i : Int) = t
                · rw [if_pos hit] at hcn
                  subst hcn
                  have q1 : ((i : Int) == t) = true := by simp [hit]
                  clear hit HC HCN
                  go_wp2_with (first
                    | (refine wpList_load_mid rfl lT _ rfl b6 0 rfl (lc L3) _ HRV9.out Try.underlying27 rfl (iList _) ?_)
                    | (refine wpList_store_mid rfl lT _ _ rfl b 0 (lc L3).toArray rfl rfl ?ht (iList' _) (lc_all _) ?_; case ht => exact HT9.out))
                  go_roundg (102 - (i + 1))
                  case measure => omega
                  case rel => exact ⟨i + 1, L3, by omega, by omega, by omega, by go_num, HV9.out, HO3.out, HKN.out, HB9.out⟩
                · rw [if_neg hit] at hcn
                  subst hcn
                  have q1 : ((i : Int) == t) = false := by simp [hit]
                  clear hit HC HCN
                  go_wp2_with (first
                    | (refine wpList_load_mid rfl lT _ rfl b6 0 rfl (lc L3) _ HRV9.out Try.underlying27 rfl (iList _) ?_)
                    | (refine wpList_store_mid rfl lT _ _ rfl b 0 (lc L3).toArray rfl rfl ?ht (iList' _) (lc_all _) ?_; case ht => exact HT9.out))
                  go_roundg (102 - (i + 1))
                  case measure => omega
                  case rel => exact ⟨i + 1, L3, by omega, by omega, by omega, by go_num, HV9.out, HO3.out, HKN.out, HB9.out⟩
          · have hT' : decide ((i : Int) ≤ T) = false := decide_eq_false hT
            go_wp2_with fail
            refine (HAW.out _).mono ?_
            rintro r w9 ⟨rfl, k9⟩
            have K9 := hid (but_own (l := [b]) K0.out (HB.out.trans (k9.any _)) (fun i hi => by simp at hi; have := HBB.out; have := HBW.out; omega))
            clear k9
            go_wp2
            go_ret
            exact ⟨rfl, K9.out⟩
        · obtain rfl : i = 101 := by omega
          go_wp2_with fail
          refine (HAW.out _).mono ?_
          rintro r w9 ⟨rfl, k9⟩
          have K9 := hid (but_own (l := [b]) K0.out (HB.out.trans (k9.any _)) (fun i hi => by simp at hi; have := HBB.out; have := HBW.out; omega))
          clear k9
          go_wp2
          go_ret
          exact ⟨rfl, K9.out⟩
    · have hC' : (C == 0) = false := by simp [hC]
      clear HASK
      go_wp2_with fail
      refine (HAW.out _).mono ?_
      rintro r w10 ⟨rfl, k9⟩
      have K9 := hid (but_own (l := [b]) K0.out (HB9.out.trans (k9.any _)) (fun i hi => by simp at hi; have := HBB.out; have := HBW.out; omega))
      clear k9
      go_wp2
      go_ret
      exact ⟨rfl, K9.out⟩
end Go.Proofs.Ytfopmdiepaonnaa.Ao
