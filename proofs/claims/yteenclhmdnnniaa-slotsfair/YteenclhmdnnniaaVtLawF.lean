/-
  Layer 16 (slots): the contract of the statement that each has its share, over the translated program. (Written by tools/gen_vtf.py out of VtLawF.head.)
-/
import Derived.Test.YteenclhmdnnniaaVtLawW
namespace Go.Proofs.Yteenclhmdnnniaa.Vt
open Go.ChangeShapes Go.WideShapes Go.ChangeAt Go.RowKit
open Wh
set_option linter.unusedVariables false
set_option maxRecDepth 20000

theorem and31 (x : Int) : bits .and .i64 x 31 = x % 32 := and_mask64 5 31 x (by omega) (by decide)
/-- So many turns have been counted. -/
def CtAt (w : World) (b : Nat) (l : List Int) (k : Nat) : Prop := VB w b 16 fun j => .int .i64 (cnt j (l.take k))
theorem zArr (w : World) : Sem.run Try.prog (zeroValue 41) w = .ok (.agg (zi (tab 16 fun _ => 0)).toArray) w := by kernel_rfl
theorem ct_new (w : World) (l : List Int) : CtAt (w.alloc (.cells (zi (tab 16 fun _ => 0)).toArray 41)) w.heap.size l 0 :=
  VB.new w _ _ 16 (by simp [zi_len, tab_len]) _ fun j hj => by
    rw [List.getElem?_toArray, zi_get _ _ (by rw [tab_len]; exact hj), tab_get _ _ _ hj, List.take_zero, cnt_nil]
theorem CtAt.up {w : World} {b : Nat} {l : List Int} {k : Nat} (h : CtAt w b l k) (hk : k < l.length) (q : Nat) (hq : q < 16) (he : l.getD k 0 = (q : Int)) :
    CtAt (w.setCell ⟨b, q, none⟩ (.int .i64 (cnt q (l.take k) + 1))) b l (k + 1) := (VB.set h (k := q) _).congr fun j hj => by
  show (if j = q then Value.int .i64 (cnt q (l.take k) + 1) else .int .i64 (cnt j (l.take k))) = .int .i64 (cnt j (l.take (k + 1)))
  rw [cnt_take _ _ _ hk, he]
  by_cases e : j = q
  · subst e
    rw [if_pos rfl, if_pos rfl]
  · rw [if_neg e, if_neg (by omega), Int.add_zero]
/-- A row of the call's own, as it is read: where its block lies. -/
theorem que_rdz {w : World} {base n : Nat} {v : Value} {l : List Int} (h : Que w base 1 v n (zi l)) : ∃ A c, v = .slice A n c ∧ l.length = n ∧ Rd .i64 w base w.heap.size A l := by
  have hl : l.length = n := by have := h.1; rwa [zi_len, Nat.mul_one] at this
  rcases h.2 with ⟨rfl, rfl⟩ | ⟨g, off, cap, rfl, hb, hg, hnc, hcm, hth, hr⟩
  · exact ⟨_, _, rfl, hl, .inl (List.eq_nil_of_length_eq_zero hl)⟩
  · exact ⟨_, _, rfl, hl, .inr ⟨g, off, rfl, hb, hg, fun j hj => hr j _ (zi_get l j hj)⟩⟩
theorem rd_but {w w' : World} {lo hi : Nat} {A : Option Addr} {l : List Int} (h : Rd .i64 w lo hi A l) (hh : hi ≤ w.heap.size) {k : List Nat} (hk : But k w w') (hl : ∀ i ∈ k, i < lo ∨ hi ≤ i) : Rd .i64 w' lo hi A l := by
  rcases h with h | ⟨b, off, e, h1, h2, hc⟩
  · exact .inl h
  · exact .inr ⟨b, off, e, h1, h2, fun j hj => (hk.cell (p := ⟨b, off + j, none⟩) (Nat.lt_of_lt_of_le h2 hh) (fun hm => by have := hl b hm; omega)).trans (hc j hj)⟩
theorem rd_li {w : World} {lo hi : Nat} {A : Option Addr} {l : List Int} (h : Rd .i64 w lo hi A l) (hh : hi ≤ w.heap.size) : Li w A l := h.wider (Nat.zero_le _) hh
set_option maxHeartbeats 4000000 in
theorem fair_c (A : Option Addr) (n c : Nat) (s : Int) (w : World) (h : RowOf ks_flatInt w A n c) :
    Calls Try.prog 4 #[.slice A n c, .int .i64 s] w fun r w' => r = .returned (.bool true) ∧ But [] w w' := by
  have hz := zVec
  have hza := zArr
  obtain ⟨l, hln, hli⟩ := row_li h
  have hof := of_c A n c l w hli hln
  unfold vv at hof
  have HOF := hid hof
  have HAW := hid awake_c
  have HLN := hid hln
  have hand := and31 s
  have hs0 := Int.emod_nonneg s (b := 32) (by decide)
  have hs1 := Int.emod_lt_of_pos s (b := 32) (by decide)
  obtain ⟨m, hm⟩ : ∃ m : Nat, s % 32 = m := ⟨(s % 32).toNat, by omega⟩
  rw [hm] at hand
  have hm32 : m < 32 := by omega
  clear hof h hli hln hs0 hs1 hm
  go_enter Try.func4, Try.ntmps4
  go_wp2_with fail
  refine HOF.out.mono ?_
  rintro r w1 ⟨rfl, k1⟩
  obtain ⟨b, w2, hb, hw2, h2, k2⟩ := made_vt w1 (mk l)
  have H2 := hid h2
  have K2 := hid (k1.trans k2)
  clear h2 k2 HOF
  go_upto_region 2 with (first
    | (refine wpList_store_new rfl vT _ _ rfl (vc []).toArray (vc (mk l)).toArray rfl rfl (iVec' _) (by rw [vc_size, vc_size]) (vc_all _) ?_))
  rw [← hw2, ← hb]
  have hwb : w.heap.size ≤ b := by rw [hb]; exact k1.size
  clear hw2 hb k1
  cases hok : okB l with
  | false =>
    clear hok
    go_wp2_with fail
    refine (HAW.out _).mono ?_
    rintro r w5 ⟨rfl, k5⟩
    have K5 := hid (K2.out.trans k5)
    clear k5
    go_wp2
    go_ret
    exact ⟨rfl, K5.out⟩
  | true =>
    rw [mk_ok hok] at H2
    have HOK := hid hok
    have hn32 : n ≤ 32 := by have := okB_len hok; have := HLN.out; omega
    clear hok
    go_wp2
    go_loopg [7] (m + 1) (fun g0 i wx => ∃ k : Nat, k + g0 = m + 1 ∧ k ≤ m ∧ i = .int .i64 k ∧ ∃ L, Hid (VtAt wx b L) ∧ Hid (okB L = true) ∧ Hid (L.length = n) ∧ Hid (But [] w wx))
    case atStart => exact ⟨0, by omega, by omega, rfl, l, H2.out, HOK.out, HLN.out, K2.out⟩
    case round =>
      obtain ⟨k, hkg, hk, rfl, L, HV, HO, HL, HB⟩ := hrel
      have HRV := hid HV.out.all
      have hvb := HV.out.lt
      by_cases hlt : k < m
      · have HNX := hid (fun w => next_c L HO.out w)
        unfold vv at HNX
        obtain ⟨L2, hL2, HO2, HL2⟩ : ∃ L2, (∃ e f, nx L = .tuple #[.agg (vc L2).toArray, .int .i64 e, .bool f]) ∧ Hid (okB L2 = true) ∧ Hid (L2.length = n) := by
          refine ⟨rt L, ?_, rt_ok HO.out, (rt_len L).trans HL.out⟩
          cases L with
          | nil => exact ⟨_, _, rfl⟩
          | cons x r => exact ⟨_, _, rfl⟩
        obtain ⟨e, f, hnx⟩ := hL2
        rw [hnx] at HNX
        clear hnx
        go_wp2_with (first
          | (refine wpList_load_mid rfl vT _ rfl b 0 rfl (vc L) _ HRV.out Try.underlying25 rfl (iVec _) ?_))
        refine (HNX.out _).mono ?_
        rintro q w5 ⟨rfl, k5⟩
        have K5 := hid (HB.out.trans k5)
        have HT5 : Hid (w5.there b 0 (vc L2).toArray.size) := by show World.there _ _ _ _; rw [vc_size]; exact (HV.out.keep0 k5).there
        clear k5 HNX
        go_wp2_with (first
          | (refine wpList_store_mid rfl vT _ _ rfl b 0 (vc L2).toArray rfl rfl ?ht (iVec' _) (vc_all _) ?_; case ht => exact HT5.out))
        go_roundg (m + 1 - (k + 1))
        case measure => omega
        case rel => exact ⟨k + 1, by omega, by omega, by go_num, L2, vt_sets (by have := HT5.out; rwa [vc_size] at this) _, HO2.out, HL2.out, but_own K5.out ((But.refl [b] _).setCells (by simp) _ _) (fun i hi => by simp at hi; omega)⟩
      · obtain rfl : k = m := by omega
        have HAL := hid (fun w => all_c L (okB_len HO.out) w)
        rw [HL.out] at HAL
        unfold vv at HAL
        go_wp2_with (first
          | (refine wpList_load_mid rfl vT _ rfl b 0 rfl (vc L) _ HRV.out Try.underlying25 rfl (iVec _) ?_))
        refine (HAL.out _).mono ?_
        rintro q w5 ⟨v5, rfl, hq5, k5⟩
        obtain ⟨A5, c5, rfl, -, hli5⟩ := que_rdz hq5
        have HL5 : Hid (Rd .i64 w5 (b + 1) w5.heap.size A5 L) := hli5.wider (by omega) (Nat.le_refl _)
        have H5 := hid (HV.out.keep0 k5)
        have K5 := hid (HB.out.trans k5)
        clear hq5 k5 hli5 HRV
        go_upto_region 9 with fail
        obtain ⟨b6, hb6⟩ : ∃ b6, b6 = w5.heap.size := ⟨_, rfl⟩
        obtain ⟨w6, hw6⟩ : ∃ w6, w6 = w5.alloc (.cells (zi (tab 16 fun _ => 0)).toArray 41) := ⟨_, rfl⟩
        have HC6 : Hid (CtAt w6 b6 L 0) := by show CtAt _ _ _ _; rw [hw6, hb6]; exact ct_new w5 L
        have k6 : But [] w5 w6 := by rw [hw6]; exact (But.refl [] w5).alloc _
        have K6 := hid (K5.out.trans k6)
        have H6 := hid (H5.out.keep0 k6)
        have HL6 : Hid (Rd .i64 w6 (b + 1) b6 A5 L) := by show Rd _ _ _ _ _ _; rw [hb6]; exact rd_but HL5.out (Nat.le_refl _) k6 (by simp)
        have hbb : b ≠ b6 := by have := H5.out.lt; omega
        have hwb6 : w.heap.size ≤ b6 := by rw [hb6]; exact K5.out.size
        clear k6 H5 HL5 hvb
        go_upto_region 10 with fail
        rw [← hw6, ← hb6]
        clear hw6 hb6
        go_wp2
        go_loopg [10] (n + 1) (fun g0 i wx => ∃ k : Nat, k + g0 = n + 1 ∧ k ≤ n ∧ i = .int .i64 k ∧ Hid (VtAt wx b (rts L k)) ∧ Hid (CtAt wx b6 L k) ∧ Hid (Rd .i64 wx (b + 1) b6 A5 L) ∧ Hid (But [] w wx))
        case atStart => exact ⟨0, by omega, by omega, rfl, H6.out, HC6.out, HL6.out, K6.out⟩
        case round =>
          obtain ⟨k, hkg, hk, rfl, HV, HC, HI, HB⟩ := hrel
          by_cases hlt : k < n
          · obtain ⟨x0, hx0⟩ : ∃ x0, L.getD k 0 = x0 := ⟨_, rfl⟩
            have hkL : k < L.length := by have := HL.out; omega
            obtain ⟨r, e1, e2, e3⟩ := nx_rts L HO.out k hkL
            obtain ⟨hx1, hx2⟩ := okB_at HO.out hkL
            rw [hx0] at e1 e2 e3 hx1 hx2
            rw [e1] at HV
            obtain ⟨q, rfl⟩ : ∃ q : Nat, x0 = q := ⟨x0.toNat, by omega⟩
            have hq16 : q < 16 := by omega
            have HNX : Hid (∀ w, Calls Try.prog 10 #[.agg (vc ((q : Int) :: r)).toArray] w fun z w' => z = .returned (.tuple #[.agg (vc (r ++ [(q : Int)])).toArray, .int .i64 q, .bool true]) ∧ But [] w w') := fun w => next_c (q :: r) e3 w
            have HE2 := hid e2
            have HRV := hid HV.out.all
            have hvb := HV.out.lt
            have hbc := VB.lt HC.out (by omega)
            have HUP := hid (fun w (h : CtAt w b6 L k) => h.up hkL q hq16 hx0)
            have hcm0 := cnt_ge q (L.take k)
            have hcm1 := cnt_le q (L.take k)
            rw [List.length_take] at hcm1
            have HCM : Hid (∀ w, CtAt w b6 L k → w.cell? ⟨b6, q, none⟩ = some (.int .i64 (cnt q (L.take k))) ∧ w.frozen? ⟨b6, q, none⟩ = false) := fun w h => h q hq16
            generalize cnt q (L.take k) = cm at *
            have hcm : cm ≤ 32 := by omega
            clear e1 e2 e3 hx0 hkL hcm1
            go_wp2_with (first
              | (refine wpList_load_mid rfl vT _ rfl b 0 rfl (vc (q :: r)) _ HRV.out Try.underlying25 rfl (iVec _) ?_))
            refine (HNX.out _).mono ?_
            rintro z w7 ⟨rfl, k7⟩
            obtain ⟨b8, w8, hb8, hw8, h8, k8⟩ := made_vt w7 (r ++ [(q : Int)])
            have HR8 := hid h8.all
            have k78 := k7.trans k8
            have K8 := hid (HB.out.trans k78)
            have HT8 : Hid (w8.there b 0 (vc (r ++ [(q : Int)])).toArray.size) := by show World.there _ _ _ _; rw [vc_size]; exact (HV.out.keep0 k78).there
            have HC8 : Hid (CtAt w8 b6 L k) := VB.keep HC.out k78 (by simp)
            have HI8 := hid (rd_but HI.out (Nat.le_of_lt hbc) k78 (by simp))
            have hb86 : b8 ≠ b6 := by have := k7.size; omega
            have hs8 : wr.heap.size ≤ w8.heap.size := k78.size
            clear k7 k8 k78 h8 HNX
            go_upto_region 14 with (first
              | (refine wpList_store_new rfl vT _ _ rfl (vc []).toArray (vc (r ++ [(q : Int)])).toArray rfl rfl (iVec' _) (by rw [vc_size, vc_size]) (vc_all _) ?_))
            rw [← hw8, ← hb8]
            clear hw8 hb8
            obtain ⟨hcc, hcf⟩ := HCM.out _ HC8.out
            obtain ⟨w9, hw9⟩ : ∃ w9, w9 = w8.setCell ⟨b6, q, none⟩ (.int .i64 (cm + 1)) := ⟨_, rfl⟩
            have k9 : But [b6] w8 w9 := by rw [hw9]; exact (But.refl _ _).setCell (.inl (by simp)) _
            have HC9 : Hid (CtAt w9 b6 L (k + 1)) := by show CtAt _ _ _ _; rw [hw9]; exact HUP.out _ HC8.out
            have HR9 : Hid (w9.rangeAt b8 0 (vc (r ++ [(q : Int)]))) := range_keep HR8.out k9 (by simpa using hb86)
            have HT9 : Hid (w9.there b 0 (vc (r ++ [(q : Int)])).toArray.size) := there_keep HT8.out k9 (by omega) (by simpa using hbb)
            have HI9 := hid (rd_but HI8.out (by omega) k9 (by simp))
            have hvb9 : b < w9.heap.size := by have := k9.size; omega
            have hbc9 : b6 < w9.heap.size := by have := k9.size; omega
            have K9 := hid (but_own K8.out k9 (fun i hi => by simp at hi; omega))
            clear k9 hs8
            go_upto_region 17 with fail
            rw [← hw9]
            clear hw9 hcc hcf HR8 HT8 HC8 HI8 HCM HUP
            go_wp2_with (first
              | (refine wpList_load_mid rfl vT _ rfl b8 0 rfl (vc (r ++ [(q : Int)])) _ HR9.out Try.underlying25 rfl (iVec _) ?_)
              | (refine wpList_store_mid rfl vT _ _ rfl b 0 (vc (r ++ [(q : Int)])).toArray rfl rfl ?ht (iVec' _) (vc_all _) ?_; case ht => exact HT9.out))
            have kS : But [b] w9 (w9.setCells b 0 (vc (r ++ [(q : Int)]))) := (But.refl [b] _).setCells (by simp) _ _
            go_roundg (n + 1 - (k + 1))
            case measure => omega
            case rel => exact ⟨k + 1, by omega, by omega, by go_num, by rw [← HE2.out]; exact vt_sets (by have := HT9.out; rwa [vc_size] at this) _, VB.keep HC9.out kS (by simp; omega), rd_but HI9.out (Nat.le_of_lt hbc9) kS (by simp), but_own K9.out kS (fun i hi => by simp at hi; omega)⟩
          · obtain rfl : k = n := by omega
            have e1 : rts L k = L := by rw [← HL.out]; exact rts_all L
            have e2 : L.take k = L := by rw [← HL.out]; exact List.take_length
            rw [e1] at HV
            have HC2 : Hid (VB wr b6 16 fun j => .int .i64 (cnt j L)) := by have := HC.out; unfold CtAt at this; rwa [e2] at this
            have hvb := HV.out.lt
            have hbc := VB.lt HC2.out (by omega)
            clear e1 e2 HC
            obtain ⟨wz, rfl⟩ : ∃ wz, wz = wr := ⟨_, rfl⟩
            go_wp2
            go_loopg [14] 17 (fun g0 i wx => ∃ q : Nat, q + g0 = 17 ∧ q ≤ 16 ∧ i = .int .i64 q ∧ Hid (But [] wz wx))
            case atStart => exact ⟨0, by omega, by omega, rfl, But.refl _ _⟩
            case round =>
              obtain ⟨q, hqg, hq, rfl, HB2⟩ := hrel
              have HV2 := hid (HV.out.keep0 HB2.out)
              have HRV := hid HV2.out.all
              by_cases hlt : q < 16
              · have HSH := hid (fun w => share_c L HO.out q w)
                unfold vv at HSH
                have HCC : Hid (wr.cell? ⟨b6, q, none⟩ = some (.int .i64 (cnt q L))) := cell_keep (HC2.out q hlt).1 HB2.out (by simp)
                generalize cnt q L = cm at *
                go_upto_region 21 with fail
                refine wp_region_noPanic ?_
                refine wp_region_held_drew (S := fun w' => But [] wr w') (by kernel_rfl) (But.refl _ _).drew (fun hS0 => ?_)
                generalize wr.drew = wd at *
                refine held_take 0 (some 70) (.agg (vc L).toArray) rfl rfl (by kernel_rfl) (by kernel_rfl) (by kernel_rfl) (fun _ _ _ h => h) (yieldsIf_load_mid (by rfl) _ _ rfl b 0 rfl (vc L) _ (fun w' h => range_keep HRV.out h (by simp)) Try.underlying25 rfl (iVec _)) hS0 ?_
                simp only [Act.put, List.setIfInBounds_toArray, List.set_cons_zero, List.set_cons_succ]
                refine held_take 1 (some 71) (.int .i64 q) rfl rfl (by kernel_rfl) (by kernel_rfl) (by kernel_rfl) (fun _ _ _ h => h) (Or.inl ⟨by rfl, fun w' hw' => by go_simp⟩) hS0 ?_
                simp only [Act.put, List.setIfInBounds_toArray, List.set_cons_zero, List.set_cons_succ]
                refine held_take 3 (some 73) (.int .i64 q) rfl rfl (by kernel_rfl) (by kernel_rfl) (by kernel_rfl) (fun _ _ _ h => h) (Or.inl ⟨by rfl, fun w' hw' => by go_simp⟩) hS0 ?_
                simp only [Act.put, List.setIfInBounds_toArray, List.set_cons_zero, List.set_cons_succ]
                refine held_take 4 (some 74) (.pointer (some ⟨b6, q, none⟩)) rfl rfl (by kernel_rfl) (by kernel_rfl) (by kernel_rfl) (fun _ _ _ h => h) (Or.inl ⟨by rfl, fun w' hw' => by go_simp⟩) hS0 ?_
                simp only [Act.put, List.setIfInBounds_toArray, List.set_cons_zero, List.set_cons_succ]
                refine held_take 5 (some 75) (.int .i64 cm) rfl rfl (by kernel_rfl) (by kernel_rfl) (by kernel_rfl) (fun _ _ _ h => h) (Or.inl ⟨by rfl, fun w' hw' => by have hq0 := cell_keep HCC.out hw' (by simp); go_simp⟩) hS0 ?_
                simp only [Act.put, List.setIfInBounds_toArray, List.set_cons_zero, List.set_cons_succ]
                refine held_one 2 rfl (by kernel_rfl) (by rfl) (fun K hK => ?_)
                go_simp
                refine (HSH.out _).mono ?_
                rintro z w72 ⟨rfl, k72⟩
                go_wp2_with fail
                have hS1' : But [] wr w72 := hS0.trans k72
                skip
                refine hK.out _ _ hS1' (fun hS1 => ?_)
                clear hK K
                try simp only [Act.put, List.setIfInBounds_toArray, List.set_cons_zero, List.set_cons_succ]
                refine held_take 6 (some 76) (.bool false) rfl rfl (by kernel_rfl) (by kernel_rfl) (by kernel_rfl) (fun _ _ _ h => h) (Or.inl ⟨by rfl, fun w' hw' => by go_simp⟩) hS1 ?_
                simp only [Act.put, List.setIfInBounds_toArray, List.set_cons_zero, List.set_cons_succ]
                refine wpAnyH_done (by kernel_rfl) ?_ _
                refine NoPanic.normal ?_
                have hS9 := hS1
                clear hS1
                generalize w72 = w11 at *
                go_wp2
                go_roundg (17 - (q + 1))
                case measure => omega
                case rel => exact ⟨q + 1, by omega, by omega, by go_num, HB2.out.trans hS9⟩
              · obtain rfl : q = 16 := by omega
                have HAL := hid (fun w => all_c L (okB_len HO.out) w)
                rw [HL.out] at HAL
                unfold vv at HAL
                go_wp2_with (first
                  | (refine wpList_load_mid rfl vT _ rfl b 0 rfl (vc L) _ HRV.out Try.underlying25 rfl (iVec _) ?_))
                refine (HAL.out _).mono ?_
                rintro z w7 ⟨v7, rfl, hq7, k7⟩
                obtain ⟨A7, c7, rfl, -, hli7⟩ := que_li hq7
                have HL7 := hid hli7
                have hz7 : wz.heap.size ≤ w7.heap.size := (HB2.out.trans k7).size
                have HI7 : Hid (Li w7 A5 L) := rd_li (rd_but HI.out (Nat.le_of_lt hbc) (HB2.out.trans k7) (by simp)) (by omega)
                have K7 := hid (HB.out.trans (HB2.out.trans k7))
                clear hq7 k7 hli7 HRV HAL
                go_wp2_with fail
                refine (ints_c A7 A5 k c7 c5 L _ HL.out (by omega) HL7.out HI7.out).mono ?_
                rintro z w8 ⟨rfl, k8⟩
                have K8 := hid (K7.out.trans k8)
                clear k8
                go_wp2_with fail
                refine (HAW.out _).mono ?_
                rintro z w9 ⟨rfl, k9⟩
                have K9 := hid (K8.out.trans k9)
                clear k9
                go_wp2
                go_ret
                exact ⟨rfl, K9.out⟩
end Go.Proofs.Yteenclhmdnnniaa.Vt
