/-
  Layer 17 (abort): the contract of slices.MinFunc by name, over the translated program.
-/
import Derived.Test.YtfopmdiepaonnaaAoSplit
namespace Go.Proofs.Ytfopmdiepaonnaa.Ao
open Go.ChangeShapes Go.WideShapes Go.ChangeAt Go.RowKit
open Wh
set_option linter.unusedVariables false
set_option maxRecDepth 20000

theorem cLess (x1 y1 z1 t1 x2 y2 z2 t2 : Int) (W : World) (h1 : 0 ≤ z1 ∧ z1 ≤ 511) (h2 : 0 ≤ z2 ∧ z2 ≤ 511) :
    Calls Try.prog 31 #[.agg #[.int .i64 x1, .int .i64 y1, .int .i64 z1, .int .i64 t1], .agg #[.int .i64 x2, .int .i64 y2, .int .i64 z2, .int .i64 t2]] W fun r w' => r = .returned (.int .i64 (z1 - z2)) ∧ But [] W w' := by
  have HK := hid (((But.refl [] W).alloc (.cells #[.int .i64 x1, .int .i64 y1, .int .i64 z1, .int .i64 t1] wT)).alloc (.cells #[.int .i64 x2, .int .i64 y2, .int .i64 z2, .int .i64 t2] wT))
  obtain ⟨h10, h11⟩ := h1
  obtain ⟨h20, h21⟩ := h2
  have hw : IntKind.i64.wrap (z1 - z2) = z1 - z2 := by
    simp [IntKind.wrap, IntKind.signed, IntKind.bits]
    omega
  go_enter Try.func31, Try.ntmps31
  go_wp2
  go_ret
  exact ⟨rfl, HK.out⟩
/-- Two wants' cells stand. -/
theorem r8_keep {w w1 w2 : World} {g o B : Nat} {a b c d a' b' c' d' : Value}
    (h : w1.cell? ⟨g, o, none⟩ = some a ∧ w1.cell? ⟨g, o + 1, none⟩ = some b ∧ w1.cell? ⟨g, o + 2, none⟩ = some c ∧ w1.cell? ⟨g, o + 3, none⟩ = some d ∧
      w1.cell? ⟨B, 0, none⟩ = some a' ∧ w1.cell? ⟨B, 1, none⟩ = some b' ∧ w1.cell? ⟨B, 2, none⟩ = some c' ∧ w1.cell? ⟨B, 3, none⟩ = some d' ∧ But [] w w1) (k : But [] w1 w2) :
    w2.cell? ⟨g, o, none⟩ = some a ∧ w2.cell? ⟨g, o + 1, none⟩ = some b ∧ w2.cell? ⟨g, o + 2, none⟩ = some c ∧ w2.cell? ⟨g, o + 3, none⟩ = some d ∧
      w2.cell? ⟨B, 0, none⟩ = some a' ∧ w2.cell? ⟨B, 1, none⟩ = some b' ∧ w2.cell? ⟨B, 2, none⟩ = some c' ∧ w2.cell? ⟨B, 3, none⟩ = some d' ∧ But [] w w2 := by
  obtain ⟨h1, h2, h3, h4, h5, h6, h7, h8, h9⟩ := h
  exact ⟨cell_keep h1 k (by simp), cell_keep h2 k (by simp), cell_keep h3 k (by simp), cell_keep h4 k (by simp), cell_keep h5 k (by simp), cell_keep h6 k (by simp), cell_keep h7 k (by simp), cell_keep h8 k (by simp), h9.trans k⟩
theorem want_sets {w : World} {B : Nat} (h : w.there B 0 4) (a : Wn) : VB (w.setCells B 0 a.vs) B 4 fun j => .int .i64 (a.at_ j) := fun j hj => by
  have hR := World.rangeAt_setCells_same w B 0 a.vs h
  have hT := World.there_setCells h B 0 a.vs
  refine ⟨?_, ?_⟩
  · have := hR j _ (Wn.vs_get a j hj); rwa [Nat.zero_add] at this
  · have := (hT j hj).2; rwa [Nat.zero_add] at this
set_option maxHeartbeats 4000000 in
theorem min_c (A : Option Addr) (n c : Nat) (l : List Wn) (w : World) (h : Li w A l) (hn : l.length = n) (hm : n ≤ 100) (h0 : 0 < n) (hr : ∀ a ∈ l, 0 ≤ a.n ∧ a.n ≤ 511) :
    Calls Try.prog 30 #[.slice A n c, .func (.func 31) #[] #[]] w fun e w' => ∃ x y z t : Int, e = .returned (.agg #[.int .i64 x, .int .i64 y, .int .i64 z, .int .i64 t]) ∧ (⟨x, y, z, t⟩ : Wn) ∈ l ∧ (∀ b ∈ l, z ≤ b.n) ∧ But [] w w' := by
  have HL := hid h
  have HN := hid hn
  have HR := hid hr
  have hzw : ∀ w, (zeroValue wT).run Try.prog w = .ok (.agg #[.int .i64 0, .int .i64 0, .int .i64 0, .int .i64 0]) w := fun w => by kernel_rfl
  obtain ⟨R, hR⟩ : ∃ R, R = w.heap.size := ⟨_, rfl⟩
  obtain ⟨wa, hwa⟩ : ∃ wa, wa = w.alloc (.cells #[.int .i64 0, .int .i64 0, .int .i64 0, .int .i64 0] wT) := ⟨_, rfl⟩
  have k1 : But [] w wa := by rw [hwa]; exact (But.refl [] w).alloc _
  have hs1 : wa.heap.size = R + 1 := by rw [hwa, hR]; simp
  have ht1 : wa.there R 0 4 := by rw [hwa, hR]; exact there_new w _ _ 4 rfl
  obtain ⟨g, off, hA, hg, hrow⟩ := (h.keep k1).at_ (k := 0) (by omega)
  subst hA
  have hr0 := hrow 0 (by omega)
  rw [Nat.zero_mul, Nat.add_zero] at hr0
  have HM0 : Hid (l.getD 0 nw ∈ l ∧ ∀ q, q < 1 → (l.getD 0 nw).n ≤ (l.getD q nw).n) := ⟨getD_mem (by omega), fun q hq => by
    obtain rfl : q = 0 := by omega
    exact Int.le_refl _⟩
  generalize l.getD 0 nw = a at hr0 HM0
  obtain ⟨x, y, z, t⟩ := a
  obtain ⟨h1, h2, h3, h4⟩ := four hr0
  obtain ⟨B, hB⟩ : ∃ B, B = wa.heap.size := ⟨_, rfl⟩
  obtain ⟨wb, hwb⟩ : ∃ wb, wb = wa.alloc (.cells #[.int .i64 x, .int .i64 y, .int .i64 z, .int .i64 t] wT) := ⟨_, rfl⟩
  have k2 : But [] wa wb := by rw [hwb]; exact (But.refl [] wa).alloc _
  have hvB : VB wb B 4 fun j => .int .i64 (Wn.at_ ⟨x, y, z, t⟩ j) := by
    rw [hwb, hB]
    exact VB.new wa (Wn.vs ⟨x, y, z, t⟩).toArray wT 4 rfl _ fun j hj => by rw [List.getElem?_toArray]; exact Wn.vs_get _ j hj
  have HVB := hid hvB
  have HROW : Hid (∀ q, q < n → wb.rangeAt g (off + q * 4) (l.getD q nw).vs) := fun q hq => range_keep (hrow q (by rw [hn]; exact hq)) k2 (by simp)
  have HK := hid (k1.trans k2)
  have HSZ : Hid (B = R + 1 ∧ R = w.heap.size ∧ g < B) := ⟨by omega, hR, by omega⟩
  have HT := hid (there_keep ht1 k2 (by omega) (by simp))
  have hn1 : ¬ ((n : Int) < 1) := by omega
  clear hrow hr0 h hn hr hvB k1 k2 ht1 hs1 hg HL
  go_enter Try.func30, Try.ntmps30
  go_upto_region 1 with fail
  rw [← hwa, ← hR]
  clear hwa hR
  go_upto_region 4 with fail
  rw [← hwb, ← hB]
  clear hwb hB h1 h2 h3 h4
  go_wp2
  go_loopg [6] n (fun g0 i wx => ∃ (j : Nat) (x y z t : Int), j + g0 = n + 1 ∧ 1 ≤ j ∧ j ≤ n ∧ i = .int .i64 j ∧ Hid (VB wx B 4 fun j => .int .i64 (Wn.at_ ⟨x, y, z, t⟩ j)) ∧ Hid ((⟨x, y, z, t⟩ : Wn) ∈ l ∧ ∀ q, q < j → z ≤ (l.getD q nw).n) ∧ Hid (But [B] wb wx))
  case atStart => exact ⟨1, x, y, z, t, by omega, by omega, by omega, rfl, HVB.out, HM0.out, But.refl _ _⟩
  case round =>
    clear HM0 HVB
    obtain ⟨j, x1, y1, z1, t1, hjg, hj1, hj, rfl, HV, HM, HB⟩ := hrel
    have hsB := HSZ.out.2.2
    have hln := HN.out
    by_cases hlt : j < n
    · have hlx : j < l.length := by have := HN.out; omega
      have hr := range_keep (HROW.out j hlt) HB.out (by simp; omega)
      have HIN : Hid (l.getD j nw ∈ l) := getD_mem hlx
      have HX1 : Hid (∀ q, q < j + 1 → q = j ∨ q < j) := fun q hq => by omega
      have HNM := hid (HR.out _ (getD_mem hlx))
      have HNM1 := hid (HR.out _ HM.out.1)
      obtain ⟨a, ha⟩ : ∃ a, a = l.getD j nw := ⟨_, rfl⟩
      rw [← ha] at hr HIN HNM
      have HA := hid ha
      obtain ⟨x2, y2, z2, t2⟩ := a
      have hcB : wr.rangeAt B 0 (Wn.vs ⟨x1, y1, z1, t1⟩) := HV.out.range _ (by show 0 + 4 ≤ 4; omega) fun i hi => by rw [Wn.vs_get _ i hi, Nat.zero_add]
      obtain ⟨c1, c2, c3, c4⟩ := four hr
      obtain ⟨d1, d2, d3, d4⟩ := four hcB
      simp only [Nat.zero_add] at d2 d3 d4
      have hS : Hid (wr.drew.cell? ⟨g, off + j * 4, none⟩ = some (.int .i64 x2) ∧ wr.drew.cell? ⟨g, off + j * 4 + 1, none⟩ = some (.int .i64 y2) ∧ wr.drew.cell? ⟨g, off + j * 4 + 2, none⟩ = some (.int .i64 z2) ∧ wr.drew.cell? ⟨g, off + j * 4 + 3, none⟩ = some (.int .i64 t2) ∧
          wr.drew.cell? ⟨B, 0, none⟩ = some (.int .i64 x1) ∧ wr.drew.cell? ⟨B, 1, none⟩ = some (.int .i64 y1) ∧ wr.drew.cell? ⟨B, 2, none⟩ = some (.int .i64 z1) ∧ wr.drew.cell? ⟨B, 3, none⟩ = some (.int .i64 t1) ∧ But [] wr wr.drew) :=
        r8_keep ⟨c1, c2, c3, c4, d1, d2, d3, d4, But.refl [] wr⟩ (But.refl [] wr).drew
      clear hlx ha hr hcB c1 c2 c3 c4 d1 d2 d3 d4
      go_upto_region 7 with fail
      go_region_held3 (fun w' => w'.cell? ⟨g, off + j * 4, none⟩ = some (.int .i64 x2) ∧ w'.cell? ⟨g, off + j * 4 + 1, none⟩ = some (.int .i64 y2) ∧ w'.cell? ⟨g, off + j * 4 + 2, none⟩ = some (.int .i64 z2) ∧ w'.cell? ⟨g, off + j * 4 + 3, none⟩ = some (.int .i64 t2) ∧
          w'.cell? ⟨B, 0, none⟩ = some (.int .i64 x1) ∧ w'.cell? ⟨B, 1, none⟩ = some (.int .i64 y1) ∧ w'.cell? ⟨B, 2, none⟩ = some (.int .i64 z1) ∧ w'.cell? ⟨B, 3, none⟩ = some (.int .i64 t1) ∧ But [] wr w')
        (first | exact hS.out | assumption | exact r8_keep (by assumption) (by assumption))
        (first
          | (go_at_call 31
             refine (cLess x2 y2 z2 t2 x1 y1 z1 t1 _ HNM.out HNM1.out).mono ?_
             rintro e w3 ⟨rfl, k3⟩))
      go_split_ands
      have hk3 : But [] wr w3 := by assumption
      have K3 := hid hk3
      have HV3 := hid (HV.out.keep hk3 (by simp))
      have hc1 : w3.cell? ⟨g, off + j * 4, none⟩ = some (.int .i64 x2) := by assumption
      have hc2 : w3.cell? ⟨g, off + j * 4 + 1, none⟩ = some (.int .i64 y2) := by assumption
      have hc3 : w3.cell? ⟨g, off + j * 4 + 2, none⟩ = some (.int .i64 z2) := by assumption
      have hc4 : w3.cell? ⟨g, off + j * 4 + 3, none⟩ = some (.int .i64 t2) := by assumption
      rename_i q1 q2 q3 q4 q5 q6 q7 q8 q9
      clear q1 q2 q3 q4 q5 q6 q7 q8 q9 k3 hS hk3
      by_cases hz : z2 - z1 < 0
      · have HM2 : Hid ((⟨x2, y2, z2, t2⟩ : Wn) ∈ l ∧ ∀ q, q < j + 1 → z2 ≤ (l.getD q nw).n) := ⟨HIN.out, fun q hq => by
          rcases HX1.out q hq with rfl | h
          · rw [← HA.out]; exact Int.le_refl _
          · have := HM.out.2 q h; omega⟩
        have hth := HV3.out.there (o := 0) (k := 4) (by omega)
        have HTH := hid hth
        have HV4 := hid (want_sets hth ⟨x2, y2, z2, t2⟩)
        have HB4 : Hid (But [B] wb (w3.setCells B 0 (Wn.vs ⟨x2, y2, z2, t2⟩))) := (HB.out.trans (K3.out.any _)).setCells (.inl (by simp)) _ _
        clear hth
        go_wp2_with (first
          | (refine wpList_store_mid rfl wT _ _ rfl B 0 (Wn.vs ⟨x2, y2, z2, t2⟩).toArray rfl rfl ?ht szWant (all_oneCell_toArray (vs_one _)) ?_; case ht => exact HTH.out))
        go_roundg (n + 1 - (j + 1))
        case measure => omega
        case rel => exact ⟨j + 1, x2, y2, z2, t2, by omega, by omega, by omega, by go_num, HV4.out, HM2.out, HB4.out⟩
      · have HM2 : Hid ((⟨x1, y1, z1, t1⟩ : Wn) ∈ l ∧ ∀ q, q < j + 1 → z1 ≤ (l.getD q nw).n) := ⟨HM.out.1, fun q hq => by
          rcases HX1.out q hq with rfl | h
          · rw [← HA.out]; show z1 ≤ z2; omega
          · exact HM.out.2 q h⟩
        have HB4 := hid (HB.out.trans (K3.out.any _))
        go_wp2
        go_roundg (n + 1 - (j + 1))
        case measure => omega
        case rel => exact ⟨j + 1, x1, y1, z1, t1, by omega, by omega, by omega, by go_num, HV3.out, HM2.out, HB4.out⟩
    · obtain rfl : j = n := by omega
      have HALL : Hid (∀ b ∈ l, z1 ≤ b.n) := fun b hb => by
        obtain ⟨q, hq, rfl⟩ := mem_getD hb
        exact HM.out.2 q (by omega)
      have hcB : wr.rangeAt B 0 (Wn.vs ⟨x1, y1, z1, t1⟩) := HV.out.range _ (by show 0 + 4 ≤ 4; omega) fun i hi => by rw [Wn.vs_get _ i hi, Nat.zero_add]
      obtain ⟨d1, d2, d3, d4⟩ := four hcB
      simp only [Nat.zero_add] at d2 d3 d4
      have HT2 := hid (there_keep HT.out HB.out (by have := HSZ.out; have := HV.out.lt (by omega); have := HB.out.size; have := lt_of_there HT.out (by omega); omega) (by have := HSZ.out; simp; omega))
      clear hcB
      go_wp2_with (first
        | (refine wpList_store_mid rfl wT _ _ rfl R 0 (Wn.vs ⟨x1, y1, z1, t1⟩).toArray rfl rfl ?ht szWant (all_oneCell_toArray (vs_one _)) ?_; case ht => exact HT2.out))
      refine bodyPost_ret (results_range1 rfl _ _ R 0 (Wn.vs ⟨x1, y1, z1, t1⟩) _ rfl (World.rangeAt_setCells_same _ _ _ _ HT2.out) Try.underlying24 rfl szWant) rfl ?_
      exact ⟨x1, y1, z1, t1, rfl, HM.out.1, HALL.out, but_own (but_own HK.out HB.out (fun i hi => by simp at hi; have := HSZ.out; omega)) ((But.refl [R] _).setCells (by simp) _ _) (fun i hi => by simp at hi; have := HSZ.out; omega)⟩
end Go.Proofs.Ytfopmdiepaonnaa.Ao
