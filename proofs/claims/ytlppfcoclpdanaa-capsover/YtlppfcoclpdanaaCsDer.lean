/-
  Layer 12 (caps): the contract of Derive, over the translated program.
-/
import Derived.Test.YtlppfcoclpdanaaCsPut
namespace Go.Proofs.Ytlppfcoclpdanaa.Cs
open Go.ChangeShapes Go.WideShapes Go.ChangeAt Go.RowKit
open Wh Sn
set_option linter.unusedVariables false
set_option maxRecDepth 20000

/-- The boxes of Derive. -/
structure Db (w : World) (B : Nat) (at_ : Int) (g : Nat) (A : Option Addr) (n c : Nat) (wx : World) : Prop where
  c1 : wx.cell? ⟨B, 0, none⟩ = some (.int .i64 at_)
  c2 : wx.cell? ⟨B, 1, none⟩ = some (.int .u64 g)
  c3 : wx.cell? ⟨B + 1, 0, none⟩ = some (.slice A n c)
  th : wx.there (B + 2) 0 2
  but : But [] w wx
theorem Db.keep {w wx wy : World} {B g n c : Nat} {at_ : Int} {A : Option Addr} (h : Db w B at_ g A n c wx) (k : But [] wx wy) : Db w B at_ g A n c wy :=
  ⟨cell_keep h.c1 k (by simp), cell_keep h.c2 k (by simp), cell_keep h.c3 k (by simp), there_keep h.th k (lt_of_there h.th (by omega)) (by simp), h.but.trans k⟩
theorem three_boxes (w : World) (x y : Int) (v : Value) (t t' t2 : TypeId) (cs : List Value) (hcs : cs.length = 2) :
    Db w w.heap.size x 0 none 0 0 (((w.alloc (.cells #[.int .i64 x, .int .u64 0] t)).alloc (.cells #[.slice none 0 0] t')).alloc (.cells cs.toArray t2)) := by
  obtain ⟨r1, r2, r3, r4, r5⟩ := two_box w [.int .i64 x, .int .u64 0] [.slice none 0 0] t t'
  have k : But [] ((w.alloc (.cells #[.int .i64 x, .int .u64 0] t)).alloc (.cells #[.slice none 0 0] t')) (((w.alloc (.cells #[.int .i64 x, .int .u64 0] t)).alloc (.cells #[.slice none 0 0] t')).alloc (.cells cs.toArray t2)) := (But.refl [] _).alloc _
  have h3 := there_new ((w.alloc (.cells #[.int .i64 x, .int .u64 0] t)).alloc (.cells #[.slice none 0 0] t')) cs.toArray t2 2 (by simpa using hcs)
  have e : ((w.alloc (.cells #[.int .i64 x, .int .u64 0] t)).alloc (.cells #[.slice none 0 0] t')).heap.size = w.heap.size + 2 := r4
  rw [e] at h3
  exact ⟨cell_keep (range_cells r1 0 _ rfl) k (by simp), cell_keep (range_cells r1 1 _ rfl) k (by simp), cell_keep (range_cells r2 0 _ rfl) k (by simp), h3, r5.trans k⟩
theorem boxes3 (w : World) (x : Int) (g : Nat) (A : Option Addr) (n c : Nat) (t t' t2 : TypeId) :
    Db w w.heap.size x g A n c (((w.alloc (.cells #[.int .i64 x, .int .u64 g] t)).alloc (.cells #[.slice A n c] t')).alloc (.cells #[.int .i64 0, .int .u64 0] t2)) := by
  obtain ⟨r1, r2, r3, r4, r5⟩ := two_box w [.int .i64 x, .int .u64 g] [.slice A n c] t t'
  have k : But [] ((w.alloc (.cells #[.int .i64 x, .int .u64 g] t)).alloc (.cells #[.slice A n c] t')) (((w.alloc (.cells #[.int .i64 x, .int .u64 g] t)).alloc (.cells #[.slice A n c] t')).alloc (.cells #[.int .i64 0, .int .u64 0] t2)) := (But.refl [] _).alloc _
  have h3 := there_new ((w.alloc (.cells #[.int .i64 x, .int .u64 g] t)).alloc (.cells #[.slice A n c] t')) #[.int .i64 0, .int .u64 0] t2 2 rfl
  have e : ((w.alloc (.cells #[.int .i64 x, .int .u64 g] t)).alloc (.cells #[.slice A n c] t')).heap.size = w.heap.size + 2 := r4
  rw [e] at h3
  exact ⟨cell_keep (range_cells r1 0 _ rfl) k (by simp), cell_keep (range_cells r1 1 _ rfl) k (by simp), cell_keep (range_cells r2 0 _ rfl) k (by simp), h3, r5.trans k⟩
/-- What Derive tells. -/
def DvV (T : Tr) (m : Nat) (at_ : Int) (g : Nat) (s : Nat → Bool) : Value := .tuple #[.agg #[.int .i64 (dvK T at_ g s : Nat), .int .u64 (dvG T m at_ g s : Nat)], .int .i64 (dcode T at_ g s)]
theorem DvV_no {T : Tr} {m : Nat} {at_ : Int} {g : Nat} {s : Nat → Bool} {k : Int} (h : dcode T at_ g s = k) (hk : k ≠ 0) : DvV T m at_ g s = .tuple #[.agg #[.int .i64 0, .int .u64 0], .int .i64 k] ∧ dvT T m at_ g s = T ∧ dvM T m at_ g s = m := by
  have hn : dcode T at_ g s ≠ 0 := by rw [h]; exact hk
  obtain ⟨h1, h2, h3, h4⟩ := dv_no (m := m) hn
  unfold DvV
  rw [h1, h2, h]
  exact ⟨rfl, h4, h3⟩
theorem held4 {A B C D : Prop} (h : A ∧ B ∧ C ∧ D) : D := h.2.2.2
theorem d_keep {wb wp wc : World} {p q r s : Nat} {v1 v2 v3 : Value} (k : But [] wp wc) (h : wp.cell? ⟨p, 0, none⟩ = some v1 ∧ wp.cell? ⟨q, 0, none⟩ = some v2 ∧ wp.cell? ⟨r, s, none⟩ = some v3 ∧ But [] wb wp) :
    wc.cell? ⟨p, 0, none⟩ = some v1 ∧ wc.cell? ⟨q, 0, none⟩ = some v2 ∧ wc.cell? ⟨r, s, none⟩ = some v3 ∧ But [] wb wc :=
  ⟨cell_keep h.1 k (by simp), cell_keep h.2.1 k (by simp), cell_keep h.2.2.1 k (by simp), h.2.2.2.trans k⟩
set_option maxHeartbeats 4000000 in
theorem Derive_c (b m : Nat) (Z : List Nat) (T : Tr) (f : Nat → Value) (at_ : Int) (g : Nat) (A : Option Addr) (n c lo : Nat) (s : Nat → Bool) (w : World) (h : TrAt w b Z T m f) (hW : Wf T m) (hs : SetAt w lo A n s) (ho : Off Z A n) (hm : m ≤ 1000000) :
    Calls Try.prog 23 #[.pointer (some ⟨b, 0, none⟩), .agg #[.int .i64 at_, .int .u64 g], .agg #[.slice A n c]] w fun e w' =>
      e = .returned (DvV T m at_ g s) ∧ TrA w' b Z (dvT T m at_ g s) (dvM T m at_ g s) ∧ But [b] w w' := by
  obtain ⟨B, hB⟩ : ∃ B, B = w.heap.size := ⟨_, rfl⟩
  have r1 := boxes3 w at_ g A n c 26 31 26
  obtain ⟨w0, hw0⟩ : ∃ w0, w0 = ((w.alloc (.cells #[.int .i64 at_, .int .u64 g] 26)).alloc (.cells #[.slice A n c] 31)).alloc (.cells #[.int .i64 0, .int .u64 0] 26) := ⟨_, rfl⟩
  rw [← hw0, ← hB] at r1
  have HD0 := hid r1
  have HBW := hid hB
  have HW := hid hW
  have H := hid h
  have HS := hid (hs.wider (Nat.zero_le lo))
  have HLS := hid hs.lim
  have HO := hid ho
  have HBM := hid h.mem
  have HBB : Hid (b < w.heap.size) := h.low b h.mem
  clear h hs ho r1 hW
  go_enter Try.func23, Try.ntmps23
  go_upto_region 1 with fail
  rw [← hw0, ← hB]
  clear hw0 hB
  have hc1 := HD0.out.c1
  have hc2 := HD0.out.c2
  go_wp2_with fail
  clear hc1 hc2
  refine (there_c b m Z T f at_ g w0 (H.out.keep0 HD0.out.but)).mono ?_
  rintro e w1 ⟨rfl, k1⟩
  have HD1 := hid (HD0.out.keep k1)
  clear k1
  have herr : Hid (∀ wx, Db w B at_ g A n c wx → But [b] w (wx.setCells (B + 2) 0 [.int .i64 0, .int .u64 0])) := fun wx hx =>
    but_more (hx.but.any [b]) ((But.refl [B + 2] wx).setCells (by simp) _ _) (fun i hi => .inr (by have := HBW.out; simp at hi; omega))
  have htre : Hid (∀ wx, Db w B at_ g A n c wx → TrA (wx.setCells (B + 2) 0 [.int .i64 0, .int .u64 0]) b Z T m) := fun wx hx => by
    have hx2 := lt_of_there hx.th (by omega)
    have h1 := H.out.wide hx.but [B + 2] (fun x hx' => by have := HBW.out; simp at hx'; omega)
    exact ⟨f, (h1.keep ((But.refl [B + 2] wx).setCells (by simp) _ _) (by have := HBB.out; have := HBW.out; simp; omega) (by simp)).less HBM.out⟩
  by_cases hi : isB T at_ g = true
  case neg =>
    have hi : isB T at_ g = false := by simpa using hi
    have HX := hid (DvV_no (m := m) (s := s) (k := 3) (if_pos hi) (by omega))
    rw [hi]
    clear hi
    go_wp2_with (first
      | (refine wpList_store_mid rfl 26 _ _ rfl (B + 2) 0 #[.int .i64 0, .int .u64 0] rfl rfl ?ht sizeCap (capAll _ _) ?_; case ht => exact HD1.out.th))
    refine bodyPost_ret (results_range rfl _ _ (B + 2) 0 [.int .i64 0, .int .u64 0] _ rfl (World.rangeAt_setCells_same _ _ _ _ HD1.out.th) Try.underlying26 rfl sizeCap) rfl ?_
    exact ⟨by rw [HX.out.1]; rfl, by rw [HX.out.2.1, HX.out.2.2]; exact htre.out _ HD1.out, herr.out _ HD1.out⟩
  case pos =>
  obtain ⟨a, rfl, ha, hg0, hga⟩ := isB_iff.1 hi
  have HI := hid hi
  have haI : (a : Int) < 64 := by omega
  have haI0 : (0 : Int) ≤ (a : Int) := by omega
  rw [hi]
  clear hi hga
  have hc3 := HD1.out.c3
  go_wp2_with fail
  clear hc3
  refine (len_c A n c _ s w1 (HS.out.keep0 HD1.out.but)).mono ?_
  rintro e w2 ⟨rfl, k2⟩
  have HD2 := hid (HD1.out.keep k2)
  clear k2
  by_cases hz : nz s = true
  case neg =>
    have hz : nz s = false := by simpa using hz
    have hl : (nums s 1024).length = 0 := by unfold nz at hz; simpa using hz
    have HX := hid (DvV_no (T := T) (at_ := a) (g := g) (m := m) (s := s) (k := 1) (by unfold dcode; rw [if_neg (by rw [HI.out]; simp), if_pos hz]) (by omega))
    rw [hl]
    clear hz hl
    go_wp2_with (first
      | (refine wpList_store_mid rfl 26 _ _ rfl (B + 2) 0 #[.int .i64 0, .int .u64 0] rfl rfl ?ht sizeCap (capAll _ _) ?_; case ht => exact HD2.out.th))
    refine bodyPost_ret (results_range rfl _ _ (B + 2) 0 [.int .i64 0, .int .u64 0] _ rfl (World.rangeAt_setCells_same _ _ _ _ HD2.out.th) Try.underlying26 rfl sizeCap) rfl ?_
    exact ⟨by rw [HX.out.1]; rfl, by rw [HX.out.2.1, HX.out.2.2]; exact htre.out _ HD2.out, herr.out _ HD2.out⟩
  case pos =>
  have HZ := hid hz
  obtain ⟨ln, hln⟩ : ∃ ln, ln = (nums s 1024).length := ⟨_, rfl⟩
  have hl0 : ((ln : Int) == 0) = false := by
    unfold nz at hz
    have : 0 < (nums s 1024).length := by simpa using hz
    simp; omega
  rw [← hln]
  clear hln hz
  obtain ⟨-, -, A1, n1, c1, -, hcs, hs1, -⟩ := H.out.cells ha
  have HX1 := hid hs1
  have HCS := hid hcs
  clear hs1 hcs
  go_upto_region 5 with fail
  have hS5 : Hid (w2.drew.cell? ⟨B + 1, 0, none⟩ = some (.slice A n c) ∧ w2.drew.cell? ⟨B, 0, none⟩ = some (.int .i64 a) ∧ w2.drew.cell? ⟨b, a * 3 + 2, none⟩ = some (.slice A1 n1 c1) ∧ But [] w2 w2.drew) :=
    ⟨HD2.out.c3, HD2.out.c1, cell_keep HCS.out HD2.out.but.drew (by simp), (But.refl [] w2).drew⟩
  go_region_held3 (fun w' => w'.cell? ⟨B + 1, 0, none⟩ = some (.slice A n c) ∧ w'.cell? ⟨B, 0, none⟩ = some (.int .i64 a) ∧ w'.cell? ⟨b, a * 3 + 2, none⟩ = some (.slice A1 n1 c1) ∧ But [] w2 w')
    (first | exact hS5.out | assumption | exact d_keep (by assumption) (by assumption))
    (first
      | (go_at_call 16
         refine (within_c A A1 n n1 c c1 _ _ _ _ _ (HS.out.keep0 (HD2.out.but.trans (held4 (by assumption)))) (HX1.out.keep0 (HD2.out.but.trans (held4 (by assumption))))).mono ?_
         rintro e w3 ⟨rfl, k3⟩))
  go_split_ands
  have hk3 : But [] w2 w3 := by assumption
  have HD3 := hid (HD2.out.keep hk3)
  rename_i q1 q2 q3 q4
  clear q1 q2 q3 q4 k3 hS5 hk3
  have hwn := len_nz (f := wo s (T a).st)
  rw [hwn]
  clear hwn
  by_cases hz : nz (wo s (T a).st) = true
  case pos =>
    have HX := hid (DvV_no (T := T) (at_ := a) (g := g) (m := m) (s := s) (k := 2) (by unfold dcode; rw [if_neg (by rw [HI.out]; simp), if_neg (by rw [HZ.out]; simp), Int.toNat_natCast, if_pos hz]) (by omega))
    rw [hz]
    clear hz
    go_wp2_with (first
      | (refine wpList_store_mid rfl 26 _ _ rfl (B + 2) 0 #[.int .i64 0, .int .u64 0] rfl rfl ?ht sizeCap (capAll _ _) ?_; case ht => exact HD3.out.th))
    refine bodyPost_ret (results_range rfl _ _ (B + 2) 0 [.int .i64 0, .int .u64 0] _ rfl (World.rangeAt_setCells_same _ _ _ _ HD3.out.th) Try.underlying26 rfl sizeCap) rfl ?_
    exact ⟨by rw [HX.out.1]; rfl, by rw [HX.out.2.1, HX.out.2.2]; exact htre.out _ HD3.out, herr.out _ HD3.out⟩
  case neg =>
  have hz : nz (wo s (T a).st) = false := by simpa using hz
  have HZ2 := hid hz
  rw [hz]
  clear hz
  go_upto_region 7 with fail
  have hS7 : Hid (w3.drew.cell? ⟨B + 1, 0, none⟩ = some (.slice A n c) ∧ w3.drew.cell? ⟨B, 0, none⟩ = some (.int .i64 a) ∧ But [] w3 w3.drew) := ⟨HD3.out.c3, HD3.out.c1, (But.refl [] w3).drew⟩
  go_region_held3 (fun w' => w'.cell? ⟨B + 1, 0, none⟩ = some (.slice A n c) ∧ w'.cell? ⟨B, 0, none⟩ = some (.int .i64 a) ∧ But [] w3 w')
    (first | exact hS7.out | assumption | exact p_keep (by assumption) (by assumption))
    (first
      | (go_at_call 41
         refine (lent_c b m Z T f a _ (H.out.keep0 (HD3.out.but.trans (held3 (by assumption)))) HW.out.lim).mono ?_
         rintro e w7 ⟨A7, n7, c7, rfl, hs7, k7⟩)
      | (go_at_call 46
         refine (shared_c A A7 n n7 c c7 _ _ _ _ _ (HS.out.keep0 (HD3.out.but.trans (held3 (by assumption)))) hs7).mono ?_
         rintro e w8 ⟨rfl, k8⟩))
  go_split_ands
  have hk8 : But [] w3 w8 := by assumption
  have HD8 := hid (HD3.out.keep hk8)
  rename_i q1 q2 q3
  clear q1 q2 q3 k8 k7 hs7 hS7 hk8
  by_cases hz : nz (bo s (lentS T a)) = true
  case pos =>
    have HX := hid (DvV_no (T := T) (at_ := a) (g := g) (m := m) (s := s) (k := 24) (by unfold dcode; rw [if_neg (by rw [HI.out]; simp), if_neg (by rw [HZ.out]; simp), Int.toNat_natCast, if_neg (by rw [HZ2.out]; simp), if_pos hz]) (by omega))
    rw [hz]
    clear hz
    go_wp2_with (first
      | (refine wpList_store_mid rfl 26 _ _ rfl (B + 2) 0 #[.int .i64 0, .int .u64 0] rfl rfl ?ht sizeCap (capAll _ _) ?_; case ht => exact HD8.out.th))
    refine bodyPost_ret (results_range rfl _ _ (B + 2) 0 [.int .i64 0, .int .u64 0] _ rfl (World.rangeAt_setCells_same _ _ _ _ HD8.out.th) Try.underlying26 rfl sizeCap) rfl ?_
    exact ⟨by rw [HX.out.1]; rfl, by rw [HX.out.2.1, HX.out.2.2]; exact htre.out _ HD8.out, herr.out _ HD8.out⟩
  case neg =>
  have hz : nz (bo s (lentS T a)) = false := by simpa using hz
  have HZ3 := hid hz
  rw [hz]
  clear hz
  go_wp2_with fail
  refine (free_c b m Z T f w8 (H.out.keep0 HD8.out.but)).mono ?_
  rintro e w9 ⟨rfl, k9⟩
  have HD9 := hid (HD8.out.keep k9)
  clear k9
  by_cases hf : frP T 64 < 64
  case neg =>
    have hf64 : frP T 64 = 64 := by have := frP_le T 64; omega
    have HX := hid (DvV_no (T := T) (at_ := a) (g := g) (m := m) (s := s) (k := 5) (by unfold dcode; rw [if_neg (by rw [HI.out]; simp), if_neg (by rw [HZ.out]; simp), Int.toNat_natCast, if_neg (by rw [HZ2.out]; simp), if_neg (by rw [HZ3.out]; simp), if_neg hf]) (by omega))
    rw [hf64, FrV_no]
    clear hf hf64
    go_wp2_with (first
      | (refine wpList_store_mid rfl 26 _ _ rfl (B + 2) 0 #[.int .i64 0, .int .u64 0] rfl rfl ?ht sizeCap (capAll _ _) ?_; case ht => exact HD9.out.th))
    refine bodyPost_ret (results_range rfl _ _ (B + 2) 0 [.int .i64 0, .int .u64 0] _ rfl (World.rangeAt_setCells_same _ _ _ _ HD9.out.th) Try.underlying26 rfl sizeCap) rfl ?_
    exact ⟨by rw [HX.out.1]; rfl, by rw [HX.out.2.1, HX.out.2.2]; exact htre.out _ HD9.out, herr.out _ HD9.out⟩
  case pos =>
  have hc : dcode T a g s = 0 := by unfold dcode; rw [if_neg (by rw [HI.out]; simp), if_neg (by rw [HZ.out]; simp), Int.toNat_natCast, if_neg (by rw [HZ2.out]; simp), if_neg (by rw [HZ3.out]; simp), if_pos hf]
  obtain ⟨e1, e2, e3, e4⟩ := dv_yes (m := m) hc
  have HV : Hid (DvV T m a g s = .tuple #[.agg #[.int .i64 (frP T 64 : Nat), .int .u64 (m + 1 : Nat)], .int .i64 0]) := by show _ = _; unfold DvV; rw [e1, e2, hc]
  have HT := hid e4
  have HM := hid e3
  rw [FrV_yes hf]
  generalize frP T 64 = k at *
  have hc1 := HD9.out.c1
  have hc3 := HD9.out.c3
  have H9 := hid (H.out.wide HD9.out.but [B + 2] (fun x hx' => by have := HBW.out; have := lt_of_there HD9.out.th (by omega); simp at hx'; omega))
  have HO9 : Hid (Off ([B + 2] ++ Z) A n) := (Off.old HS.out (fun x hx' => by have := HBW.out; simp at hx'; omega)).app HO.out
  clear hc e1 e2 e3 e4 HX1 HCS
  go_wp2_with fail
  refine (put_c b m ([B + 2] ++ Z) T f k hf 0 a A n c s w9 H9.out (HS.out.keep0 HD9.out.but) HO9.out hm).mono ?_
  rintro e w10 ⟨rfl, ht10, k10⟩
  have hBb : B + 2 ∉ [b] := by have := HBB.out; have := HBW.out; simp; omega
  have HT10 := there_keep HD9.out.th k10 (lt_of_there HD9.out.th (by omega)) hBb
  obtain ⟨u1, u2, hu1, hu2, hz1, hz2⟩ := there_two HT10
  have HR10 := hid ht10
  have HK10 := hid ((HD9.out.but.any [b]).trans k10)
  clear ht10 k10 HT10 hc1 hc3
  obtain ⟨M, hM⟩ : ∃ M : Nat, m + 1 = M := ⟨_, rfl⟩
  rw [hM] at HV HT HM HR10 ⊢
  clear hM
  go_wp2
  refine bodyPost_ret (results_range rfl _ _ (B + 2) 0 [.int .i64 k, .int .u64 M] _ rfl (range_two hu1 hu2) Try.underlying26 rfl sizeCap) rfl ?_
  have hk9 : But [B + 2] w10 ((w10.setCell ⟨B + 2, 0, none⟩ (.int .i64 k)).setCell ⟨B + 2, 1, none⟩ (.int .u64 M)) := ((But.refl [B + 2] w10).setCell (by simp) _).setCell (by simp) _
  refine ⟨by rw [HV.out]; rfl, ?_, but_more HK10.out hk9 (fun i hi => .inr (by have := HBW.out; simp at hi; omega))⟩
  rw [HT.out, HM.out]
  exact (HR10.out.keep hk9 (by have := HBB.out; have := HBW.out; simp; omega) (by simp)).less HBM.out
theorem TrA.wide {w w0 : World} {b m : Nat} {Z : List Nat} {T : Tr} (h : TrA w b Z T m) (k : But [] w w0) (l : List Nat) (hl : ∀ x, x ∈ l → w.heap.size ≤ x ∧ x < w0.heap.size) : TrA w0 b (l ++ Z) T m := by
  obtain ⟨f, hf⟩ := h
  exact ⟨f, hf.wide k l hl⟩
theorem TrA.low {w : World} {b m : Nat} {Z : List Nat} {T : Tr} (h : TrA w b Z T m) : ∀ z, z ∈ Z → z < w.heap.size := by
  obtain ⟨f, hf⟩ := h
  exact hf.low
theorem capAll2 (x y : Int) : ([Value.int .i64 x, .int .u64 y].toArray).all (·.oneCell') = true := capAll x y
theorem Derive_c' (b m : Nat) (Z : List Nat) (T : Tr) (at_ : Int) (g : Nat) (A : Option Addr) (n c lo : Nat) (s : Nat → Bool) (w : World) (h : TrA w b Z T m) (hW : Wf T m) (hs : SetAt w lo A n s) (ho : Off Z A n) (hm : m ≤ 1000000) :
    Calls Try.prog 23 #[.pointer (some ⟨b, 0, none⟩), .agg #[.int .i64 at_, .int .u64 g], .agg #[.slice A n c]] w fun e w' =>
      e = .returned (DvV T m at_ g s) ∧ TrA w' b Z (dvT T m at_ g s) (dvM T m at_ g s) ∧ But [b] w w' := by
  obtain ⟨f, hf⟩ := h
  exact Derive_c b m Z T f at_ g A n c lo s w hf hW hs ho hm
end Go.Proofs.Ytlppfcoclpdanaa.Cs
