/-
  Layer 12 (caps): the contract of the document's Cut, over the translated program.
-/
import Derived.Test.YtlppfcoclpdanaaCsRefD
import Derived.Test.YtlppfcoclpdanaaCsCutA
namespace Go.Proofs.Ytlppfcoclpdanaa.Cs
open Go.ChangeShapes Go.WideShapes Go.ChangeAt Go.RowKit
open Wh Sn
set_option linter.unusedVariables false
set_option maxRecDepth 20000

/-- The document's Cut, first: the numbers. -/
def cdL (T : Tr) (s : Nat → Bool) (l : List Nat) : Tr := fun i => if i ∈ l then { T i with st := wo (T i).st s } else T i
theorem cdL_nil (T : Tr) (s : Nat → Bool) : cdL T s [] = T := funext fun i => by simp [cdL]
theorem cdL_out {T : Tr} {s : Nat → Bool} {l : List Nat} {p : Nat} (h : p ∉ l) : cdL T s l p = T p := if_neg h
theorem cdL_snoc (T : Tr) (s : Nat → Bool) (l : List Nat) (p : Nat) : updN (cdL T s l) p { T p with st := wo (T p).st s } = cdL T s (l ++ [p]) := funext fun i => by
  by_cases e : i = p
  · subst e; rw [updN_same]; simp [cdL]
  · rw [updN_other _ _ e]; simp [cdL, e]
/-- Then who has none left. -/
def ceL (U : Tr) (l : List Nat) : Tr := fun i => if i ∈ l ∧ 0 ≤ (U i).par ∧ nz (U i).st = false then nd0 else U i
theorem ceL_nil (U : Tr) : ceL U [] = U := funext fun i => by simp [ceL]
theorem ceL_out {U : Tr} {l : List Nat} {p : Nat} (h : p ∉ l) : ceL U l p = U p := if_neg (fun h2 => h h2.1)
theorem ceL_yes {U : Tr} {l : List Nat} {p : Nat} (h1 : 0 ≤ (U p).par) (h2 : nz (U p).st = false) : updN (ceL U l) p nd0 = ceL U (l ++ [p]) := funext fun i => by
  by_cases e : i = p
  · subst e; rw [updN_same]; unfold ceL; rw [if_pos ⟨by simp, h1, h2⟩]
  · rw [updN_other _ _ e]; simp [ceL, e]
theorem ceL_no {U : Tr} {l : List Nat} {p : Nat} (h : ¬ (0 ≤ (U p).par ∧ nz (U p).st = false)) : ceL U l = ceL U (l ++ [p]) := funext fun i => by
  by_cases e : i = p
  · subst e
    unfold ceL
    rw [if_neg (fun h2 => h h2.2), if_neg (fun h2 => h h2.2)]
  · simp [ceL, e]
theorem ce_ct {T : Tr} {m : Nat} (hW : Wf T m) {a : Nat} (hga : 0 < (T a).gen) {s : Nat → Bool} {l : List Nat} (h : ∀ x, x ∈ l ↔ inB T a x = true) : ceL (cdL T s l) l = ctT T a s := funext fun i => by
  by_cases e : i ∈ l
  · have hb := (h i).1 e
    have hgi : 0 < (T i).gen := by
      unfold inB at hb
      simp at hb
      rcases hb with rfl | hb
      · exact hga
      · exact (und_lt hW hb).1
    have hU : cdL T s l i = { T i with st := wo (T i).st s } := if_pos e
    unfold ceL ctT
    rw [hU, hb, Bool.true_and]
    have hpar : 0 ≤ (T i).par ↔ i ≠ 0 := by
      constructor
      · intro h0 e0
        subst e0
        rw [hW.rpar] at h0
        omega
      · intro h0
        obtain ⟨q, hq, _⟩ := hW.par i hgi h0
        omega
    by_cases hm : meets (T i).st s = true
    · rw [if_pos hm]
      unfold cutN
      by_cases hz : nz (wo (T i).st s) = false ∧ i ≠ 0
      · rw [if_pos hz, if_pos ⟨e, hpar.2 hz.2, hz.1⟩]
      · rw [if_neg hz, if_neg (fun h2 => hz ⟨h2.2.2, hpar.1 h2.2.1⟩)]
    · rw [if_neg hm]
      have hm : nz (bo (T i).st s) = false := by simpa [meets] using hm
      have hwo : wo (T i).st s = (T i).st := funext fun x => by
        have := nz_no (bo_lim (hW.lim i)) hm x
        simp only [wo, bo, lay] at this ⊢
        cases h1 : (T i).st x with
        | false => rfl
        | true => rw [h1] at this; simpa using this
      rw [hwo]
      refine if_neg (fun h2 => ?_)
      obtain ⟨x, hx⟩ := hW.some i hgi (hpar.1 h2.2.1)
      have := nz_no (hW.lim i) h2.2.2 x
      rw [hx] at this
      cases this
  · have hb : inB T a i = false := by
      cases hb : inB T a i with
      | false => rfl
      | true => exact absurd ((h i).2 hb) e
    unfold ceL ctT
    rw [if_neg (fun h2 => e h2.1), hb, Bool.false_and, if_neg (by simp)]
    exact if_neg e
theorem nc_st (x : Nd) {w : World} {b : Nat} (h : w.rangeAt b 0 (nc x)) : w.rangeAt b 2 (bv x.st) ∧ w.cell? ⟨b, 0, none⟩ = some (.int .u64 (x.gen : Nat)) := by
  refine ⟨fun j v hv => ?_, h 0 _ (nc_0 x)⟩
  have hj : j < 1024 := by have := (List.getElem?_eq_some_iff.1 hv).1; rwa [bv_len] at this
  rw [bv_get _ _ hj] at hv
  rw [show (2 + j) = 0 + (j + 2) by omega]
  exact h (j + 2) v (by rw [nc_2 _ _ hj]; exact hv)
/-- Another set in a node that lies in a box. -/
theorem nc_put (x : Nd) (g : Nat → Bool) {w : World} {b : Nat} (h : w.rangeAt b 0 (nc x)) : (w.setCells b 2 (bv g)).rangeAt b 0 (nc { x with st := g }) := fun j v hv => by
  have hj : j < 1026 := by have := (List.getElem?_eq_some_iff.1 hv).1; rwa [nc_len] at this
  have hc : ∀ i, i < 1024 → (w.cell? ⟨b, 2 + i, none⟩).isSome = true := fun i hi => by
    have := (nc_st x h).1 i _ (bv_get x.st i hi)
    rw [this]; rfl
  rw [Nat.zero_add]
  by_cases e : 2 ≤ j
  · obtain ⟨i, rfl⟩ : ∃ i, j = i + 2 := ⟨j - 2, by omega⟩
    rw [nc_2 _ _ (by omega)] at hv
    obtain rfl := Option.some.inj hv
    rw [show i + 2 = 2 + i by omega, World.cell?_setCells_in b (bv g) 2 w (fun i hi => hc i (by rw [bv_len] at hi; exact hi)) i (by rw [bv_len]; omega)]
    have := bv_get g i (by omega)
    rw [List.getElem?_eq_getElem (by rw [bv_len]; omega)] at this
    simpa using this
  · rw [World.cell?_setCells_out b (bv g) 2 w ⟨b, j, none⟩ (fun _ _ => by show j < 2 ∨ _; omega)]
    match j, e, hv with
    | 0, _, hv => rw [nc_0] at hv; rw [← hv]; exact h 0 _ (nc_0 x)
    | 1, _, hv => rw [nc_1] at hv; rw [← hv]; exact h 1 _ (nc_1 x)
    | j + 2, e, _ => omega
theorem there_part {w : World} {b : Nat} (h : w.there b 0 1026) : w.there b 2 1024 := fun j hj => by
  have := h (2 + j) (by omega)
  rwa [Nat.zero_add] at this
theorem c5_keep {wb wp wc : World} {p q r s t o x : Nat} {v1 v2 v3 : Value} {cs : List Value} (k : But [] wp wc) (h : wp.cell? ⟨p, 0, none⟩ = some v1 ∧ wp.cell? ⟨q, r, none⟩ = some v2 ∧ wp.cell? ⟨s, t, none⟩ = some v3 ∧ wp.rangeAt o x cs ∧ But [] wb wp) :
    wc.cell? ⟨p, 0, none⟩ = some v1 ∧ wc.cell? ⟨q, r, none⟩ = some v2 ∧ wc.cell? ⟨s, t, none⟩ = some v3 ∧ wc.rangeAt o x cs ∧ But [] wb wc :=
  ⟨cell_keep h.1 k (by simp), cell_keep h.2.1 k (by simp), cell_keep h.2.2.1 k (by simp), range_keep h.2.2.2.1 k (by simp), h.2.2.2.2.trans k⟩
/-- What Cut has told and made, as far as it is. -/
structure Ct (wb : World) (bx bl m : Nat) (U : Tr) (wx : World) : Prop where
  rf : RfAt wx bx bl U m
  but : But [bl] wb wx
set_option maxHeartbeats 8000000 in
theorem rCut_c (bx bl m : Nat) (T : Tr) (a : Nat) (ha : a < 64) (s : Nat → Bool) (w : World) (h : RfAt w bx bl T m) (hW : Wf T m) (hga : 0 < (T a).gen) :
    Calls Try.prog 31 #[.pointer (some ⟨bx, 0, none⟩), .int .i64 a, .agg (bv s).toArray] w fun e w' =>
      e = .returned (.int .i64 (ctC T a s : Nat)) ∧ RfAt w' bx bl (ctT T a s) m ∧ But [bl] w w' := by
  have hz := zNode
  obtain ⟨B, hB⟩ : ∃ B, B = w.heap.size := ⟨_, rfl⟩
  obtain ⟨w0, hw0⟩ : ∃ w0, w0 = w.alloc (.cells (bv s).toArray 36) := ⟨_, rfl⟩
  have HK0 : Hid (But [] w w0) := by show But _ _ _; rw [hw0]; exact (But.refl [] w).alloc _
  have hr := new_range w (bv s) 36
  rw [← hw0, ← hB] at hr
  have HR0 := hid hr
  have HBW := hid hB
  have H0 := hid (h.keep0 HK0.out)
  have hlt := h.lt
  have HNE : Hid (bx < B ∧ bl < B) := by show _ ∧ _; omega
  have HS0 : Hid (w0.heap.size = B + 1) := by show _ = _; rw [hw0, hB]; simp
  have HW := hid hW
  have HG := hid hga
  clear h hr hlt hW hga
  go_enter Try.func31, Try.ntmps31
  go_upto_region 1 with fail
  rw [← hw0, ← hB]
  clear hw0 hB
  go_wp2
  go_loopg [7, 8] 65 (fun g0 v i wx => ∃ (k n cv : Nat) (Av : Option Addr), k + g0 = 65 ∧ k ≤ 64 ∧ i = .int .i64 k ∧ v = .slice Av n cv ∧ Hid (Que wx w0.heap.size 1 (.slice Av n cv) n (ic (nums (inB T a) k))) ∧ Hid (But [] w0 wx))
  case atStart => exact ⟨0, 0, 0, none, by omega, by omega, rfl, rfl, Que.nil _ _ _, But.refl _ _⟩
  case round =>
    obtain ⟨k, n, cv, Av, hkg, hk, rfl, rfl, HQ, HB⟩ := hrel
    by_cases hlt : k < 64
    · have hkI : (k : Int) < 64 := by omega
      have HR := hid (H0.out.keep0 HB.out)
      have hn := nums_succ (inB T a) k
      have hle := nums_le (inB T a) k
      have HNO : Hid (inB T a k = false → nums (inB T a) (k + 1) = nums (inB T a) k) := fun h => by rw [hn, h]; simp
      have HYS : Hid (inB T a k = true → nums (inB T a) (k + 1) = nums (inB T a) k ++ [k]) := fun h => by rw [hn, h]; simp
      have hm : n ≤ 1025 := by
        have := HQ.out.1
        rw [ic_len] at this
        omega
      clear hn hle
      by_cases hb : inB T a k = true
      · have HN := hid (HYS.out hb)
        obtain ⟨g', off', c', w5, hr5, hq5, hk5, ho5⟩ := que_push (P := Try.prog) 82 3 _ Try.underlying82 Cs.Try.infoInt rfl (by decide) (by decide) HQ.out (ic [k]) rfl (ic_one _) HB.out.size (by omega)
        have HQ5 : Hid (Que w5 w0.heap.size 1 (.slice (some ⟨g', off', none⟩) (n + 1) c') (n + 1) (ic (nums (inB T a) (k + 1)))) := by
          show Que _ _ _ _ _ _
          rw [HN.out, ic_app]
          exact hq5
        have HB5 := hid (but_own HB.out hk5 (fun i hi => (HQ.out.lt i hi).1))
        have HR5 := hid hr5
        clear hr5 hq5 hk5 ho5
        by_cases hka : k = a
        · subst hka
          clear hb
          go_wp2_with (first | (at_builtin; refine wpList_append_known _ rfl _ _ 82 rfl _ _ rfl rfl HR5.out ?_))
          go_roundg (65 - (k + 1))
          case measure => omega
          case rel => exact ⟨k + 1, _, _, _, by omega, by omega, by go_num, rfl, HQ5.out, HB5.out⟩
        · have hu : und T a k = true := by
            unfold inB at hb
            rw [decide_eq_false hka, Bool.false_or] at hb
            exact hb
          have hne : ((k : Int) == (a : Int)) = false := by simp; omega
          clear hb hka
          go_wp2_with fail
          refine (rUnder_c bx bl m T k a hlt wr HR.out HW.out.bound).mono ?_
          rintro e w1 ⟨rfl, rfl⟩
          rw [hu]
          clear hu
          go_wp2_with (first | (at_builtin; refine wpList_append_known _ rfl _ _ 82 rfl _ _ rfl rfl HR5.out ?_))
          go_roundg (65 - (k + 1))
          case measure => omega
          case rel => exact ⟨k + 1, _, _, _, by omega, by omega, by go_num, rfl, HQ5.out, HB5.out⟩
      · have hb : inB T a k = false := by simpa using hb
        have HN := hid (HNO.out hb)
        unfold inB at hb
        simp at hb
        obtain ⟨hka, hu⟩ := hb
        have hne : ((k : Int) == (a : Int)) = false := by simp; omega
        clear hka
        go_wp2_with fail
        refine (rUnder_c bx bl m T k a hlt wr HR.out HW.out.bound).mono ?_
        rintro e w1 ⟨rfl, rfl⟩
        rw [hu]
        clear hu
        go_wp2
        go_roundg (65 - (k + 1))
        case measure => omega
        case rel => exact ⟨k + 1, n, cv, Av, by omega, by omega, by go_num, rfl, by rw [HN.out]; exact HQ.out, HB.out⟩
    · obtain rfl : k = 64 := by omega
      obtain ⟨w9, hw9⟩ : ∃ w9, w9 = wr := ⟨_, rfl⟩
      rw [← hw9] at HQ HB ⊢
      clear hw9
      have hd : decide ((64 : Int) < 64) = false := by decide
      obtain ⟨L, hL⟩ : ∃ L, L = nums (inB T a) 64 := ⟨_, rfl⟩
      obtain ⟨hn, hat⟩ := que_at HQ.out
      rw [← hL] at hn hat
      have hlt64 : ∀ x, inB T a x = true → x < 64 := fun x hx => by
        unfold inB at hx
        simp at hx
        rcases hx with rfl | hx
        · exact ha
        · exact (und_lt HW.out hx).2.2.2.2
      have hmem : ∀ x, x ∈ L ↔ inB T a x = true := fun x => by
        rw [hL, nums_mem]
        exact ⟨fun h => h.2, fun h => ⟨hlt64 x h, h⟩⟩
      have hnd : L.Nodup := by rw [hL]; exact nums_nodup _ _
      have HCT := hid (ce_ct HW.out HG.out (s := s) hmem)
      have HCC := hid (cut_count HW.out ha (s := s) hnd hmem)
      have hle := nums_le (inB T a) 64
      rw [← hL] at hle
      have hn64 : n ≤ 64 := by omega
      have HAT := hid hat
      have HLT : Hid (∀ j, j < n → L.getD j 0 < 64) := fun j hj => hlt64 _ ((hmem _).1 (getD_mem (by omega)))
      have HN := hid hn
      have HND := hid hnd
      have HR := hid (H0.out.keep0 HB.out)
      have HRS := hid (range_keep HR0.out HB.out (by simp))
      have HPN : Hid (∀ k, k < n → L.getD k 0 ∉ L.take k) := fun k hk hm => by
        obtain ⟨j, hj, e⟩ := mem_getD hm
        rw [List.length_take] at hj
        have e2 : (L.take k).getD j 0 = L.getD j 0 := by
          rw [List.getD_eq_getElem?_getD, List.getD_eq_getElem?_getD, List.getElem?_take, if_pos (by omega)]
        have := getD_inj hnd (show j < L.length by omega) (show k < L.length by omega) (by rw [← e2, e])
        omega
      have hc0 := HR.out.c0
      clear hn hat hmem hle hL hlt64 hnd
      go_wp2
      go_loopg [9, 10] (n + 1) (fun g0 uv i wx => ∃ (k u : Nat), k + g0 = n + 1 ∧ k ≤ n ∧ i = .int .i64 k ∧ uv = .int .i64 u ∧ u ≤ k ∧ Hid (u = ((L.take k).filter fun i => meets (T i).st s).length) ∧ Hid (RfAt wx bx bl (cdL T s (L.take k)) m) ∧ Hid (But [bl] w9 wx))
      case atStart => exact ⟨0, 0, by omega, by omega, rfl, rfl, by omega, rfl, by show RfAt _ _ _ _ _; rw [List.take_zero, cdL_nil]; exact HR.out, But.refl _ _⟩
      case round =>
        obtain ⟨k, u, hkg, hk, rfl, rfl, huk, HU, HF, HB2⟩ := hrel
        by_cases hlt : k < n
        · have hkI : (k : Int) < (n : Int) := by omega
          obtain ⟨ga, oa, rfl, hga0, hga, hca⟩ := HAT.out k hlt
          have hgbl : ga ∉ [bl] := by have := HNE.out; have := HS0.out; simp; omega
          have hca := cell_keep hca HB2.out hgbl
          have hp64 := HLT.out k hlt
          have hsn := cdL_snoc T s (L.take k) (L.getD k 0)
          have hfs := filter_snoc (fun i => meets (T i).st s) (L.take k) (L.getD k 0)
          rw [← take_snoc (by have := HN.out; omega)] at hsn hfs
          have HSN := hid hsn
          have HFS := hid hfs
          have HOUT := hid (cdL_out (T := T) (s := s) (HPN.out k hlt))
          generalize L.getD k 0 = p at *
          have hpI : (p : Int) < 64 := by omega
          have hnp := HF.out.n hp64
          rw [HOUT.out] at hnp
          have HNP := hid hnp
          have HC0 := hid HF.out.c0
          have HCA := hid hca
          have HRSr := hid (range_keep HRS.out HB2.out (by have := HNE.out; simp; omega))
          obtain ⟨X, hX⟩ : ∃ X : Nd, X = { T p with st := wo (T p).st s } := ⟨_, rfl⟩
          have HX := hid hX
          rw [← hX] at HSN
          obtain ⟨u1, hu1⟩ : ∃ u, (nums (bo (T p).st s) 1024).length = u := ⟨_, rfl⟩
          have HU1 := hid hu1
          have HMT : Hid (meets (T p).st s = decide (0 < u1)) := nz_len hu1
          clear hsn hfs hga0 hc0 hnp hX hu1
          go_upto_region 11 with fail
          refine wp_region_noPanic ?_
          refine wp_region_held_drew (S := fun w' => But [] wr w') (by kernel_rfl) (But.refl _ _).drew (fun hS0 => ?_)
          generalize wr.drew = wd at *
          refine held_take 0 (some 36) (.pointer (some ⟨bx, 0, none⟩)) rfl rfl (by kernel_rfl) (by kernel_rfl) (by kernel_rfl) (fun _ _ _ h => h) (Or.inl ⟨by rfl, fun w' hw' => by go_simp⟩) hS0 ?_
          simp only [Act.put, List.setIfInBounds_toArray, List.set_cons_zero, List.set_cons_succ]
          refine held_take 1 (some 37) (.pointer (some ⟨bx, 0, none⟩)) rfl rfl (by kernel_rfl) (by kernel_rfl) (by kernel_rfl) (fun _ _ _ h => h) (Or.inl ⟨by rfl, fun w' hw' => by go_simp⟩) hS0 ?_
          simp only [Act.put, List.setIfInBounds_toArray, List.set_cons_zero, List.set_cons_succ]
          refine held_take 2 (some 38) (.pointer (some ⟨bx, 0, none⟩)) rfl rfl (by kernel_rfl) (by kernel_rfl) (by kernel_rfl) (fun _ _ _ h => h) (Or.inl ⟨by rfl, fun w' hw' => by go_simp⟩) hS0 ?_
          simp only [Act.put, List.setIfInBounds_toArray, List.set_cons_zero, List.set_cons_succ]
          refine held_take 3 (some 39) (.slice (some ⟨bl, 0, none⟩) 64 64) rfl rfl (by kernel_rfl) (by kernel_rfl) (by kernel_rfl) (fun _ _ _ h => h) (Or.inl ⟨by rfl, fun w' hw' => by have hq0 := cell_keep HC0.out hw' (by simp); go_simp⟩) hS0 ?_
          simp only [Act.put, List.setIfInBounds_toArray, List.set_cons_zero, List.set_cons_succ]
          refine held_take 4 (some 40) (.slice (some ⟨ga, oa, none⟩) n cv) rfl rfl (by kernel_rfl) (by kernel_rfl) (by kernel_rfl) (fun _ _ _ h => h) (Or.inl ⟨by rfl, fun w' hw' => by go_simp⟩) hS0 ?_
          simp only [Act.put, List.setIfInBounds_toArray, List.set_cons_zero, List.set_cons_succ]
          refine held_take 5 (some 41) (.int .i64 k) rfl rfl (by kernel_rfl) (by kernel_rfl) (by kernel_rfl) (fun _ _ _ h => h) (Or.inl ⟨by rfl, fun w' hw' => by go_simp⟩) hS0 ?_
          simp only [Act.put, List.setIfInBounds_toArray, List.set_cons_zero, List.set_cons_succ]
          refine held_take 6 (some 42) (.pointer (some ⟨ga, oa + k, none⟩)) rfl rfl (by kernel_rfl) (by kernel_rfl) (by kernel_rfl) (fun _ _ _ h => h) (Or.inl ⟨by rfl, fun w' hw' => by go_simp⟩) hS0 ?_
          simp only [Act.put, List.setIfInBounds_toArray, List.set_cons_zero, List.set_cons_succ]
          refine held_take 7 (some 43) (.int .i64 p) rfl rfl (by kernel_rfl) (by kernel_rfl) (by kernel_rfl) (fun _ _ _ h => h) (Or.inl ⟨by rfl, fun w' hw' => by have hq0 := cell_keep HCA.out hw' (by simp); go_simp⟩) hS0 ?_
          simp only [Act.put, List.setIfInBounds_toArray, List.set_cons_zero, List.set_cons_succ]
          refine held_take 8 (some 44) (.pointer (some ⟨bl, p * 1026, none⟩)) rfl rfl (by kernel_rfl) (by kernel_rfl) (by kernel_rfl) (fun _ _ _ h => h) (Or.inl ⟨by rfl, fun w' hw' => by go_simp⟩) hS0 ?_
          simp only [Act.put, List.setIfInBounds_toArray, List.set_cons_zero, List.set_cons_succ]
          refine held_take 9 (some 45) (.agg (nc (T p)).toArray) rfl rfl (by kernel_rfl) (by kernel_rfl) (by kernel_rfl) (fun _ _ _ h => h) (yieldsIf_load_mid (by rfl) _ _ rfl bl (p * 1026) rfl (nc (T p)) _ (fun w' h => range_keep HNP.out h (by simp)) Try.underlying46 rfl (iNode _)) hS0 ?_
          simp only [Act.put, List.setIfInBounds_toArray, List.set_cons_zero, List.set_cons_succ]
          refine held_one 10 rfl (by kernel_rfl) (by rfl) (fun K hK => ?_)
          go_simp
          obtain ⟨hA3, hlt4, hka7⟩ := made_box (wd) (nc nd0).toArray 46 1026 (ncs nd0)
          have hge5 : wr.heap.size ≤ (wd).heap.size := hS0.size
          have hS1' : But [] wr (wd.alloc (.cells (nc nd0).toArray 46)) := hS0.alloc _
          generalize wd.alloc (.cells (nc nd0).toArray 46) = wa6 at *
          generalize hBx : (wd).heap.size = Bx2 at *
          have HBxBx2 : Hid ((wd).heap.size = Bx2) := hBx
          clear hBx
          refine hK.out _ _ hS1' (fun hS1 => ?_)
          clear hK K
          try simp only [Act.put, List.setIfInBounds_toArray, List.set_cons_zero, List.set_cons_succ]
          refine held_one 11 rfl (by kernel_rfl) (by rfl) (fun K hK => ?_)
          refine wp_store_mid _ _ _ rfl Bx2 0 (nc (T p)).toArray rfl rfl (by rw [ncs]; exact hA3) (iNode' _) (nc_all _) ?_
          have hS8' : But [] wr (wa6.setCells Bx2 0 (nc (T p))) := hS1.setCells (.inr hge5) _ _
          have hRhS8 : (wa6.setCells Bx2 0 (nc (T p))).rangeAt Bx2 0 (nc (T p)) := World.rangeAt_setCells_same _ _ _ _ (by rw [nc_len]; exact hA3)
          have hThS8 : (wa6.setCells Bx2 0 (nc (T p))).there Bx2 0 1026 := World.there_setCells hA3 _ _ _
          have hkhS8 : But [Bx2] wa6 (wa6.setCells Bx2 0 (nc (T p))) := (But.refl _ _).setCells (by simp) _ _
          generalize wa6.setCells Bx2 0 (nc (T p)) = wz9 at *
          refine hK.out _ _ hS8' (fun hS8 => ?_)
          clear hK K
          try simp only [Act.put]
          refine wpAnyH_done (by kernel_rfl) ?_ _
          refine NoPanic.normal ?_
          have hSA := hS8
          have hRA := hRhS8
          have hTA := hThS8
          have hGA := hge5
          clear hS8 hRhS8 hThS8 hge5
          generalize wz9 = wA at *
          generalize Bx2 = bA at *
          have hFR := (HF.out.keep0 hSA)
          have HFA := hid hFR
          have hlw := HF.out.lt
          have HNA : Hid (bA ≠ bx ∧ bA ≠ bl ∧ bA ≠ ga ∧ bA ≠ B) := by
            have h1 : ga < wr.heap.size := lt_of_cell HCA.out
            have h2 := HS0.out
            have h3 : w0.heap.size ≤ wr.heap.size := Nat.le_trans HB.out.size HB2.out.size
            show _ ∧ _ ∧ _ ∧ _
            omega
          have HRA := hid (nc_st (T p) hRA).1
          have HNCA := hid hRA
          have HTHA := hid hTA
          have HSAA := hid hSA
          have HRSA := hid (range_keep HRSr.out hSA (by simp))
          have HGW : Hid (w9.heap.size ≤ bA) := Nat.le_trans HB2.out.size hGA
          clear hFR hlw hRA hTA hSA hGA hca
          go_wp2_with (first
            | (refine wpList_load_mid rfl 36 _ rfl bA 2 rfl (bv (T p).st) _ HRA.out Try.underlying36 rfl (iSet _) ?_)
            | (refine wpList_load_mid rfl 36 _ rfl B 0 rfl (bv s) _ HRSA.out Try.underlying36 rfl (iSet _) ?_))
          refine (rlay2_c (T p).st s _).mono ?_
          rintro e w12 ⟨rfl, k12⟩
          go_wp2_with fail
          refine (countN_c (bo (T p).st s) u1 HU1.out _).mono ?_
          rintro e w13 ⟨rfl, k13⟩
          have hk := k12.trans k13
          have HR13 := hid (range_keep HRA.out hk (by simp))
          have HN13 := hid (range_keep HNCA.out hk (by simp))
          have HT13 := hid (there_keep HTHA.out hk (lt_of_there HTHA.out (by omega)) (by simp))
          have HS13 := hid (range_keep HRSA.out hk (by simp))
          have HK13 := hid (HSAA.out.trans hk)
          clear k12 k13 hk HRA HNCA HTHA HRSA HSAA
          by_cases hu : u1 = 0
          · subst hu
            have HU2 : Hid (u = ((L.take (k + 1)).filter fun i => meets (T i).st s).length) := by
              have := HFS.out
              rw [HMT.out, ← HU.out] at this
              show _ = _
              simpa using this.symm
            go_wp2_with (first
              | (refine wpList_load_mid rfl 36 _ rfl bA 2 rfl (bv (T p).st) _ HR13.out Try.underlying36 rfl (iSet _) ?_)
              | (refine wpList_load_mid rfl 36 _ rfl B 0 rfl (bv s) _ HS13.out Try.underlying36 rfl (iSet _) ?_))
            refine (rlay1_c (T p).st s _).mono ?_
            rintro e w14 ⟨rfl, k14⟩
            have HN14 := hid (range_keep HN13.out k14 (by simp))
            have HT14 : Hid (w14.there bA 2 (bv (wo (T p).st s)).toArray.size) := by
              show World.there _ _ _ _
              rw [bvs]
              exact there_part (there_keep HT13.out k14 (lt_of_there HT13.out (by omega)) (by simp))
            have HNX : Hid ((w14.setCells bA 2 (bv (wo (T p).st s))).rangeAt bA 0 (nc X)) := by
              show World.rangeAt _ _ _ _
              rw [HX.out]
              exact nc_put (T p) (wo (T p).st s) HN14.out
            have HK14 : Hid (But [bA] wr (w14.setCells bA 2 (bv (wo (T p).st s)))) := ((HK13.out.trans k14).any [bA]).setCells (by simp) _ _
            clear k14 HR13 HN13 HT13 HS13
            go_upto_region 15 with (first
              | (refine wpList_store_mid rfl 36 _ _ rfl bA 2 (bv (wo (T p).st s)).toArray rfl rfl ?ht (iSet' _) (bv_all _) ?_; case ht => exact HT14.out))
            clear HT14 HN14 HK13
            generalize w14.setCells bA 2 (bv (wo (T p).st s)) = w15 at *
            have HF15 := hid (HF.out.keep HK14.out (by have := HNA.out; simp; omega) (by have := HNA.out; simp; omega))
            have hS0 : w15.drew.rangeAt bA 0 (nc X) ∧ w15.drew.cell? ⟨bx, 0, none⟩ = some (.slice (some ⟨bl, 0, none⟩) 64 64) ∧ w15.drew.cell? ⟨ga, oa + k, none⟩ = some (.int .i64 p) ∧ w15.drew.there bl (p * 1026) 1026 ∧ But [] w15 w15.drew :=
              ⟨(World.rangeAt_drew _ _ _ _).2 HNX.out, HF15.out.c0, cell_keep HCA.out HK14.out.drew (by have := HNA.out; simp; omega), (HF15.out.keep0 (But.refl [] w15).drew).th hp64, (But.refl [] w15).drew⟩
            refine wp_region_noPanic ?_
            refine till_begin (fun w' => w'.rangeAt bA 0 (nc X) ∧ w'.cell? ⟨bx, 0, none⟩ = some (.slice (some ⟨bl, 0, none⟩) 64 64) ∧ w'.cell? ⟨ga, oa + k, none⟩ = some (.int .i64 p) ∧ w'.there bl (p * 1026) 1026 ∧ But [] w15 w') 10 (by kernel_rfl) ?_
            refine till_take 0 (some 59) (.pointer (some ⟨bx, 0, none⟩)) rfl rfl (by kernel_rfl) (by kernel_rfl) (by kernel_rfl) (by kernel_rfl) (by decide) (fun _ _ _ h => h) (Or.inl ⟨by rfl, fun w' hw' => by go_simp⟩) hS0 ?_
            simp only [Act.put, List.setIfInBounds_toArray, List.set_cons_zero, List.set_cons_succ]
            refine till_take 1 (some 60) (.pointer (some ⟨bx, 0, none⟩)) rfl rfl (by kernel_rfl) (by kernel_rfl) (by kernel_rfl) (by kernel_rfl) (by decide) (fun _ _ _ h => h) (Or.inl ⟨by rfl, fun w' hw' => by go_simp⟩) hS0 ?_
            simp only [Act.put, List.setIfInBounds_toArray, List.set_cons_zero, List.set_cons_succ]
            refine till_take 2 (some 61) (.pointer (some ⟨bx, 0, none⟩)) rfl rfl (by kernel_rfl) (by kernel_rfl) (by kernel_rfl) (by kernel_rfl) (by decide) (fun _ _ _ h => h) (Or.inl ⟨by rfl, fun w' hw' => by go_simp⟩) hS0 ?_
            simp only [Act.put, List.setIfInBounds_toArray, List.set_cons_zero, List.set_cons_succ]
            refine till_take 3 (some 62) (.slice (some ⟨bl, 0, none⟩) 64 64) rfl rfl (by kernel_rfl) (by kernel_rfl) (by kernel_rfl) (by kernel_rfl) (by decide) (fun _ _ _ h => h) (Or.inl ⟨by rfl, fun w' hw' => by obtain ⟨-, hw1, -⟩ := hw'; go_simp⟩) hS0 ?_
            simp only [Act.put, List.setIfInBounds_toArray, List.set_cons_zero, List.set_cons_succ]
            refine till_take 4 (some 63) (.slice (some ⟨ga, oa, none⟩) n cv) rfl rfl (by kernel_rfl) (by kernel_rfl) (by kernel_rfl) (by kernel_rfl) (by decide) (fun _ _ _ h => h) (Or.inl ⟨by rfl, fun w' hw' => by go_simp⟩) hS0 ?_
            simp only [Act.put, List.setIfInBounds_toArray, List.set_cons_zero, List.set_cons_succ]
            refine till_take 5 (some 64) (.int .i64 k) rfl rfl (by kernel_rfl) (by kernel_rfl) (by kernel_rfl) (by kernel_rfl) (by decide) (fun _ _ _ h => h) (Or.inl ⟨by rfl, fun w' hw' => by go_simp⟩) hS0 ?_
            simp only [Act.put, List.setIfInBounds_toArray, List.set_cons_zero, List.set_cons_succ]
            refine till_take 6 (some 65) (.pointer (some ⟨ga, oa + k, none⟩)) rfl rfl (by kernel_rfl) (by kernel_rfl) (by kernel_rfl) (by kernel_rfl) (by decide) (fun _ _ _ h => h) (Or.inl ⟨by rfl, fun w' hw' => by go_simp⟩) hS0 ?_
            simp only [Act.put, List.setIfInBounds_toArray, List.set_cons_zero, List.set_cons_succ]
            refine till_take 7 (some 66) (.int .i64 p) rfl rfl (by kernel_rfl) (by kernel_rfl) (by kernel_rfl) (by kernel_rfl) (by decide) (fun _ _ _ h => h) (Or.inl ⟨by rfl, fun w' hw' => by obtain ⟨-, -, hw1, -⟩ := hw'; go_simp⟩) hS0 ?_
            simp only [Act.put, List.setIfInBounds_toArray, List.set_cons_zero, List.set_cons_succ]
            refine till_take 8 (some 67) (.agg (nc X).toArray) rfl rfl (by kernel_rfl) (by kernel_rfl) (by kernel_rfl) (by kernel_rfl) (by decide) (fun _ _ _ h => h) (yieldsIf_load_mid (by rfl) _ _ rfl bA 0 rfl (nc X) _ (fun w' h => h.1) Try.underlying46 rfl (iNode _)) hS0 ?_
            simp only [Act.put, List.setIfInBounds_toArray, List.set_cons_zero, List.set_cons_succ]
            refine till_take 9 (some 68) (.pointer (some ⟨bl, p * 1026, none⟩)) rfl rfl (by kernel_rfl) (by kernel_rfl) (by kernel_rfl) (by kernel_rfl) (by decide) (fun _ _ _ h => h) (Or.inl ⟨by rfl, fun w' hw' => by go_simp⟩) hS0 ?_
            simp only [Act.put, List.setIfInBounds_toArray, List.set_cons_zero, List.set_cons_succ]
            refine till_one' 10 rfl (by kernel_rfl) (by rfl) (fun K hK => ?_)
            refine wp_store_mid _ _ _ rfl bl (p * 1026) (nc X).toArray rfl rfl (by rw [ncs]; exact hS0.2.2.2.1) (iNode' _) (nc_all _) ?_
            refine hK.out _ _ ⟨fun h => absurd rfl h, ?_⟩
            clear hK K
            refine till_done (by kernel_rfl) ?_ _
            refine NoPanic.normal ?_
            have hk7 : But [bl] w15.drew (w15.drew.setCells bl (p * 1026) (nc X)) := (But.refl [bl] _).setCells (by simp) _ _
            have hF7 := (HF15.out.keep0 (But.refl [] w15).drew).put hp64 X
            rw [HSN.out] at hF7
            have HF7 := hid hF7
            have HB7 : Hid (But [bl] w9 (w15.drew.setCells bl (p * 1026) (nc X))) := but_more (but_more HB2.out HK14.out.drew (fun i hi => .inr (by simp at hi; subst hi; exact HGW.out))) hk7 (by simp)
            clear hk7 hF7 hS0
            generalize w15.drew.setCells bl (p * 1026) (nc X) = w7 at *
            go_wp2
            go_roundg (n + 1 - (k + 1))
            case measure => omega
            case rel => exact ⟨k + 1, u, by omega, by omega, by go_num, rfl, by omega, HU2.out, HF7.out, HB7.out⟩
          · have hd : decide (0 < u1) = true := decide_eq_true (by omega)
            have HU2 : Hid (u + 1 = ((L.take (k + 1)).filter fun i => meets (T i).st s).length) := by
              have := HFS.out
              rw [HMT.out, hd, ← HU.out] at this
              show _ = _
              simpa using this.symm
            have hd2 : decide ((0 : Int) < (u1 : Int)) = true := decide_eq_true (by omega)
            go_wp2_with (first
              | (refine wpList_load_mid rfl 36 _ rfl bA 2 rfl (bv (T p).st) _ HR13.out Try.underlying36 rfl (iSet _) ?_)
              | (refine wpList_load_mid rfl 36 _ rfl B 0 rfl (bv s) _ HS13.out Try.underlying36 rfl (iSet _) ?_))
            refine (rlay1_c (T p).st s _).mono ?_
            rintro e w14 ⟨rfl, k14⟩
            have HN14 := hid (range_keep HN13.out k14 (by simp))
            have HT14 : Hid (w14.there bA 2 (bv (wo (T p).st s)).toArray.size) := by
              show World.there _ _ _ _
              rw [bvs]
              exact there_part (there_keep HT13.out k14 (lt_of_there HT13.out (by omega)) (by simp))
            have HNX : Hid ((w14.setCells bA 2 (bv (wo (T p).st s))).rangeAt bA 0 (nc X)) := by
              show World.rangeAt _ _ _ _
              rw [HX.out]
              exact nc_put (T p) (wo (T p).st s) HN14.out
            have HK14 : Hid (But [bA] wr (w14.setCells bA 2 (bv (wo (T p).st s)))) := ((HK13.out.trans k14).any [bA]).setCells (by simp) _ _
            clear k14 HR13 HN13 HT13 HS13
            go_upto_region 15 with (first
              | (refine wpList_store_mid rfl 36 _ _ rfl bA 2 (bv (wo (T p).st s)).toArray rfl rfl ?ht (iSet' _) (bv_all _) ?_; case ht => exact HT14.out))
            clear HT14 HN14 HK13
            generalize w14.setCells bA 2 (bv (wo (T p).st s)) = w15 at *
            have HF15 := hid (HF.out.keep HK14.out (by have := HNA.out; simp; omega) (by have := HNA.out; simp; omega))
            have hS0 : w15.drew.rangeAt bA 0 (nc X) ∧ w15.drew.cell? ⟨bx, 0, none⟩ = some (.slice (some ⟨bl, 0, none⟩) 64 64) ∧ w15.drew.cell? ⟨ga, oa + k, none⟩ = some (.int .i64 p) ∧ w15.drew.there bl (p * 1026) 1026 ∧ But [] w15 w15.drew :=
              ⟨(World.rangeAt_drew _ _ _ _).2 HNX.out, HF15.out.c0, cell_keep HCA.out HK14.out.drew (by have := HNA.out; simp; omega), (HF15.out.keep0 (But.refl [] w15).drew).th hp64, (But.refl [] w15).drew⟩
            refine wp_region_noPanic ?_
            refine till_begin (fun w' => w'.rangeAt bA 0 (nc X) ∧ w'.cell? ⟨bx, 0, none⟩ = some (.slice (some ⟨bl, 0, none⟩) 64 64) ∧ w'.cell? ⟨ga, oa + k, none⟩ = some (.int .i64 p) ∧ w'.there bl (p * 1026) 1026 ∧ But [] w15 w') 10 (by kernel_rfl) ?_
            refine till_take 0 (some 59) (.pointer (some ⟨bx, 0, none⟩)) rfl rfl (by kernel_rfl) (by kernel_rfl) (by kernel_rfl) (by kernel_rfl) (by decide) (fun _ _ _ h => h) (Or.inl ⟨by rfl, fun w' hw' => by go_simp⟩) hS0 ?_
            simp only [Act.put, List.setIfInBounds_toArray, List.set_cons_zero, List.set_cons_succ]
            refine till_take 1 (some 60) (.pointer (some ⟨bx, 0, none⟩)) rfl rfl (by kernel_rfl) (by kernel_rfl) (by kernel_rfl) (by kernel_rfl) (by decide) (fun _ _ _ h => h) (Or.inl ⟨by rfl, fun w' hw' => by go_simp⟩) hS0 ?_
            simp only [Act.put, List.setIfInBounds_toArray, List.set_cons_zero, List.set_cons_succ]
            refine till_take 2 (some 61) (.pointer (some ⟨bx, 0, none⟩)) rfl rfl (by kernel_rfl) (by kernel_rfl) (by kernel_rfl) (by kernel_rfl) (by decide) (fun _ _ _ h => h) (Or.inl ⟨by rfl, fun w' hw' => by go_simp⟩) hS0 ?_
            simp only [Act.put, List.setIfInBounds_toArray, List.set_cons_zero, List.set_cons_succ]
            refine till_take 3 (some 62) (.slice (some ⟨bl, 0, none⟩) 64 64) rfl rfl (by kernel_rfl) (by kernel_rfl) (by kernel_rfl) (by kernel_rfl) (by decide) (fun _ _ _ h => h) (Or.inl ⟨by rfl, fun w' hw' => by obtain ⟨-, hw1, -⟩ := hw'; go_simp⟩) hS0 ?_
            simp only [Act.put, List.setIfInBounds_toArray, List.set_cons_zero, List.set_cons_succ]
            refine till_take 4 (some 63) (.slice (some ⟨ga, oa, none⟩) n cv) rfl rfl (by kernel_rfl) (by kernel_rfl) (by kernel_rfl) (by kernel_rfl) (by decide) (fun _ _ _ h => h) (Or.inl ⟨by rfl, fun w' hw' => by go_simp⟩) hS0 ?_
            simp only [Act.put, List.setIfInBounds_toArray, List.set_cons_zero, List.set_cons_succ]
            refine till_take 5 (some 64) (.int .i64 k) rfl rfl (by kernel_rfl) (by kernel_rfl) (by kernel_rfl) (by kernel_rfl) (by decide) (fun _ _ _ h => h) (Or.inl ⟨by rfl, fun w' hw' => by go_simp⟩) hS0 ?_
            simp only [Act.put, List.setIfInBounds_toArray, List.set_cons_zero, List.set_cons_succ]
            refine till_take 6 (some 65) (.pointer (some ⟨ga, oa + k, none⟩)) rfl rfl (by kernel_rfl) (by kernel_rfl) (by kernel_rfl) (by kernel_rfl) (by decide) (fun _ _ _ h => h) (Or.inl ⟨by rfl, fun w' hw' => by go_simp⟩) hS0 ?_
            simp only [Act.put, List.setIfInBounds_toArray, List.set_cons_zero, List.set_cons_succ]
            refine till_take 7 (some 66) (.int .i64 p) rfl rfl (by kernel_rfl) (by kernel_rfl) (by kernel_rfl) (by kernel_rfl) (by decide) (fun _ _ _ h => h) (Or.inl ⟨by rfl, fun w' hw' => by obtain ⟨-, -, hw1, -⟩ := hw'; go_simp⟩) hS0 ?_
            simp only [Act.put, List.setIfInBounds_toArray, List.set_cons_zero, List.set_cons_succ]
            refine till_take 8 (some 67) (.agg (nc X).toArray) rfl rfl (by kernel_rfl) (by kernel_rfl) (by kernel_rfl) (by kernel_rfl) (by decide) (fun _ _ _ h => h) (yieldsIf_load_mid (by rfl) _ _ rfl bA 0 rfl (nc X) _ (fun w' h => h.1) Try.underlying46 rfl (iNode _)) hS0 ?_
            simp only [Act.put, List.setIfInBounds_toArray, List.set_cons_zero, List.set_cons_succ]
            refine till_take 9 (some 68) (.pointer (some ⟨bl, p * 1026, none⟩)) rfl rfl (by kernel_rfl) (by kernel_rfl) (by kernel_rfl) (by kernel_rfl) (by decide) (fun _ _ _ h => h) (Or.inl ⟨by rfl, fun w' hw' => by go_simp⟩) hS0 ?_
            simp only [Act.put, List.setIfInBounds_toArray, List.set_cons_zero, List.set_cons_succ]
            refine till_one' 10 rfl (by kernel_rfl) (by rfl) (fun K hK => ?_)
            refine wp_store_mid _ _ _ rfl bl (p * 1026) (nc X).toArray rfl rfl (by rw [ncs]; exact hS0.2.2.2.1) (iNode' _) (nc_all _) ?_
            refine hK.out _ _ ⟨fun h => absurd rfl h, ?_⟩
            clear hK K
            refine till_done (by kernel_rfl) ?_ _
            refine NoPanic.normal ?_
            have hk7 : But [bl] w15.drew (w15.drew.setCells bl (p * 1026) (nc X)) := (But.refl [bl] _).setCells (by simp) _ _
            have hF7 := (HF15.out.keep0 (But.refl [] w15).drew).put hp64 X
            rw [HSN.out] at hF7
            have HF7 := hid hF7
            have HB7 : Hid (But [bl] w9 (w15.drew.setCells bl (p * 1026) (nc X))) := but_more (but_more HB2.out HK14.out.drew (fun i hi => .inr (by simp at hi; subst hi; exact HGW.out))) hk7 (by simp)
            clear hk7 hF7 hS0
            generalize w15.drew.setCells bl (p * 1026) (nc X) = w7 at *
            go_wp2
            go_roundg (n + 1 - (k + 1))
            case measure => omega
            case rel => exact ⟨k + 1, u + 1, by omega, by omega, by go_num, by go_num, by omega, HU2.out, HF7.out, HB7.out⟩
        · obtain rfl : k = n := by omega
          obtain ⟨w8, hw8⟩ : ∃ w8, w8 = wr := ⟨_, rfl⟩
          rw [← hw8] at HF HB2 ⊢
          clear hw8
          obtain ⟨U, hU⟩ : ∃ U, U = cdL T s L := ⟨_, rfl⟩
          have HUU := hid hU
          have HF8 : Hid (RfAt w8 bx bl U m) := by
            have := HF.out
            rw [List.take_of_length_le (by have := HN.out; omega), ← hU] at this
            exact this
          have HE : Hid (ctC T a s = u) := by
            have := HU.out
            rw [List.take_of_length_le (by have := HN.out; omega)] at this
            show _ = _
            rw [this]
            exact HCC.out.symm
          have HTT : Hid (ceL U L = ctT T a s) := by show _ = _; rw [hU]; exact HCT.out
          clear HU HF hU hc0
          go_wp2
          go_loopg [12] (k + 1) (fun g0 i wx => ∃ (j : Nat), j + g0 = k + 1 ∧ j ≤ k ∧ i = .int .i64 j ∧ Hid (RfAt wx bx bl (ceL U (L.take j)) m) ∧ Hid (But [bl] w8 wx))
          case atStart => exact ⟨0, by omega, by omega, rfl, by show RfAt _ _ _ _ _; rw [List.take_zero, ceL_nil]; exact HF8.out, But.refl _ _⟩
          case round =>
            obtain ⟨j, hjg, hj, rfl, HF, HB3⟩ := hrel
            by_cases hlt : j < k
            · have hkI : (j : Int) < (k : Int) := by omega
              obtain ⟨ga, oa, rfl, hga0, hga, hca⟩ := HAT.out j hlt
              have hgbl : ga ∉ [bl] := by have := HNE.out; have := HS0.out; simp; omega
              have hca := cell_keep (cell_keep hca HB2.out hgbl) HB3.out hgbl
              have hp64 := HLT.out j hlt
              have HTS : Hid (L.take (j + 1) = L.take j ++ [L.getD j 0]) := take_snoc (by have := HN.out; omega)
              have HYS := hid (fun h1 h2 => ceL_yes (U := U) (l := L.take j) (p := L.getD j 0) h1 h2)
              have HNO := hid (fun h1 => ceL_no (U := U) (l := L.take j) (p := L.getD j 0) h1)
              rw [← HTS.out] at HYS HNO
              have HOUT := hid (ceL_out (U := U) (HPN.out j hlt))
              clear HTS
              generalize L.getD j 0 = p at *
              have hpI : (p : Int) < 64 := by omega
              have hcp := HF.out.p hp64
              have hcs := HF.out.s hp64
              rw [HOUT.out] at hcp hcs
              have HCS := hid hcs
              have hc0 := HF.out.c0
              clear hga0 hga hcs
              by_cases h0 : 0 ≤ (U p).par
              · have hd0 : decide (0 ≤ (U p).par) = true := decide_eq_true h0
                obtain ⟨u3, hu3⟩ : ∃ u, (nums (U p).st 1024).length = u := ⟨_, rfl⟩
                have HU3 := hid hu3
                have HZ3 := hid (nz_len hu3)
                have HYS2 := hid (fun h2 => HYS.out h0 h2)
                have HNO2 : Hid (nz (U p).st = true → ceL U (L.take j) = ceL U (L.take (j + 1))) := fun h2 => HNO.out (fun h3 => by rw [h2] at h3; cases h3.2)
                have hS : Hid (wr.drew.cell? ⟨bx, 0, none⟩ = some (.slice (some ⟨bl, 0, none⟩) 64 64) ∧ wr.drew.cell? ⟨ga, oa + j, none⟩ = some (.int .i64 p) ∧ wr.drew.cell? ⟨bl, p * 1026 + 1, none⟩ = some (.int .i64 (U p).par) ∧ wr.drew.rangeAt bl (p * 1026 + 2) (bv (U p).st) ∧ But [] wr wr.drew) :=
                  ⟨hc0, hca, hcp, (World.rangeAt_drew _ _ _ _).2 HCS.out, (But.refl [] wr).drew⟩
                have hui := Try.underlying36
                have hsi := iSet (U p).st
                clear hu3 HYS HNO h0
                generalize (U p).par = q at *
                go_upto_region 19 with fail
                go_region_held3 (fun w' => w'.cell? ⟨bx, 0, none⟩ = some (.slice (some ⟨bl, 0, none⟩) 64 64) ∧ w'.cell? ⟨ga, oa + j, none⟩ = some (.int .i64 p) ∧ w'.cell? ⟨bl, p * 1026 + 1, none⟩ = some (.int .i64 q) ∧ w'.rangeAt bl (p * 1026 + 2) (bv (U p).st) ∧ But [] wr w')
                  (first | exact hS.out | assumption | exact c5_keep (by assumption) (by assumption))
                  (first
                    | (go_at_call 49
                       refine (countN_c (U p).st u3 HU3.out _).mono ?_
                       rintro e w3 ⟨rfl, k3⟩))
                clear hui hsi
                go_split_ands
                have hk3 : But [] wr w3 := by assumption
                have HF3 := hid (HF.out.keep0 hk3)
                have hca3 : w3.cell? ⟨ga, oa + j, none⟩ = some (.int .i64 p) := by assumption
                have HCA3 := hid hca3
                have HB4 := hid (HB3.out.trans (hk3.any _))
                rename_i q1 q2 q3 q4 q5
                clear q1 q2 q3 q4 q5 k3 hS hk3 hca hca3 hcp hc0
                by_cases hu : u3 = 0
                · subst hu
                  have HSN : Hid (updN (ceL U (L.take j)) p nd0 = ceL U (L.take (j + 1))) := HYS2.out (by rw [HZ3.out]; rfl)
                  have hS0 : w3.drew.cell? ⟨bx, 0, none⟩ = some (.slice (some ⟨bl, 0, none⟩) 64 64) ∧ w3.drew.cell? ⟨ga, oa + j, none⟩ = some (.int .i64 p) ∧ w3.drew.there bl (p * 1026) 1026 ∧ But [] w3 w3.drew :=
                    ⟨HF3.out.c0, HCA3.out, (HF3.out.keep0 (But.refl [] w3).drew).th hp64, (But.refl [] w3).drew⟩
                  go_upto_region 20 with fail
                  refine wp_region_noPanic ?_
                  refine till_begin (fun w' => w'.cell? ⟨bx, 0, none⟩ = some (.slice (some ⟨bl, 0, none⟩) 64 64) ∧ w'.cell? ⟨ga, oa + j, none⟩ = some (.int .i64 p) ∧ w'.there bl (p * 1026) 1026 ∧ But [] w3 w') 10 (by kernel_rfl) ?_
                  refine till_take 0 (some 102) (.pointer (some ⟨bx, 0, none⟩)) rfl rfl (by kernel_rfl) (by kernel_rfl) (by kernel_rfl) (by kernel_rfl) (by decide) (fun _ _ _ h => h) (Or.inl ⟨by rfl, fun w' hw' => by go_simp⟩) hS0 ?_
                  simp only [Act.put, List.setIfInBounds_toArray, List.set_cons_zero, List.set_cons_succ]
                  refine till_take 1 (some 103) (.pointer (some ⟨bx, 0, none⟩)) rfl rfl (by kernel_rfl) (by kernel_rfl) (by kernel_rfl) (by kernel_rfl) (by decide) (fun _ _ _ h => h) (Or.inl ⟨by rfl, fun w' hw' => by go_simp⟩) hS0 ?_
                  simp only [Act.put, List.setIfInBounds_toArray, List.set_cons_zero, List.set_cons_succ]
                  refine till_take 2 (some 104) (.pointer (some ⟨bx, 0, none⟩)) rfl rfl (by kernel_rfl) (by kernel_rfl) (by kernel_rfl) (by kernel_rfl) (by decide) (fun _ _ _ h => h) (Or.inl ⟨by rfl, fun w' hw' => by go_simp⟩) hS0 ?_
                  simp only [Act.put, List.setIfInBounds_toArray, List.set_cons_zero, List.set_cons_succ]
                  refine till_take 3 (some 105) (.slice (some ⟨bl, 0, none⟩) 64 64) rfl rfl (by kernel_rfl) (by kernel_rfl) (by kernel_rfl) (by kernel_rfl) (by decide) (fun _ _ _ h => h) (Or.inl ⟨by rfl, fun w' hw' => by obtain ⟨hw1, -⟩ := hw'; go_simp⟩) hS0 ?_
                  simp only [Act.put, List.setIfInBounds_toArray, List.set_cons_zero, List.set_cons_succ]
                  refine till_take 4 (some 106) (.slice (some ⟨ga, oa, none⟩) k cv) rfl rfl (by kernel_rfl) (by kernel_rfl) (by kernel_rfl) (by kernel_rfl) (by decide) (fun _ _ _ h => h) (Or.inl ⟨by rfl, fun w' hw' => by go_simp⟩) hS0 ?_
                  simp only [Act.put, List.setIfInBounds_toArray, List.set_cons_zero, List.set_cons_succ]
                  refine till_take 5 (some 107) (.int .i64 j) rfl rfl (by kernel_rfl) (by kernel_rfl) (by kernel_rfl) (by kernel_rfl) (by decide) (fun _ _ _ h => h) (Or.inl ⟨by rfl, fun w' hw' => by go_simp⟩) hS0 ?_
                  simp only [Act.put, List.setIfInBounds_toArray, List.set_cons_zero, List.set_cons_succ]
                  refine till_take 6 (some 108) (.pointer (some ⟨ga, oa + j, none⟩)) rfl rfl (by kernel_rfl) (by kernel_rfl) (by kernel_rfl) (by kernel_rfl) (by decide) (fun _ _ _ h => h) (Or.inl ⟨by rfl, fun w' hw' => by go_simp⟩) hS0 ?_
                  simp only [Act.put, List.setIfInBounds_toArray, List.set_cons_zero, List.set_cons_succ]
                  refine till_take 7 (some 109) (.int .i64 p) rfl rfl (by kernel_rfl) (by kernel_rfl) (by kernel_rfl) (by kernel_rfl) (by decide) (fun _ _ _ h => h) (Or.inl ⟨by rfl, fun w' hw' => by obtain ⟨-, hw1, -⟩ := hw'; go_simp⟩) hS0 ?_
                  simp only [Act.put, List.setIfInBounds_toArray, List.set_cons_zero, List.set_cons_succ]
                  refine till_take 8 (some 110) (.agg (nc nd0).toArray) rfl rfl (by kernel_rfl) (by kernel_rfl) (by kernel_rfl) (by kernel_rfl) (by decide) (fun _ _ _ h => h) (yieldsIf_build (by rfl) 46 [] rfl (nc nd0).toArray [] rfl bNode) hS0 ?_
                  simp only [Act.put, List.setIfInBounds_toArray, List.set_cons_zero, List.set_cons_succ]
                  refine till_take 9 (some 111) (.pointer (some ⟨bl, p * 1026, none⟩)) rfl rfl (by kernel_rfl) (by kernel_rfl) (by kernel_rfl) (by kernel_rfl) (by decide) (fun _ _ _ h => h) (Or.inl ⟨by rfl, fun w' hw' => by go_simp⟩) hS0 ?_
                  simp only [Act.put, List.setIfInBounds_toArray, List.set_cons_zero, List.set_cons_succ]
                  refine till_one' 10 rfl (by kernel_rfl) (by rfl) (fun K hK => ?_)
                  refine wp_store_mid _ _ _ rfl bl (p * 1026) (nc nd0).toArray rfl rfl (by rw [ncs]; exact hS0.2.2.1) (iNode' _) (nc_all _) ?_
                  refine hK.out _ _ ⟨fun h => absurd rfl h, ?_⟩
                  clear hK K
                  refine till_done (by kernel_rfl) ?_ _
                  refine NoPanic.normal ?_
                  have hk7 : But [bl] w3.drew (w3.drew.setCells bl (p * 1026) (nc nd0)) := (But.refl [bl] _).setCells (by simp) _ _
                  have hF7 := (HF3.out.keep0 (But.refl [] w3).drew).put hp64 nd0
                  rw [HSN.out] at hF7
                  have HF7 := hid hF7
                  have HB7 := hid ((HB4.out.trans ((But.refl [] w3).drew.any _)).trans hk7)
                  clear hk7 hF7 hS0
                  generalize w3.drew.setCells bl (p * 1026) (nc nd0) = w7 at *
                  go_wp2
                  go_roundg (k + 1 - (j + 1))
                  case measure => omega
                  case rel => exact ⟨j + 1, by omega, by omega, by go_num, HF7.out, HB7.out⟩
                · have HF2 : Hid (RfAt w3 bx bl (ceL U (L.take (j + 1))) m) := by
                    show RfAt _ _ _ _ _
                    rw [← HNO2.out (by rw [HZ3.out]; exact decide_eq_true (by omega))]
                    exact HF3.out
                  have hl0 : ((u3 : Int) == 0) = false := by simp; omega
                  clear HZ3 HYS2 HNO2
                  go_wp2
                  go_roundg (k + 1 - (j + 1))
                  case measure => omega
                  case rel => exact ⟨j + 1, by omega, by omega, by go_num, HF2.out, HB4.out⟩
              · have hd0 : decide (0 ≤ (U p).par) = false := decide_eq_false h0
                have HF2 : Hid (RfAt wr bx bl (ceL U (L.take (j + 1))) m) := by
                  show RfAt _ _ _ _ _
                  rw [← HNO.out (fun h => h0 h.1)]
                  exact HF.out
                clear h0 HYS HNO
                generalize (U p).par = q at *
                go_upto_region 19 with fail
                go_quiet (fail)
                have HF3 := hid (HF2.out.keep0 ((But.refl [] wr).drewN nq))
                have HB4 := hid (HB3.out.drewN nq)
                generalize wr.drewN nq = w3 at HF3 HB4 ⊢
                go_wp2
                go_roundg (k + 1 - (j + 1))
                case measure => omega
                case rel => exact ⟨j + 1, by omega, by omega, by go_num, HF3.out, HB4.out⟩
            · obtain rfl : j = k := by omega
              have HF9 : Hid (RfAt wr bx bl (ctT T a s) m) := by
                have := HF.out
                rw [List.take_of_length_le (by have := HN.out; omega), HTT.out] at this
                exact this
              go_wp2
              go_ret
              exact ⟨by rw [HE.out]; rfl, HF9.out, but_more ((HK0.out.trans HB.out).any [bl]) (HB2.out.trans HB3.out) (by simp)⟩
end Go.Proofs.Ytlppfcoclpdanaa.Cs
