/-
  Layer 16 (slots): contracts of slices.Index, Wait and Of, over the translated program.
-/
import Derived.Test.YteenclhmdnnniaaVtBase
namespace Go.Proofs.Yteenclhmdnnniaa.Vt
open Go.ChangeShapes Go.WideShapes Go.ChangeAt Go.RowKit
open Wh
set_option linter.unusedVariables false
set_option maxRecDepth 20000

/-- Numbers that lie at A. -/
def Li (w : World) (A : Option Addr) (l : List Int) : Prop := Rd .i64 w 0 w.heap.size A l
theorem Li.keep {w w' : World} {A : Option Addr} {l : List Int} (h : Li w A l) (k : But [] w w') : Li w' A l := by
  rcases h with h0 | ⟨b, off, e, h1, h2, hc⟩
  · exact .inl h0
  · exact .inr ⟨b, off, e, h1, Nat.lt_of_lt_of_le h2 k.size, fun j hj => (k.cell (p := ⟨b, off + j, none⟩) h2 (by simp)).trans (hc j hj)⟩
theorem Li.at_ {w : World} {A : Option Addr} {l : List Int} (h : Li w A l) {k : Nat} (hk : k < l.length) : ∃ g off, A = some ⟨g, off, none⟩ ∧ g < w.heap.size ∧ ∀ j, j < l.length → w.cell? ⟨g, off + j, none⟩ = some (.int .i64 (l.getD j 0)) := by
  obtain ⟨g, off, e, h1, h2, h3⟩ := Rd.at_ h (j := k) hk
  exact ⟨g, off, e, h2, h3⟩
/-- A row of the call's own, as it is read. -/
theorem que_li {w : World} {base n : Nat} {v : Value} {l : List Int} (h : Que w base 1 v n (zi l)) : ∃ A c, v = .slice A n c ∧ l.length = n ∧ Li w A l := by
  have hl : l.length = n := by have := h.1; rwa [zi_len, Nat.mul_one] at this
  rcases h.2 with ⟨rfl, rfl⟩ | ⟨g, off, cap, rfl, hb, hg, hnc, hcm, hth, hr⟩
  · exact ⟨_, _, rfl, hl, .inl (List.eq_nil_of_length_eq_zero hl)⟩
  · exact ⟨_, _, rfl, hl, .inr ⟨g, off, rfl, Nat.zero_le _, hg, fun j hj => hr j _ (zi_get l j hj)⟩⟩
set_option maxHeartbeats 1000000 in
theorem index_c (A : Option Addr) (n c : Nat) (e : Int) (l : List Int) (w : World) (h : Li w A l) (hn : l.length = n) (hm : n ≤ 100000) :
    Calls Try.prog 22 #[.slice A n c, .int .i64 e] w fun r w' => r = .returned (.int .i64 (wt e l)) ∧ But [] w w' := by
  have HL := hid h
  have HN := hid hn
  clear h hn
  go_enter Try.func22, Try.ntmps22
  go_wp2
  go_loopg [8] (n + 1) (fun g0 i wx => ∃ j : Nat, j + g0 = n + 1 ∧ j ≤ n ∧ i = .int .i64 j ∧ Hid (∀ q, q < j → l.getD q 0 ≠ e) ∧ Hid (But [] w wx))
  case atStart => exact ⟨0, by omega, by omega, rfl, fun q hq => absurd hq (Nat.not_lt_zero _), But.refl _ _⟩
  case round =>
    obtain ⟨j, hjg, hj, rfl, HX, HB⟩ := hrel
    by_cases hlt : j < n
    · have hlx : j < l.length := by have := HN.out; omega
      obtain ⟨b, off, hA, hb, hcell⟩ := HL.out.at_ hlx
      have hc := cell_keep (hcell j hlx) HB.out (by simp)
      subst hA
      by_cases hv : l.getD j 0 = e
      · have HE : Hid (wt e l = j) := wt_hit hlx HX.out hv
        rw [hv] at hc
        clear hcell hv hlx
        go_wp2
        go_ret
        exact ⟨by rw [HE.out]; rfl, HB.out⟩
      · have HX1 : Hid (∀ q, q < j + 1 → l.getD q 0 ≠ e) := fun q hq => by
          rcases Nat.lt_or_ge q j with h | h
          · exact HX.out q h
          · obtain rfl : q = j := by omega
            exact hv
        generalize l.getD j 0 = x at hc hv
        have hne : (e == x) = false := by simp; omega
        clear hcell hlx hv HX
        go_wp2
        go_roundg (n + 1 - (j + 1))
        case measure => omega
        case rel => exact ⟨j + 1, by omega, by omega, by go_num, HX1.out, HB.out⟩
    · obtain rfl : j = n := by omega
      have HE : Hid (wt e l = -1) := wt_no fun q hq => HX.out q (by have := HN.out; omega)
      go_wp2
      go_ret
      exact ⟨by rw [HE.out]; rfl, HB.out⟩
/-- What is told of a number that is -1 for none. -/
def Pr (r : Int) : Value := .tuple #[.int .i64 (if r < 0 then 0 else r), .bool (decide (0 ≤ r))]
theorem Pr_no : Pr (-1) = .tuple #[.int .i64 0, .bool false] := rfl
theorem Pr_yes (j : Nat) : Pr j = .tuple #[.int .i64 j, .bool true] := by unfold Pr; rw [if_neg (by omega), decide_eq_true (by omega)]
set_option maxHeartbeats 1000000 in
theorem wait_c (l : List Int) (hl : l.length ≤ 32) (e : Int) (w : World) :
    Calls Try.prog 14 #[vv l, .int .i64 e] w fun r w' => r = .returned (Pr (wt e l)) ∧ But [] w w' := by
  obtain ⟨b, hb⟩ : ∃ b, b = w.heap.size := ⟨_, rfl⟩
  obtain ⟨w0, hw0⟩ : ∃ w0, w0 = w.alloc (.cells (vc l).toArray vT) := ⟨_, rfl⟩
  have HB0 : Hid (But [] w w0) := by show But _ _ _; rw [hw0]; exact (But.refl [] w).alloc _
  have hv := vt_new w l
  rw [← hw0, ← hb] at hv
  have HR := hid hv.all
  clear hv
  have HA := hid (all_c l hl w0)
  unfold vv at HA ⊢
  go_enter Try.func14, Try.ntmps14
  go_upto_region 1 with fail
  rw [← hw0, ← hb]
  clear hw0 hb
  go_wp2_with (first
    | (refine wpList_load_mid rfl vT _ rfl b 0 rfl (vc l) _ HR.out Try.underlying25 rfl (iVec _) ?_))
  refine HA.out.mono ?_
  rintro r w1 ⟨v, rfl, hq, k1⟩
  obtain ⟨A, c, rfl, hn, hli⟩ := que_li hq
  have HI := hid hli
  have K1 := hid (HB0.out.trans k1)
  clear hq k1 HA hn hli
  go_wp2_with fail
  refine (index_c A _ c e l w1 HI.out rfl (by omega)).mono ?_
  rintro r w2 ⟨rfl, k2⟩
  have K2 := hid (K1.out.trans k2)
  clear k2
  rcases wt_cases e l with ⟨e1, -⟩ | ⟨j, hj, e1, -, -⟩
  · have HE := hid e1
    rw [e1]
    clear e1
    go_wp2
    go_ret2
    exact ⟨by rw [HE.out, Pr_no]; rfl, K2.out⟩
  · have HE := hid e1
    rw [e1]
    have hj32 : j < 32 := by omega
    have hm : (if (0 : Int) > (j : Int) then (0 : Int) else j) = j := if_neg (by omega)
    have hm' : (if (j : Int) < 0 then (0 : Int) else j) = j := if_neg (by omega)
    have hd : decide ((0 : Int) ≤ j) = true := decide_eq_true (by omega)
    clear e1 hj
    go_wp2
    go_ret2
    exact ⟨by rw [HE.out, Pr_yes]; rfl, K2.out⟩

/-- The cells of a vector that is being made: the first k slots are laid. -/
def pf (l : List Int) (k j : Nat) : Int := if j < 32 then (if j < k then l.getD j 0 else 0) else l.length
theorem pf_all {l : List Int} (j : Nat) : pf l l.length j = vf l j := by
  unfold pf vf
  by_cases h : j < 32
  · rw [if_pos h, if_pos h]
    by_cases h2 : j < l.length
    · rw [if_pos h2]
    · rw [if_neg h2, List.getD_eq_getElem?_getD, List.getElem?_eq_none (by omega)]; rfl
  · rw [if_neg h, if_neg h]
theorem pf_zero (l : List Int) (j : Nat) : pf l 0 j = if j < 32 then 0 else (l.length : Int) := by
  unfold pf
  by_cases h : j < 32
  · rw [if_pos h, if_pos h, if_neg (by omega)]
  · rw [if_neg h, if_neg h]
def nc (n : Int) : List Value := zi (tab 33 fun j => if j < 32 then 0 else n)
theorem nc_len (n : Int) : (nc n).length = 33 := by simp [nc, zi_len, tab_len]
theorem nc_all (n : Int) : (nc n).toArray.all (·.oneCell') = true := all_oneCell_toArray (zi_one _)
theorem nc_get (n : Int) (j : Nat) (h : j < 33) : (nc n)[j]? = some (.int .i64 (if j < 32 then 0 else n)) := by
  unfold nc
  rw [zi_get _ _ (by rw [tab_len]; exact h), tab_get _ _ _ h]
theorem iNc (n : Int) : (Try.prog.info? vT).map (·.size) = some (nc n).toArray.size := by rw [List.size_toArray, nc_len]; exact szVec
theorem bVec : Try.prog.built vT [] = some (vc []).toArray := by kernel_rfl
theorem bNc (n : Int) : Try.prog.built vT [(1, .int .i64 n)] = some (nc n).toArray := by kernel_rfl
attribute [irreducible] nc
theorem wpList_build' {P : Program} {ops : Array Oper} {rest : List Oper} {o : Oper} {a : Act} {w : World} {Q : Exit → Act → World → Prop} (hg : o.guard = none) (t : TypeId) (parts : List (Nat × Operand)) (ho : o.op = .build t parts.toArray)
    (cells : Array Value) (hf : P.built t (parts.map fun (i, x) => (i, a.eval x)) = some cells)
    (h : wpList P ops Q rest (a.put o.dst (.agg cells)) w) : wpList P ops Q (o :: rest) a w := by
  have e : (parts.toArray.map fun (i, x) => (i, a.eval x)).toList = parts.map fun (i, x) => (i, a.eval x) := by simp
  exact wpList_build hg t parts.toArray ho (by rw [e, hf]; rfl) (by rw [e, hf]; exact h)
theorem nc_vb {w : World} {b : Nat} (h : w.there b 0 33) (l : List Int) (n : Nat) (hn : l.length = n) : VB (w.setCells b 0 (nc n)) b 33 fun j => .int .i64 (pf l 0 j) := fun j hj => by
  have hR := World.rangeAt_setCells_same w b 0 (nc n) (by rw [nc_len]; exact h)
  have hT := World.there_setCells h b 0 (nc n)
  refine ⟨?_, ?_⟩
  · have := hR j _ (nc_get n j hj)
    rw [Nat.zero_add] at this
    rw [this]
    show _ = some (Value.int .i64 (pf l 0 j))
    rw [pf_zero, hn]
  · have := (hT j hj).2; rwa [Nat.zero_add] at this
theorem pf_set {w : World} {b k : Nat} {l : List Int} (h : VB w b 33 fun j => .int .i64 (pf l k j)) (hk : k < 32) : VB (w.setCell ⟨b, k, none⟩ (.int .i64 (l.getD k 0))) b 33 fun j => .int .i64 (pf l (k + 1) j) :=
  (h.set (k := k) (.int .i64 (l.getD k 0))).congr fun j hj => by
    show (if j = k then Value.int .i64 (l.getD k 0) else .int .i64 (pf l k j)) = .int .i64 (pf l (k + 1) j)
    unfold pf
    by_cases e : j = k
    · subst e
      rw [if_pos rfl, if_pos hk, if_pos (by omega)]
    · rw [if_neg e]
      by_cases h32 : j < 32
      · rw [if_pos h32, if_pos h32]
        by_cases hjk : j < k
        · rw [if_pos hjk, if_pos (by omega)]
        · rw [if_neg hjk, if_neg (by omega)]
      · rw [if_neg h32, if_neg h32]
theorem ok_no {l : List Int} {j : Nat} (hj : j < l.length) (h : mb (l.getD j 0) = false) : okB l = false := by
  rw [Bool.eq_false_iff]
  intro hh
  have := mb_iff.2 (okB_at hh hj)
  rw [h] at this
  cases this
theorem ok_all {l : List Int} (hl : l.length ≤ 32) (h : ∀ j, j < l.length → mb (l.getD j 0) = true) : okB l = true := by
  rw [okB_iff]
  refine ⟨hl, fun x hx => ?_⟩
  obtain ⟨j, hj, rfl⟩ := List.mem_iff_getElem.1 hx
  have := mb_iff.1 (h j hj)
  simpa [List.getD, hj] using this
set_option maxHeartbeats 2000000 in
theorem of_c (A : Option Addr) (n c : Nat) (l : List Int) (w : World) (h : Li w A l) (hn : l.length = n) :
    Calls Try.prog 6 #[.slice A n c] w fun r w' => r = .returned (.tuple #[vv (mk l), .bool (okB l)]) ∧ But [] w w' := by
  have hz := zVec
  obtain ⟨b, hb⟩ : ∃ b, b = w.heap.size := ⟨_, rfl⟩
  obtain ⟨w0, hw0⟩ : ∃ w0, w0 = w.alloc (.cells (vc []).toArray vT) := ⟨_, rfl⟩
  have HB0 : Hid (But [] w w0) := by show But _ _ _; rw [hw0]; exact (But.refl [] w).alloc _
  have hv := vt_new w []
  rw [← hw0, ← hb] at hv
  have HT0 : Hid (w0.there b 0 (vc []).toArray.size) := by show World.there _ _ _ _; rw [vc_size]; exact hv.there
  have HS0 : Hid (w0.heap.size = b + 1) := by show _ = _; rw [hw0, hb]; simp
  have HL := hid (h.keep HB0.out)
  have HN := hid hn
  have HBW := hid hb
  clear hv h
  by_cases h32 : n ≤ 32
  · unfold vv
    go_enter Try.func6, Try.ntmps6
    go_upto_region 1 with fail
    rw [← hw0, ← hb]
    clear hw0 hb hn
    have hbn := bNc n
    obtain ⟨w1, hw1⟩ : ∃ w1, w1 = (w0.alloc (.cells (vc []).toArray vT)).setCells (b + 1) 0 (nc n) := ⟨_, rfl⟩
    have hth : (w0.alloc (.cells (vc []).toArray vT)).there (b + 1) 0 33 := by have := (vt_new w0 []).there; rwa [HS0.out] at this
    have HTA : Hid ((w0.alloc (.cells (vc []).toArray vT)).there (b + 1) 0 (nc n).toArray.size) := by show World.there _ _ _ _; rw [List.size_toArray, nc_len]; exact hth
    have HP1 : Hid (VB w1 (b + 1) 33 fun j => .int .i64 (pf l 0 j)) := by rw [hw1]; exact nc_vb hth l n HN.out
    have HB1 : Hid (But [] w0 w1) := by
      rw [hw1]
      exact but_own ((But.refl [] w0).alloc _) ((But.refl [b + 1] _).setCells (by simp) _ _) (fun i hi => by simp at hi; have := HS0.out; omega)
    have hs0 := HS0.out
    go_upto_region 4 with (first
      | (refine wpList_build' rfl vT [(1, .tmp 12)] rfl (nc n).toArray ?hb ?_; case hb => exact bNc n)
      | (refine wpList_store_mid rfl vT _ _ rfl (b + 1) 0 (nc n).toArray rfl rfl ?ht (iNc _) (nc_all _) ?_; case ht => exact HTA.out))
    rw [← hw1]
    have hs1 : w0.heap.size ≤ w1.heap.size := HB1.out.size
    clear hw1 hth HTA hbn hz
    go_wp2
    go_loopg [16] (n + 1) (fun g0 i wx => ∃ k : Nat, k + g0 = n + 1 ∧ k ≤ n ∧ i = .int .i64 k ∧ Hid (∀ q, q < k → mb (l.getD q 0) = true) ∧ Hid (VB wx (b + 1) 33 fun j => .int .i64 (pf l k j)) ∧ Hid (But [b + 1] w1 wx))
    case atStart => exact ⟨0, by omega, by omega, rfl, fun q hq => absurd hq (Nat.not_lt_zero _), HP1.out, But.refl _ _⟩
    case round =>
      obtain ⟨k, hkg, hk, rfl, HX, HP, HB⟩ := hrel
      have HT : Hid (wr.there b 0 (vc []).toArray.size) := there_keep (there_keep HT0.out HB1.out (by omega) (by simp)) HB.out (by omega) (by simp)
      by_cases hlt : k < n
      · have hlx : k < l.length := by have := HN.out; omega
        obtain ⟨g, off, hA, hg, hcell⟩ := HL.out.at_ hlx
        have hgb : g ≠ b + 1 := by have := HS0.out; omega
        have hc := cell_keep (cell_keep (hcell k hlx) HB1.out (by simp)) HB.out (by simp; exact hgb)
        have hk32 : k < 32 := by omega
        obtain ⟨hp1, hp2⟩ := HP.out k (by omega)
        have HPS := hid (pf_set HP.out hk32)
        have HNO : Hid (mb (l.getD k 0) = false → okB l = false) := ok_no hlx
        have HX1 : Hid (mb (l.getD k 0) = true → ∀ q, q < k + 1 → mb (l.getD q 0) = true) := fun h0 q hq => by
          rcases Nat.lt_or_ge q k with h | h
          · exact HX.out q h
          · obtain rfl : q = k := by omega
            exact h0
        generalize l.getD k 0 = x at hc HNO HX1 HPS
        subst hA
        clear hcell hlx hg
        cases hm : mb x with
        | true =>
          have HM := hid hm
          clear hm HNO
          go_wp2_with fail
          refine (may_c x _).mono ?_
          rintro r w2 ⟨rfl, rfl⟩
          rw [HM.out]
          go_wp2
          go_roundg (n + 1 - (k + 1))
          case measure => omega
          case rel => exact ⟨k + 1, by omega, by omega, by go_num, HX1.out HM.out, HPS.out, HB.out.setCell (.inl (by simp)) _⟩
        | false =>
          have HM := hid (HNO.out hm)
          have HM2 := hid hm
          have hbv := bVec
          clear hm HNO HX1 HPS
          go_wp2_with fail
          refine (may_c x _).mono ?_
          rintro r w2 ⟨rfl, rfl⟩
          rw [HM2.out]
          go_wp2_with (first
            | (refine wpList_build' rfl vT [] rfl (vc []).toArray ?hb ?_; case hb => exact bVec)
            | (refine wpList_store_mid rfl vT _ _ rfl b 0 (vc []).toArray rfl rfl ?ht (iVec' _) (vc_all _) ?_; case ht => have := HT.out; rwa [vc_size, ← vc_size []] at this))
          refine bodyPost_ret (results_range rfl _ _ b 0 (vc []) _ rfl (World.rangeAt_setCells_same _ _ _ _ (by have := HT.out; rwa [vc_size, ← vc_len []] at this)) Try.underlying25 rfl (iVec _)) rfl ?_
          exact ⟨by rw [HM.out, mk_no HM.out]; rfl, but_own (but_own (HB0.out.trans HB1.out) HB.out (fun i hi => by simp at hi; have := HBW.out; omega)) ((But.refl [b] _).setCells (by simp) _ _) (fun i hi => by simp at hi; have := HBW.out; omega)⟩
      · obtain rfl : k = n := by omega
        have HR : Hid (wr.rangeAt (b + 1) 0 (vc l)) := HP.out.range _ (by rw [vc_len]; omega) fun i hi => by
          rw [vc_len] at hi
          rw [vc_get l i hi, Nat.zero_add, ← HN.out, pf_all]
        have HOK : Hid (okB l = true) := ok_all (by have := HN.out; omega) fun q hq => HX.out q (by have := HN.out; omega)
        go_wp2_with (first
          | (refine wpList_load_mid rfl vT _ rfl (b + 1) 0 rfl (vc l) _ HR.out Try.underlying25 rfl (iVec _) ?_)
          | (refine wpList_store_mid rfl vT _ _ rfl b 0 (vc l).toArray rfl rfl ?ht (iVec' _) (vc_all _) ?_; case ht => have := HT.out; rwa [vc_size, ← vc_size l] at this))
        refine bodyPost_ret (results_range rfl _ _ b 0 (vc l) _ rfl (World.rangeAt_setCells_same _ _ _ _ (by have := HT.out; rwa [vc_size, ← vc_len l] at this)) Try.underlying25 rfl (iVec _)) rfl ?_
        exact ⟨by rw [HOK.out, mk_ok HOK.out]; rfl, but_own (but_own (HB0.out.trans HB1.out) HB.out (fun i hi => by simp at hi; have := HBW.out; omega)) ((But.refl [b] _).setCells (by simp) _ _) (fun i hi => by simp at hi; have := HBW.out; omega)⟩
  · have HM : Hid (okB l = false) := by
      show okB l = false
      rw [Bool.eq_false_iff]
      intro hh
      have := okB_len hh
      omega
    have hbv := bVec
    unfold vv
    go_enter Try.func6, Try.ntmps6
    go_upto_region 1 with fail
    rw [← hw0, ← hb]
    clear hw0 hb hn
    go_wp2_with (first
      | (refine wpList_build' rfl vT [] rfl (vc []).toArray ?hb ?_; case hb => exact bVec)
      | (refine wpList_store_mid rfl vT _ _ rfl b 0 (vc []).toArray rfl rfl ?ht (iVec' _) (vc_all _) ?_; case ht => have := HT0.out; rwa [vc_size, ← vc_size []] at this))
    refine bodyPost_ret (results_range rfl _ _ b 0 (vc []) _ rfl (World.rangeAt_setCells_same _ _ _ _ (by have := HT0.out; rwa [vc_size, ← vc_len []] at this)) Try.underlying25 rfl (iVec _)) rfl ?_
    exact ⟨by rw [HM.out, mk_no HM.out]; rfl, but_own HB0.out ((But.refl [b] _).setCells (by simp) _ _) (fun i hi => by simp at hi; have := HBW.out; omega)⟩
end Go.Proofs.Yteenclhmdnnniaa.Vt
