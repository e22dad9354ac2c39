/-
  Layer 8 (disk): contracts of settle, Flush, Waiting, Crash, over the translated program.
-/
import Derived.Test.YtnjnplepecmfaaaDkTwo
import Derived.Deep.LoopGhost
import Derived.Deep.CutBlock
namespace Go.Proofs.Ytnjnplepecmfaaa.Dk
open Go.ChangeShapes Go.WideShapes Go.ChangeAt Go.RowKit
set_option linter.unusedVariables false
set_option maxRecDepth 20000

section
variable {lo b bl cl n : Nat} {v : Value} {L : Nat → Dat} {W : List Wr} {w : World}
set_option maxHeartbeats 1000000 in
theorem settle_c (A : Option Addr) (c : Nat) (K : List Wr) (v' : Value) (W' : List Wr) (h : DkAt tP w lo b bl cl n v L W) (hK : Ws w 0 A K) (hA : ∀ g, A = some ⟨g, 0, none⟩ → g ≠ b ∧ g ≠ bl) (hin : ∀ p ∈ K, p.1 < n) (hKl : K.length ≤ 1000)
    (ho : w.ownsRow lo tP 65 v' W'.length (cat W')) (hne : ∀ g, v'.ownBlock = some g → g ≠ b ∧ g ≠ bl) (hi : ∀ p ∈ W', p.1 < n) :
    Calls Try.prog 29 #[.pointer (some ⟨b, 0, none⟩), .slice A K.length c, v'] w fun e w' =>
      e = .returned (.int .i64 K.length) ∧ DkAt tP w' lo b bl cl n v' (setAll L K) W' ∧ But [b, bl] w w' := by
  obtain ⟨m, hm⟩ : ∃ m, m = K.length := ⟨_, rfl⟩
  rw [← hm] at hKl ⊢
  obtain ⟨A', c', hv', -⟩ := Ws.of_own ho
  obtain ⟨m', hm'⟩ : ∃ m', m' = W'.length := ⟨_, rfl⟩
  rw [← hm'] at hv'
  subst hv'
  clear hm'
  have H : Hid (DkAt tP w lo b bl cl n v L W) := h
  have HK : Hid (Ws w 0 A K) := hK
  have HA : Hid (∀ g, A = some ⟨g, 0, none⟩ → g ≠ b ∧ g ≠ bl) := hA
  have HI : Hid (∀ p ∈ K, p.1 < n) := hin
  have HO : Hid (w.ownsRow lo tP 65 (.slice A' m' c') W'.length (cat W')) := ho
  have HN : Hid (∀ g, (Value.slice A' m' c').ownBlock = some g → g ≠ b ∧ g ≠ bl) := hne
  have HJ : Hid (∀ p ∈ W', p.1 < n) := hi
  have HM : Hid (m = K.length) := hm
  have hmost := h.most
  have HBL : Hid (b < w.heap.size) := h.lt fp_b
  have HNE : Hid (b ≠ bl) := h.ne
  clear h hK hA hin ho hne hi hm
  have hz := zWrite
  go_enter Try.func29, Try.ntmps29
  go_wp2
  go_loopg [11] m (fun g0 i wx => ∃ j : Nat, j + g0 = m ∧ i = .int .i64 j ∧ Hid (DkAt tP wx lo b bl cl n v (setAll L (K.take j)) W) ∧ Hid (But [bl] w wx))
  case atStart => exact ⟨0, by omega, rfl, H, But.refl _ _⟩
  case round =>
    obtain ⟨j, hjg, rfl, HD, HB⟩ := hrel
    by_cases hlt : j < m
    · have hjK : j < K.length := by have := HM.out; omega
      obtain ⟨g, hAg, -, hgl, hrows⟩ := HK.out.at_ hjK
      have hgb := HA.out g hAg
      have hr0 := range_keep (hrows j hjK) HB.out (by simpa using hgb.2)
      rcases hp : K.getD j w0 with ⟨pk, px⟩
      rw [hp] at hr0
      have hpk : pk < n := by have := HI.out _ (getD_mem hjK); rw [hp] at this; exact this
      have HT : Hid (K.take (j + 1) = K.take j ++ [(pk, px)]) := by show _ = _; rw [take_snoc K j hjK, hp]
      have HR : Hid (wr.rangeAt g (j * 65) (wv (pk, px))) := hr0
      subst hAg
      clear hrows hr0 hp hgl
      obtain ⟨q, hq⟩ : ∃ q, q = wr.heap.size := ⟨_, rfl⟩
      obtain ⟨h1, h2⟩ := wv_parts (new_range wr (wv (pk, px)) 71)
      rw [← hq] at h1 h2
      have HD1 : Hid (DkAt tP (wr.alloc (.cells (wv (pk, px)).toArray 71)) lo b bl cl n v (setAll L (K.take j)) W) := HD.out.keep0 ((But.refl [] wr).alloc _)
      have HB1 : Hid (But [bl] w (wr.alloc (.cells (wv (pk, px)).toArray 71))) := HB.out.alloc _
      go_upto_region 4 with (first
        | (refine wpList_load_mid rfl 71 _ rfl g (j * 65) rfl (wv (pk, px)) _ HR.out Try.underlying71 rfl (iWrite _) ?_)
        | (refine wpList_store_new rfl 71 _ _ rfl (wv w0).toArray (wv (pk, px)).toArray rfl rfl (iWrite' _) (by simp [wv_len]) (wv_all _) ?_))
      rw [← hq]
      generalize wr.alloc (.cells (wv (pk, px)).toArray 71) = w1 at h1 h2 HD1 HB1 ⊢
      have HR2 : Hid (w1.rangeAt q (0 + 1) (dv px)) := h2
      have hc0 := HD1.out.c0
      have hk1 : (pk : Int) < (n : Int) := by omega
      clear h2 hq HD HB HR
      refine wp_region_still_tail 9 (by kernel_rfl) (by kernel_rfl) ?_
      simp only [List.take_succ_cons, List.take_zero, List.drop_succ_cons, List.drop_zero]
      repeat (first | (refine wpStill_load_mid rfl 34 _ rfl q 1 rfl (dv px) _ HR2.out Try.underlying34 rfl (iData _) ?_) | still_step)
      refine wpStill_nil ?_
      change wpList _ _ _ _ _ w1.drew
      have HD2 : Hid (DkAt tP w1.drew lo b bl cl n v (setAll L (K.take j)) W) := HD1.out.keep0 (But.refl [] w1).drew
      have HTH : Hid (w1.drew.there bl (pk * 64) (dv px).toArray.size) := by show World.there _ _ _ _; rw [List.size_toArray, dv_len]; exact HD2.out.there hpk
      go_wp2_with (refine wpList_store_mid rfl 34 _ _ rfl bl (pk * 64) (dv px).toArray rfl rfl ?ht (iData' _) (dv_all _) ?_; case ht => exact HTH.out)
      go_roundg (m - (j + 1))
      case measure => omega
      case rel =>
        refine ⟨j + 1, by omega, by go_num, ?_, ?_⟩
        · show DkAt _ _ _ _ _ _ _ _ _ _
          rw [HT.out, setAll_snoc]
          exact HD2.out.put hpk px
        · exact HB1.out.drew.setCells (.inl (by simp)) _ _
    · obtain rfl : j = m := by omega
      have HD1 : Hid (DkAt tP wr lo b bl cl n v (setAll L K) W) := by
        have := HD.out
        rwa [List.take_of_length_le (by have := HM.out; omega)] at this
      have hc1 := HD1.out.c1
      have hf1 := HD1.out.f1
      clear HD
      go_wp2
      go_ret
      refine ⟨rfl, HD1.out.turn (own_keep HO.out HB.out (fun g hg => by have := (HN.out g hg).2; simpa using this)) HN.out HJ.out, ?_⟩
      exact (HB.out.wider (by simp)).setCell (.inl (by simp)) _
theorem flush_nil (w : World) : Calls Try.prog 15 #[.pointer none] w fun e w' => e = .returned (.tuple #[]) ∧ w = w' := by
  go_enter Try.func15, Try.ntmps15
  go_wp2
  refine bodyPost_ret (results_none rfl _ _ _) rfl ?_
  exact ⟨rfl, rfl⟩
theorem flush_c (h : DkAt tP w lo b bl cl n v L W) (hW : W.length ≤ 1000) : Calls Try.prog 15 #[.pointer (some ⟨b, 0, none⟩)] w fun e w' => e = .returned (.tuple #[]) ∧ DkAt tP w' lo b bl cl n (.slice none 0 0) (setAll L W) [] ∧ But [b, bl] w w' := by
  obtain ⟨A, c, hv, h1, h2, h3, h4⟩ := h.ws
  have H : Hid (DkAt tP w lo b bl cl n v L W) := h
  have HC : Hid (Calls Try.prog 29 #[.pointer (some ⟨b, 0, none⟩), .slice A W.length c, .slice none 0 0] w fun e w' =>
      e = .returned (.int .i64 W.length) ∧ DkAt tP w' lo b bl cl n (.slice none 0 0) (setAll L W) [] ∧ But [b, bl] w w') :=
    settle_c A c W _ [] h (h3.keep (But.refl [] w) (by simp)|>.imp id fun ⟨g, e, _, r⟩ => ⟨g, e, Nat.zero_le _, r⟩) (fun g e => h.vne g (h4 g e)) h.inn hW (own_nil _ _ _) (fun g e => by cases e) (fun p hp => by cases hp)
  have hc1 := h.c1
  rw [hv] at hc1
  clear h hv h1 h2 h3 h4 hW
  generalize W.length = m at hc1 HC
  go_enter Try.func15, Try.ntmps15
  go_wp2_with fail
  refine HC.out.mono ?_
  rintro e w1 ⟨rfl, h5, h6⟩
  go_wp2
  go_end0
  exact ⟨rfl, h5, h6⟩
theorem waiting_nil (w : World) : Calls Try.prog 20 #[.pointer none] w fun e w' => e = .returned (.slice none 0 0) ∧ w = w' := by
  go_enter Try.func20, Try.ntmps20
  go_wp2
  go_ret
  exact ⟨rfl, rfl⟩
/-- The blocks of writes, as numbers. -/
def bks (W : List Wr) : List Int := W.map fun p => (p.1 : Int)
theorem bks_snoc (W : List Wr) (p : Wr) : bks (W ++ [p]) = bks W ++ [(p.1 : Int)] := by simp [bks]
theorem bks_len (W : List Wr) : (bks W).length = W.length := by simp [bks]
theorem bks_get (W : List Wr) (j : Nat) (h : j < W.length) : (bks W).getD j 0 = ((W.getD j w0).1 : Int) := by simp [bks, List.getD, h]
theorem infInt : (Try.prog.info? 3).map (fun i => (i.zero, i.size, i.bytes)) = some (some (.int .i64 0), 1, 8) := by kernel_rfl
set_option maxHeartbeats 1000000 in
theorem waiting_c (h : DkAt tP w lo b bl cl n v L W) (hW : W.length ≤ 1000) : Calls Try.prog 20 #[.pointer (some ⟨b, 0, none⟩)] w fun e w' =>
    ∃ u, e = .returned u ∧ w'.ownsRow w.heap.size 3 1 u W.length ((bks W).map (Value.int .i64)) ∧ But [] w w' := by
  obtain ⟨A, c, hv, h1, h2, h3, h4⟩ := h.ws
  obtain ⟨m, hm⟩ : ∃ m, m = W.length := ⟨_, rfl⟩
  rw [← hm] at hv hW ⊢
  have HM : Hid (m = W.length) := hm
  have HK : Hid (Ws w lo A W) := h3
  obtain ⟨i0, hi, hz0, hz1, hz2⟩ := info_parts infInt
  have HI : Hid (Try.prog.info? 3 = some i0) := hi
  have HZ0 : Hid (i0.zero = some (.int .i64 0)) := hz0
  have HZ1 : Hid (i0.size = 1) := hz1
  have HZ2 : Hid (i0.bytes = 8) := hz2
  have hc1 := h.c1
  rw [hv] at hc1
  clear h hv h1 h2 h3 h4 hm hi hz0 hz1 hz2
  have hz := zWrite
  go_enter Try.func20, Try.ntmps20
  go_wp2
  go_loopg [3, 13] m (fun g0 vv i wx => ∃ (j : Nat) (u : Value), u = vv ∧ j + g0 = m ∧ i = .int .i64 j ∧ Hid (wx.ownsRow w.heap.size 3 1 u j ((bks (W.take j)).map (Value.int .i64))) ∧ Below w.heap.size w wx)
  case atStart => exact ⟨0, _, rfl, by omega, rfl, by show World.ownsRow _ _ _ _ _ _ _; simpa [bks] using World.ownsRow_nil w w.heap.size 3 1, Below.refl _ _⟩
  case round =>
    obtain ⟨j, u, rfl, hjg, rfl, HO, hbel⟩ := hrel
    have HB : Hid (Below w.heap.size w wr) := hbel
    clear hbel
    by_cases hlt : j < m
    · have hjK : j < W.length := by have := HM.out; omega
      obtain ⟨g, hAg, -, hgl, hrows⟩ := HK.out.at_ hjK
      have hr0 := range_keep (hrows j hjK) (But.of_below (l := []) HB.out) (by simp)
      rcases hp : W.getD j w0 with ⟨pk, px⟩
      rw [hp] at hr0
      have HT : Hid (bks (W.take (j + 1)) = bks (W.take j) ++ [(pk : Int)]) := by show _ = _; rw [take_snoc W j hjK, hp, bks_snoc]
      have HR : Hid (wr.rangeAt g (j * 65) (wv (pk, px))) := hr0
      subst hAg
      clear hrows hr0 hp hgl
      have hsz := HB.out.size
      obtain ⟨q, hq⟩ : ∃ q, q = wr.heap.size := ⟨_, rfl⟩
      obtain ⟨h1, -⟩ := wv_parts (new_range wr (wv (pk, px)) 71)
      have HO1 : Hid ((wr.alloc (.cells (wv (pk, px)).toArray 71)).ownsRow w.heap.size 3 1 u j ((bks (W.take j)).map (Value.int .i64))) := own_keep HO.out ((But.refl [] wr).alloc _) (by simp)
      have HB1 : Hid (Below w.heap.size w (wr.alloc (.cells (wv (pk, px)).toArray 71))) := HB.out.alloc hsz _
      have hs1 : (wr.alloc (.cells (wv (pk, px)).toArray 71)).heap.size = q + 1 := by rw [hq]; simp
      rw [← hq] at h1
      go_upto_region 7 with (first
        | (refine wpList_load_mid rfl 71 _ rfl g (j * 65) rfl (wv (pk, px)) _ HR.out Try.underlying71 rfl (iWrite _) ?_)
        | (refine wpList_store_new rfl 71 _ _ rfl (wv w0).toArray (wv (pk, px)).toArray rfl rfl (iWrite' _) (by simp [wv_len]) (wv_all _) ?_))
      rw [← hq] at hsz ⊢
      generalize wr.alloc (.cells (wv (pk, px)).toArray 71) = w1 at h1 HO1 HB1 hs1 ⊢
      have HS1 : Hid (w1.heap.size = q + 1) := hs1
      clear hq HO HB HR hs1
      go_wp2_with (first
        | (at_builtin; refine wpList_append_own _ rfl _ _ 46 rfl w.heap.size 3 i0 (.int .i64 0) 1 8 Try.underlying46 HI.out HZ0.out HZ1.out HZ2.out rfl (by decide) _ _ _ rfl (HO1.out.alloc _) ⟨w1.heap.size, 0, none⟩ 1 1 [.int .i64 pk] rfl rfl (cell_one_new _ _ _) (one_int _ _) ?c3 ?c4 ?c5 ?_))
      case c3 => unfold maxLen; omega
      case c4 => omega
      case c5 => have := HS1.out; simp; omega
      intro v2 w2 hown hgrow hnil
      have HO2 : Hid (w2.ownsRow w.heap.size 3 1 v2 (j + 1) ((bks (W.take (j + 1))).map (Value.int .i64))) := by
        show World.ownsRow _ _ _ _ _ _ _
        rw [HT.out, List.map_append]
        exact hown
      have HB2 : Hid (Below w.heap.size w w2) := (HB1.out.alloc (by have := HS1.out; omega) _).grown hgrow (by have := HS1.out; simp; omega) (fun k h => (own_lt HO1.out h).1)
      clear hown hgrow hnil
      go_wp2
      go_roundg (m - (j + 1))
      case measure => omega
      case rel => exact ⟨j + 1, _, rfl, by omega, by go_num, HO2, HB2.out⟩
    · obtain rfl : j = m := by omega
      have HE : Hid (wr.ownsRow w.heap.size 3 1 u j ((bks W).map (Value.int .i64))) := by
        show World.ownsRow _ _ _ _ _ _ _
        have := HO.out
        rwa [List.take_of_length_le (by have := HM.out; omega)] at this
      clear HO
      go_wp2
      go_ret
      exact ⟨u, rfl, HE.out, But.of_below HB.out⟩

/-- The slice that begins at A holds these bools. -/
def Bl (w : World) (A : Option Addr) (ks : List Bool) : Prop := ks = [] ∨ ∃ g off, A = some ⟨g, off, none⟩ ∧ g < w.heap.size ∧ ∀ j, j < ks.length → w.cell? ⟨g, off + j, none⟩ = some (.bool (ks.getD j false))
theorem Bl.keep {w w' : World} {A : Option Addr} {ks : List Bool} {l : List Nat} (h : Bl w A ks) (hk : But l w w') (hn : ∀ k ∈ l, w.heap.size ≤ k) : Bl w' A ks := by
  rcases h with h | ⟨g, off, e, h1, h2⟩
  · exact .inl h
  · exact .inr ⟨g, off, e, Nat.lt_of_lt_of_le h1 hk.size, fun j hj => cell_keep (h2 j hj) hk (fun hm => by have := hn g hm; omega)⟩
/-- Those writes whose places are told. -/
def kp (f : Nat → Bool) (W : List Wr) : List Wr := (W.zipIdx.filter fun q => f q.2).map (·.1)
theorem kp_nil (f : Nat → Bool) : kp f [] = [] := rfl
theorem kp_snoc (f : Nat → Bool) (W : List Wr) (p : Wr) : kp f (W ++ [p]) = kp f W ++ if f W.length then [p] else [] := by
  unfold kp
  rw [List.zipIdx_append, List.filter_append, List.map_append]
  congr 1
  cases h : f W.length <;> simp [h]
theorem kp_all (W : List Wr) : kp (fun _ => true) W = W := by
  unfold kp
  rw [List.filter_eq_self.2 (by simp)]
  simp
theorem kp_mem {f : Nat → Bool} {W : List Wr} {p : Wr} (h : p ∈ kp f W) : p ∈ W := by
  simp only [kp, List.mem_map, List.mem_filter] at h
  obtain ⟨q, ⟨hq, _⟩, rfl⟩ := h
  obtain ⟨hj, e⟩ := List.mem_zipIdx' hq
  rw [e]
  exact List.getElem_mem _
theorem kp_le (f : Nat → Bool) (W : List Wr) : (kp f W).length ≤ W.length := by
  unfold kp
  rw [List.length_map]
  exact Nat.le_trans (List.length_filter_le _ _) (by simp)
theorem kp_take (f : Nat → Bool) (W : List Wr) (j : Nat) (hj : j < W.length) : kp f (W.take (j + 1)) = kp f (W.take j) ++ if f j then [W.getD j w0] else [] := by
  rw [take_snoc W j hj, kp_snoc, List.length_take, Nat.min_eq_left (by omega)]
theorem crash_nil (A : Option Addr) (c m : Nat) (w : World) : Calls Try.prog 19 #[.pointer none, .slice A m c] w fun e w' => e = .returned (.int .i64 0) ∧ w = w' := by
  go_enter Try.func19, Try.ntmps19
  go_wp2
  go_ret
  exact ⟨rfl, rfl⟩
set_option maxHeartbeats 2000000 in
theorem crash_c (A0 : Option Addr) (c0 : Nat) (ks : List Bool) (h : DkAt tP w lo b bl cl n v L W) (hW : W.length ≤ 1000) (hks : Bl w A0 ks) (hkl : ks.length ≤ maxLen) (hlo : lo ≤ w.heap.size) :
    Calls Try.prog 19 #[.pointer (some ⟨b, 0, none⟩), .slice A0 ks.length c0] w fun e w' =>
      e = .returned (.int .i64 (kp (fun j => ks.getD j false) W).length) ∧ DkAt tP w' lo b bl cl n (.slice none 0 0) (setAll L (kp (fun j => ks.getD j false) W)) [] ∧ But [b, bl] w w' := by
  obtain ⟨A, c, hv, h1, h2, h3, h4⟩ := h.ws
  obtain ⟨m, hm⟩ : ∃ m, m = W.length := ⟨_, rfl⟩
  obtain ⟨f, hf⟩ : ∃ f : Nat → Bool, f = fun j => ks.getD j false := ⟨_, rfl⟩
  obtain ⟨mk, hmk⟩ : ∃ mk, mk = ks.length := ⟨_, rfl⟩
  rw [← hf]
  rw [← hm] at hv hW
  rw [← hmk] at hkl ⊢
  unfold maxLen at hkl
  have HF : Hid (∀ j, f j = ks.getD j false) := fun j => by rw [hf]
  have HMK : Hid (mk = ks.length) := hmk
  have HM : Hid (m = W.length) := hm
  have HK : Hid (Ws w lo A W) := h3
  have HBS : Hid (Bl w A0 ks) := hks
  have H : Hid (DkAt tP w lo b bl cl n v L W) := h
  have HLO : Hid (lo ≤ w.heap.size) := hlo
  have hc1 := h.c1
  rw [hv] at hc1
  clear h hv h1 h2 h3 h4 hm hf hmk hks hlo
  have hz := zWrite
  go_enter Try.func19, Try.ntmps19
  go_wp2
  go_loopg [5, 15] m (fun g0 vv i wx => ∃ (j : Nat) (u : Value), u = vv ∧ j + g0 = m ∧ i = .int .i64 j ∧ Hid (wx.ownsRow w.heap.size tP 65 u (kp f (W.take j)).length (cat (kp f (W.take j)))) ∧ Below w.heap.size w wx)
  case atStart => exact ⟨0, _, rfl, by omega, rfl, own_nil w w.heap.size tP, Below.refl _ _⟩
  case round =>
    obtain ⟨j, u, rfl, hjg, rfl, HO, hbel⟩ := hrel
    have HB : Hid (Below w.heap.size w wr) := hbel
    clear hbel
    by_cases hlt : j < m
    · have hjK : j < W.length := by have := HM.out; omega
      obtain ⟨g, hAg, -, hgl, hrows⟩ := HK.out.at_ hjK
      have hr0 := range_keep (hrows j hjK) (But.of_below (l := []) HB.out) (by simp)
      rcases hp : W.getD j w0 with ⟨pk, px⟩
      rw [hp] at hr0
      have HT : Hid (kp f (W.take (j + 1)) = kp f (W.take j) ++ if f j then [(pk, px)] else []) := by show _ = _; rw [kp_take f W j hjK, hp]
      have HR : Hid (wr.rangeAt g (j * 65) (wv (pk, px))) := hr0
      subst hAg
      clear hrows hr0 hp hgl
      have hsz := HB.out.size
      obtain ⟨q, hq⟩ : ∃ q, q = wr.heap.size := ⟨_, rfl⟩
      have hnr := new_range wr (wv (pk, px)) 71
      have HO1 : Hid ((wr.alloc (.cells (wv (pk, px)).toArray 71)).ownsRow w.heap.size tP 65 u (kp f (W.take j)).length (cat (kp f (W.take j)))) := own_keep HO.out ((But.refl [] wr).alloc _) (by simp)
      have HB1 : Hid (Below w.heap.size w (wr.alloc (.cells (wv (pk, px)).toArray 71))) := HB.out.alloc hsz _
      have hs1 : (wr.alloc (.cells (wv (pk, px)).toArray 71)).heap.size = q + 1 := by rw [hq]; simp
      rw [← hq] at hnr
      go_upto_region 7 with (first
        | (refine wpList_load_mid rfl 71 _ rfl g (j * 65) rfl (wv (pk, px)) _ HR.out Try.underlying71 rfl (iWrite _) ?_)
        | (refine wpList_store_new rfl 71 _ _ rfl (wv w0).toArray (wv (pk, px)).toArray rfl rfl (iWrite' _) (by simp [wv_len]) (wv_all _) ?_))
      rw [← hq] at hsz ⊢
      generalize wr.alloc (.cells (wv (pk, px)).toArray 71) = w1 at hnr HO1 HB1 hs1 ⊢
      have HS1 : Hid (w1.heap.size = q + 1) := hs1
      have HNR : Hid (w1.rangeAt q 0 (wv (pk, px))) := hnr
      clear hq HO HB HR hs1 hnr
      have HKL : Hid ((kp f (W.take j)).length ≤ 1000) := Nat.le_trans (kp_le _ _) (by rw [List.length_take]; omega)
      by_cases hjk : j < mk
      · obtain ⟨gk, ok, hA0, hgk, hcells⟩ : ∃ g off, A0 = some ⟨g, off, none⟩ ∧ g < w.heap.size ∧ ∀ j, j < ks.length → w.cell? ⟨g, off + j, none⟩ = some (.bool (ks.getD j false)) := by
          rcases HBS.out with h | h
          · have := HMK.out; rw [h] at this; simp at this; omega
          · exact h
        subst hA0
        have hck := cell_keep (hcells j (by have := HMK.out; omega)) (But.of_below (l := []) HB1.out) (by simp)
        rw [← HF.out j] at hck
        clear hcells
        have hjk' : (j : Int) < (mk : Int) := by omega
        cases hfj : f j with
        | true =>
          rw [hfj] at hck
          have HT1 : Hid (kp f (W.take (j + 1)) = kp f (W.take j) ++ [(pk, px)]) := by show _ = _; rw [HT.out, if_pos hfj]
          have HFJ : Hid (f j = true) := hfj
          clear hfj HT
          go_wp2_with (first
            | (refine wpList_load_mid rfl 71 _ rfl q 0 rfl (wv (pk, px)) _ HNR.out Try.underlying71 rfl (iWrite _) ?_)
            | (refine wpList_lit1 rfl 57 71 _ rfl (wv (pk, px)) rfl (lWrite _) ?_)
            | (at_builtin; refine push_plain _ rfl _ _ 57 rfl tP Try.underlying57 infWrite w.heap.size u (kp f (W.take j)) rfl (own_keep HO1.out ((But.refl [] w1).alloc _) (by simp)) w1.heap.size (pk, px) rfl (new_range _ _ _) HKL.out ?c5 ?_))
          case c5 => have := HS1.out; simp; omega
          intro g2 cap2 w2 hown hgrow hat
          have HO2 : Hid (w2.ownsRow w.heap.size tP 65 (.slice (some ⟨g2, 0, none⟩) ((kp f (W.take j)).length + 1) cap2) (kp f (W.take (j + 1))).length (cat (kp f (W.take (j + 1))))) := by
            show World.ownsRow _ _ _ _ _ _ _
            rw [HT1.out, show (kp f (W.take j) ++ [(pk, px)]).length = (kp f (W.take j)).length + 1 by simp]
            exact hown
          have HB2 : Hid (Below w.heap.size w w2) := (HB1.out.alloc (by have := HS1.out; omega) _).grown hgrow (by have := HS1.out; simp; omega) (fun k h => (own_lt HO1.out h).1)
          clear hown hgrow hat
          go_wp2
          go_roundg (m - (j + 1))
          case measure => omega
          case rel => exact ⟨j + 1, _, rfl, by omega, by go_num, HO2, HB2.out⟩
        | false =>
          rw [hfj] at hck
          have HT1 : Hid (kp f (W.take (j + 1)) = kp f (W.take j)) := by show _ = _; rw [HT.out, hfj]; simp
          clear hfj HT
          go_wp2
          go_roundg (m - (j + 1))
          case measure => omega
          case rel => exact ⟨j + 1, u, rfl, by omega, by go_num, by show World.ownsRow _ _ _ _ _ _ _; rw [HT1.out]; exact HO1.out, HB1.out⟩
      · have hfj : f j = false := by rw [HF.out j, List.getD_eq_getElem?_getD, List.getElem?_eq_none (by have := HMK.out; omega)]; rfl
        have HT1 : Hid (kp f (W.take (j + 1)) = kp f (W.take j)) := by show _ = _; rw [HT.out, hfj]; simp
        clear hfj HT
        have hjk' : decide ((j : Int) < (mk : Int)) = false := decide_eq_false (by omega)
        go_wp2
        go_roundg (m - (j + 1))
        case measure => omega
        case rel => exact ⟨j + 1, u, rfl, by omega, by go_num, by show World.ownsRow _ _ _ _ _ _ _; rw [HT1.out]; exact HO1.out, HB1.out⟩
    · obtain rfl : j = m := by omega
      have HE : Hid (wr.ownsRow w.heap.size tP 65 u (kp f W).length (cat (kp f W))) := by
        show World.ownsRow _ _ _ _ _ _ _
        have := HO.out
        rwa [List.take_of_length_le (by have := HM.out; omega)] at this
      obtain ⟨A1, c1, hu, h1, h2, h3, h4⟩ := Ws.of_own HE.out
      subst hu
      have hD : DkAt tP wr lo b bl cl n v L W := H.out.keep0 (But.of_below HB.out)
      have hb := H.out.lt fp_b
      have hbl := H.out.lt fp_bl
      have HC := settle_c A1 c1 (kp f W) (.slice none 0 0) [] hD (h3.imp id fun ⟨g, e, _, r⟩ => ⟨g, e, Nat.zero_le _, r⟩) (fun g e => by have := (own_lt HE.out (h4 g e)).1; omega) (fun p hp => H.out.inn p (kp_mem hp)) (Nat.le_trans (kp_le _ _) (by have := HM.out; omega)) (own_nil _ _ _) (fun g e => by cases e) (fun p hp => by cases hp)
      clear HO h1 h2 h3 h4 hD hb hbl
      obtain ⟨mm, hmm⟩ : ∃ mm, mm = (kp f W).length := ⟨_, rfl⟩
      rw [← hmm] at HE HC ⊢
      have HMM : Hid (mm = (kp f W).length) := hmm
      clear hmm
      go_wp2_with fail
      refine HC.mono ?_
      rintro e w1 ⟨rfl, h5, h6⟩
      go_wp2
      go_ret
      exact ⟨by rw [← HMM.out]; rfl, h5, (But.of_below HB.out).trans h6⟩
end
end Go.Proofs.Ytnjnplepecmfaaa.Dk
