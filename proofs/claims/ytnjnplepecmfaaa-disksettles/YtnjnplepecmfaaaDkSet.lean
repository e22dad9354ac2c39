/-
  Layer 8 (disk): contracts of Settle and of what it asks, over the translated program; of the document's Settle.
-/
import Derived.Test.YtnjnplepecmfaaaDkRef2
import Derived.Defers
import Derived.Recover
import Derived.Deep.RegionHeld3
namespace Go.Proofs.Ytnjnplepecmfaaa.Dk
open Go.ChangeShapes Go.WideShapes Go.ChangeAt Go.RowKit
set_option linter.unusedVariables false
set_option maxRecDepth 20000

/-- Is this block's bit set? -/
def bt (a : Int) (k : Nat) : Bool := bits .and .i64 (a / 2 ^ k) 1 == 1
theorem mine_c (gb : Nat) (a : Int) (k : Nat) (hk : k < 6) (w : World) (h : w.cell? ⟨gb, 0, none⟩ = some (.int .i64 a)) :
    Calls Try.prog 23 #[.int .i64 k, .pointer (some ⟨gb, 0, none⟩)] w fun e w' => e = .returned (.bool (bt a k)) ∧ w = w' := by
  go_enter Try.func23, Try.ntmps23
  go_wp2
  go_ret
  exact ⟨rfl, rfl⟩
theorem idle_c (w : World) : CallsD Try.prog 35 #[] .returning w fun e u' w' => e = .returned (.tuple #[]) ∧ u' = .returning ∧ w' = w := by
  refine callsD_of_wpS Try.func35 rfl fun c₀ cs hu => ?_
  apply wpS_region
  simp [wpOpsS, go_sem, recoverD, hu, Try.ntmps35]
  cases c₀
  simp_all [bodyPostS, results, Try.results35]
theorem neqFn (gb : Nat) (w : World) : (binOp .neq 37 (.func (.func 23) #[] #[.pointer (some ⟨gb, 0, none⟩)]) .nilFunc).run Try.prog w = .ok (.bool true) w := by kernel_rfl
theorem tells_c (gb : Nat) (a : Int) (k : Nat) (hk : k < 6) (w : World) (h : w.cell? ⟨gb, 0, none⟩ = some (.int .i64 a)) :
    Calls Try.prog 34 #[.func (.func 23) #[] #[.pointer (some ⟨gb, 0, none⟩)], .int .i64 k] w fun e w' => e = .returned (.bool (bt a k)) ∧ w = w' := by
  have hnf := neqFn gb
  go_enter_defers Try.func34, Try.ntmps34
  go_wp2_with (go_at_call 23; refine (mine_c gb a k hk _ h).mono ?_; rintro e w1 ⟨rfl, rfl⟩)
  refine leaves_cons (f := 35) (args := #[]) (by simp) (by simp [go_sem]) ?_
  refine (idle_c _).mono ?_
  rintro e u' w'' ⟨rfl, rfl, rfl⟩
  exact ⟨_, results_tmp rfl _ _ _, rfl, rfl⟩
/-- Which blocks are meant, as cells. -/
def mv (f : Nat → Bool) : List Value := (List.range 512).map fun j => Value.bool (f j)
theorem mv_len (f : Nat → Bool) : (mv f).length = 512 := by simp [mv]
theorem mv_get (f : Nat → Bool) (j : Nat) (h : j < 512) : (mv f)[j]? = some (.bool (f j)) := by simp [mv, h]
theorem mv_one (f : Nat → Bool) : ∀ v ∈ mv f, v.oneCell' = true := by
  intro v hv
  simp only [mv, List.mem_map] at hv
  obtain ⟨i, _, rfl⟩ := hv
  rfl
theorem mv_all (f : Nat → Bool) : (mv f).toArray.all (·.oneCell') = true := all_oneCell_toArray (mv_one f)
theorem mvs (f : Nat → Bool) : (mv f).toArray.size = 512 := by simp [mv_len]
def no : Nat → Bool := fun _ => false
theorem zMeant (w : World) : Sem.run Try.prog (zeroValue 75) w = .ok (.agg (mv no).toArray) w := by kernel_rfl
theorem szMeant : (Try.prog.info? 75).map (·.size) = some 512 := by kernel_rfl
theorem iMeant (f : Nat → Bool) : (Try.prog.info? 75).map (·.size) = some (mv f).length := by rw [mv_len]; exact szMeant
theorem iMeant' (f : Nat → Bool) : (Try.prog.info? 75).map (·.size) = some (mv f).toArray.size := by rw [mvs]; exact szMeant
attribute [irreducible] mv
/-- Of the blocks of these writes those whose bit is set. -/
def mf (a : Int) (l : List Wr) (q : Nat) : Bool := l.any (fun p => p.1 == q) && bt a q
theorem mf_snoc (a : Int) (l : List Wr) (p : Wr) (q : Nat) : mf a (l ++ [p]) q = if q = p.1 then bt a p.1 else mf a l q := by
  unfold mf
  by_cases e : q = p.1
  · subst e
    simp
  · have : (p.1 == q) = false := by simpa using fun e' => e e'.symm
    simp [e, this]
theorem mf_in (a : Int) {l : List Wr} {p : Wr} (h : p ∈ l) : mf a l p.1 = bt a p.1 := by
  unfold mf
  have : l.any (fun q => q.1 == p.1) = true := List.any_eq_true.2 ⟨p, h, by simp⟩
  rw [this, Bool.true_and]
section
variable {lo b bl cl : Nat} {v : Value} {L : Nat → Dat} {W : List Wr} {w : World}
set_option maxHeartbeats 1000000 in
theorem meant_c (gb : Nat) (a : Int) (h : DkAt tP w lo b bl cl 6 v L W) (hW : W.length ≤ 1000) (hg : w.cell? ⟨gb, 0, none⟩ = some (.int .i64 a)) :
    Calls Try.prog 32 #[.pointer (some ⟨b, 0, none⟩), .func (.func 23) #[] #[.pointer (some ⟨gb, 0, none⟩)]] w fun e w' => e = .returned (.agg (mv (mf a W)).toArray) ∧ But [] w w' := by
  obtain ⟨A, c, hv, -, -, h3, -⟩ := h.ws
  obtain ⟨m, hm⟩ : ∃ m, m = W.length := ⟨_, rfl⟩
  rw [← hm] at hv hW
  have HM : Hid (m = W.length) := hm
  have HK : Hid (Ws w lo A W) := h3
  have HN : Hid (∀ p ∈ W, p.1 < 6) := h.inn
  have HGB : Hid (w.cell? ⟨gb, 0, none⟩ = some (.int .i64 a)) := hg
  have hc1 := h.c1
  rw [hv] at hc1
  have HC1 : Hid (w.cell? ⟨b, 1, none⟩ = some (.slice A m c)) := hc1
  obtain ⟨g, hgg⟩ : ∃ g, g = w.heap.size := ⟨_, rfl⟩
  have HG : Hid (g = w.heap.size) := hgg
  have hT : ((w.alloc (.cells (mv no).toArray 75)).alloc (.cells (mv no).toArray 75)).there w.heap.size 0 512 := by
    have h0 := there_new w (mv no).toArray 75 512 (mvs no)
    exact fun j hj => ⟨by rw [((But.refl [] _).alloc _).cell (p := ⟨w.heap.size, 0 + j, none⟩) (by show _ < _; simp) (by simp)]; exact (h0 j hj).1, by rw [((But.refl [] _).alloc _).frozen (p := ⟨w.heap.size, 0 + j, none⟩) (by show _ < _; simp) (by simp)]; exact (h0 j hj).2⟩
  have hV : VB ((w.alloc (.cells (mv no).toArray 75)).alloc (.cells (mv no).toArray 75)) (w.heap.size + 1) 512 (fun j => .bool (mf a [] j)) := by
    have := VB.new (w.alloc (.cells (mv no).toArray 75)) (mv no).toArray 75 512 (mvs no) (fun j => .bool (mf a [] j)) (fun j hj => by
      have := mv_get no j hj
      simpa [mf, no] using this)
    rwa [show (w.alloc (.cells (mv no).toArray 75)).heap.size = w.heap.size + 1 by simp] at this
  have hB0 : But [] w ((w.alloc (.cells (mv no).toArray 75)).alloc (.cells (mv no).toArray 75)) := ((But.refl [] w).alloc _).alloc _
  have hz := zMeant
  have hzw := zWrite
  clear h h3 hv hm hg hc1
  go_enter Try.func32, Try.ntmps32
  go_upto_region 2 with fail
  rw [← hgg] at hT hV ⊢
  generalize (w.alloc (.cells (mv no).toArray 75)).alloc (.cells (mv no).toArray 75) = w1 at hT hV hB0 ⊢
  have hc1 := cell_keep HC1.out hB0 (by simp)
  clear hgg
  go_wp2
  clear hc1
  go_loopg [13] m (fun g0 i wx => ∃ j : Nat, j + g0 = m ∧ i = .int .i64 j ∧ Hid (VB wx (g + 1) 512 (fun q => .bool (mf a (W.take j) q))) ∧ Hid (wx.there g 0 512) ∧ Hid (Below g w wx))
  case atStart => exact ⟨0, by omega, rfl, hV, hT, hB0.below (by have := HG.out; omega) (by simp)⟩
  case round =>
    obtain ⟨j, hjg, rfl, HV, HT, HB⟩ := hrel
    by_cases hlt : j < m
    · have hjK : j < W.length := by have := HM.out; omega
      obtain ⟨gw, hAg, -, hgl, hrows⟩ := HK.out.at_ hjK
      have hr0 : wr.rangeAt gw (j * 65) (wv (W.getD j w0)) := fun q u hu => (HB.out.cell (p := ⟨gw, j * 65 + q, none⟩) (by show gw < g; have := HG.out; omega)).trans (hrows j hjK q u hu)
      rcases hp : W.getD j w0 with ⟨pk, px⟩
      rw [hp] at hr0
      have hpk : pk < 6 := by have := HN.out _ (getD_mem hjK); rw [hp] at this; exact this
      have HT2 : Hid (W.take (j + 1) = W.take j ++ [(pk, px)]) := by show _ = _; rw [take_snoc W j hjK, hp]
      have HR : Hid (wr.rangeAt gw (j * 65) (wv (pk, px))) := hr0
      have hsz := HB.out.size
      have HGL : Hid (g + 1 < wr.heap.size) := HV.out.lt (by omega)
      subst hAg
      clear hrows hr0 hp hgl
      obtain ⟨q, hq⟩ : ∃ q, q = wr.heap.size := ⟨_, rfl⟩
      obtain ⟨h1, -⟩ := wv_parts (new_range wr (wv (pk, px)) 71)
      rw [← hq] at h1
      have HB1 : Hid (But [] wr (wr.alloc (.cells (wv (pk, px)).toArray 71))) := (But.refl [] wr).alloc _
      go_upto_region 5 with (first
        | (refine wpList_load_mid rfl 71 _ rfl gw (j * 65) rfl (wv (pk, px)) _ HR.out Try.underlying71 rfl (iWrite _) ?_)
        | (refine wpList_store_new rfl 71 _ _ rfl (wv w0).toArray (wv (pk, px)).toArray rfl rfl (iWrite' _) (by simp [wv_len]) (wv_all _) ?_))
      rw [← hq]
      generalize wr.alloc (.cells (wv (pk, px)).toArray 71) = w2 at h1 HB1 ⊢
      have HV2 : Hid (VB w2 (g + 1) 512 (fun q => .bool (mf a (W.take j) q))) := HV.out.keep HB1.out (by simp)
      have hgk : w2.drew.cell? ⟨gb, 0, none⟩ = some (.int .i64 a) := (HB1.out.drew.cell (p := ⟨gb, 0, none⟩) (by show gb < _; have h1 := lt_of_cell HGB.out; have h2 := HG.out; have h3 := HGL.out; simp at h1; omega) (by simp)).trans ((HB.out.cell (p := ⟨gb, 0, none⟩) (by show gb < g; have h1 := lt_of_cell HGB.out; have h2 := HG.out; simp at h1; omega)).trans HGB.out)
      have HGK : Hid (w2.drew.cell? ⟨gb, 0, none⟩ = some (.int .i64 a)) := hgk
      have hpk5 : (pk : Int) < 512 := by omega
      obtain ⟨hcv, hfv⟩ := HV2.out pk (by omega)
      have HQL : Hid (q = wr.heap.size) := hq
      clear hq hgk HR
      go_wp2
      go_region_held3 (fun w' => w'.cell? ⟨q, 0, none⟩ = some (.int .i64 pk))
        (first | assumption | exact cell_keep (l := []) h1 (But.refl [] w2).drew (by simp) | exact cell_keep (l := [g + 1]) h1 ((But.refl [g + 1] w2).drew.setCell (by simp) _) (by have := HGL.out; have := HQL.out; simp; omega) | exact cell_keep (l := [g + 1]) h1 ((But.refl [g + 1] w2).setCell (by simp) _).drew (by have := HGL.out; have := HQL.out; simp; omega))
        (first
          | (go_at_call 34; refine (tells_c gb a pk hpk _ HGK.out).mono ?_; rintro e w3 ⟨rfl, rfl⟩))
      clear hcv hfv h1
      go_wp2
      go_roundg (m - (j + 1))
      case measure => omega
      case rel =>
        refine ⟨j + 1, by omega, by go_num, ?_, ?_, ?_⟩
        · refine VB.congr ((HV2.out.set (k := pk) (.bool (bt a pk))).drew) (fun i hi => ?_)
          show (if i = pk then Value.bool (bt a pk) else Value.bool (mf a (W.take j) i)) = Value.bool (mf a (W.take (j + 1)) i)
          rw [HT2.out, mf_snoc]
          split <;> rfl
        · exact fun i hi => ⟨by
            show ((w2.setCell ⟨g + 1, pk, none⟩ (.bool (bt a pk))).cell? ⟨g, 0 + i, none⟩).isSome = true
            rw [World.cell?_setCell_other _ _ _ _ (fun e => by injection e with e; omega), HB1.out.cell (p := ⟨g, 0 + i, none⟩) (by show g < _; have := HGL.out; omega) (by simp)]
            exact (HT.out i hi).1, by
            show (w2.setCell ⟨g + 1, pk, none⟩ (.bool (bt a pk))).frozen? ⟨g, 0 + i, none⟩ = false
            rw [World.frozen?_setCell, HB1.out.frozen (p := ⟨g, 0 + i, none⟩) (by show g < _; have := HGL.out; omega) (by simp)]
            exact (HT.out i hi).2⟩
        · have e1 := HB1.out.below (B := g) (by have := HGL.out; omega) (by simp)
          exact ((HB.out.trans e1).setCell (p := ⟨g + 1, pk, none⟩) (by show g ≤ g + 1; omega) _).drew
    · obtain rfl : j = m := by omega
      have HV1 : Hid (VB wr (g + 1) 512 (fun q => .bool (mf a W q))) := by
        have := HV.out
        rwa [List.take_of_length_le (by have := HM.out; omega)] at this
      have HR : Hid (wr.rangeAt (g + 1) 0 (mv (mf a W))) := VB.range HV1.out _ (by rw [mv_len]; omega) (fun i hi => by rw [mv_len] at hi; rw [mv_get _ _ hi, Nat.zero_add])
      have HT2 : Hid (wr.there g 0 (mv (mf a W)).toArray.size) := by show World.there _ _ _ _; rw [mvs]; exact HT.out
      clear HV
      go_wp2_with (first
        | (refine wpList_load_mid rfl 75 _ rfl (g + 1) 0 rfl (mv (mf a W)) _ HR.out Try.underlying75 rfl (iMeant _) ?_)
        | (refine wpList_store_mid rfl 75 _ _ rfl g 0 (mv (mf a W)).toArray rfl rfl ?ht (iMeant' _) (mv_all _) ?_; case ht => exact HT2.out))
      refine bodyPost_ret (results_range1 rfl _ _ g 0 (mv (mf a W)) _ rfl (World.rangeAt_setCells_same _ _ _ _ (by rw [mv_len]; exact HT.out)) Try.underlying75 rfl (iMeant _)) rfl ?_
      refine ⟨rfl, ?_⟩
      have hb := HB.out
      rw [HG.out] at hb ⊢
      exact (But.of_below hb).setCells (.inr (Nat.le_refl _)) _ _
theorem Bl.far {w : World} {A : Option Addr} {ks : List Bool} (h : Bl w A ks) : ∀ g off, A = some ⟨g, off, none⟩ → ks ≠ [] → g < w.heap.size := fun g off e hn => by
  rcases h with h | ⟨g', off', e', h1, h2⟩
  · exact absurd h hn
  · rw [e] at e'
    injection e' with e'
    injection e' with e1 e2
    omega
/-- The writes of blocks whose bit is set, and all others. -/
def yes (a : Int) (W : List Wr) : List Wr := W.filter fun p => bt a p.1
def nay (a : Int) (W : List Wr) : List Wr := W.filter fun p => !bt a p.1
theorem yes_snoc (a : Int) (W : List Wr) (p : Wr) : yes a (W ++ [p]) = yes a W ++ if bt a p.1 then [p] else [] := by
  cases h : bt a p.1 <;> simp [yes, List.filter_append, h]
theorem nay_snoc (a : Int) (W : List Wr) (p : Wr) : nay a (W ++ [p]) = nay a W ++ if bt a p.1 then [] else [p] := by
  cases h : bt a p.1 <;> simp [nay, List.filter_append, h]
theorem yes_le (a : Int) (W : List Wr) : (yes a W).length ≤ W.length := List.length_filter_le _ _
theorem nay_le (a : Int) (W : List Wr) : (nay a W).length ≤ W.length := List.length_filter_le _ _
theorem yes_mem {a : Int} {W : List Wr} {p : Wr} (h : p ∈ yes a W) : p ∈ W := (List.mem_filter.1 h).1
theorem nay_mem {a : Int} {W : List Wr} {p : Wr} (h : p ∈ nay a W) : p ∈ W := (List.mem_filter.1 h).1
/-- Two rows of the call's own, apart. -/
structure Two (w w' : World) (u1 u2 : Value) (l1 l2 : List Wr) : Prop where
  o1 : w'.ownsRow w.heap.size tP 65 u1 l1.length (cat l1)
  o2 : w'.ownsRow w.heap.size tP 65 u2 l2.length (cat l2)
  ap : ∀ g, u1.ownBlock = some g → u2.ownBlock ≠ some g
theorem Two.keep {w w' w'' : World} {u1 u2 : Value} {l1 l2 : List Wr} (h : Two w w' u1 u2 l1 l2) (hk : But [] w' w'') : Two w w'' u1 u2 l1 l2 := ⟨own_keep h.o1 hk (by simp), own_keep h.o2 hk (by simp), h.ap⟩
theorem Two.push1 {w w1 w2 : World} {u1 u2 : Value} {l1 l2 : List Wr} {p : Wr} {g cap : Nat} {o : Obj} (h : Two w w1 u1 u2 l1 l2) (ho : w2.ownsRow w.heap.size tP 65 (.slice (some ⟨g, 0, none⟩) (l1.length + 1) cap) (l1.length + 1) (cat (l1 ++ [p])))
    (hg : (w1.alloc o).grownBy w2 u1.ownBlock) (ha : u1.ownBlock = some g ∨ g = w1.heap.size + 1) : Two w w2 (.slice (some ⟨g, 0, none⟩) (l1.length + 1) cap) u2 (l1 ++ [p]) l2 := by
  have hb : But u1.ownBlock.toList w1 w2 := ((But.refl _ w1).alloc _).trans (But.of_grown hg)
  refine ⟨by rw [List.length_append]; exact ho, own_keep h.o2 hb (fun k hk hm => h.ap k (by simpa using hm) hk), fun k hk hk2 => ?_⟩
  obtain rfl : g = k := by simpa [Value.ownBlock] using hk
  rcases ha with ha | ha
  · exact h.ap g ha hk2
  · have := (own_lt h.o2 hk2).2
    omega
theorem Two.push2 {w w1 w2 : World} {u1 u2 : Value} {l1 l2 : List Wr} {p : Wr} {g cap : Nat} {o : Obj} (h : Two w w1 u1 u2 l1 l2) (ho : w2.ownsRow w.heap.size tP 65 (.slice (some ⟨g, 0, none⟩) (l2.length + 1) cap) (l2.length + 1) (cat (l2 ++ [p])))
    (hg : (w1.alloc o).grownBy w2 u2.ownBlock) (ha : u2.ownBlock = some g ∨ g = w1.heap.size + 1) : Two w w2 u1 (.slice (some ⟨g, 0, none⟩) (l2.length + 1) cap) l1 (l2 ++ [p]) := by
  have hb : But u2.ownBlock.toList w1 w2 := ((But.refl _ w1).alloc _).trans (But.of_grown hg)
  refine ⟨own_keep h.o1 hb (fun k hk hm => h.ap k hk (by simpa using hm)), by rw [List.length_append]; exact ho, fun k hk hk2 => ?_⟩
  obtain rfl : g = k := by simpa [Value.ownBlock] using hk2
  rcases ha with ha | ha
  · exact h.ap g hk ha
  · have := (own_lt h.o1 hk).2
    omega
set_option maxHeartbeats 2000000 in
theorem dsettle_c (gb : Nat) (a : Int) (h : DkAt tP w lo b bl cl 6 v L W) (hW : W.length ≤ 1000) (hg : w.cell? ⟨gb, 0, none⟩ = some (.int .i64 a)) (hlo : lo ≤ w.heap.size) :
    Calls Try.prog 22 #[.pointer (some ⟨b, 0, none⟩), .func (.func 23) #[] #[.pointer (some ⟨gb, 0, none⟩)]] w fun e w' =>
      e = .returned (.int .i64 (yes a W).length) ∧ ∃ v', DkAt tP w' lo b bl cl 6 v' (setAll L (yes a W)) (nay a W) ∧ But [b, bl] w w' ∧ (∀ g, v'.ownBlock = some g → w.heap.size ≤ g) := by
  obtain ⟨A, c, hv, -, -, h3, -⟩ := h.ws
  obtain ⟨m, hm⟩ : ∃ m, m = W.length := ⟨_, rfl⟩
  have HW : Hid (W.length ≤ 1000) := hW
  rw [← hm] at hv hW
  have HM : Hid (m = W.length) := hm
  have HK : Hid (Ws w lo A W) := h3
  have H : Hid (DkAt tP w lo b bl cl 6 v L W) := h
  have HN : Hid (∀ p ∈ W, p.1 < 6) := h.inn
  have HGB : Hid (w.cell? ⟨gb, 0, none⟩ = some (.int .i64 a)) := hg
  have HLO : Hid (lo ≤ w.heap.size) := hlo
  have hc1 := h.c1
  rw [hv] at hc1
  have HC1 : Hid (w.cell? ⟨b, 1, none⟩ = some (.slice A m c)) := hc1
  have hz := zMeant
  have hzw := zWrite
  clear h h3 hv hm hg hc1 hlo
  go_enter Try.func22, Try.ntmps22
  go_wp2_with fail
  refine (meant_c gb a H.out HW.out HGB.out).mono ?_
  rintro e w1 ⟨rfl, k1⟩
  obtain ⟨gm, hgm⟩ : ∃ gm, gm = w1.heap.size := ⟨_, rfl⟩
  have hnm := new_range w1 (mv (mf a W)) 75
  have HB2 : Hid (But [] w (w1.alloc (.cells (mv (mf a W)).toArray 75))) := k1.alloc _
  rw [← hgm] at hnm
  clear k1
  go_upto_region 4 with (refine wpList_store_new rfl 75 _ _ rfl (mv no).toArray (mv (mf a W)).toArray rfl rfl (iMeant' _) (by rw [mvs, mvs]) (mv_all _) ?_)
  rw [← hgm]
  generalize w1.alloc (.cells (mv (mf a W)).toArray 75) = w2 at hnm HB2 ⊢
  have HNM : Hid (w2.rangeAt gm 0 (mv (mf a W))) := hnm
  have hc1 := cell_keep HC1.out HB2.out (by simp)
  clear hnm hgm
  go_wp2
  clear hc1
  go_loopg [6, 7, 20] m (fun g0 v1 v2 i wx => ∃ (j : Nat) (u1 u2 : Value), u1 = v1 ∧ u2 = v2 ∧ j + g0 = m ∧ i = .int .i64 j ∧ Hid (Two w2 wx u1 u2 (yes a (W.take j)) (nay a (W.take j))) ∧ Hid (Below w2.heap.size w2 wx))
  case atStart => exact ⟨0, _, _, rfl, rfl, by omega, rfl, ⟨own_nil _ _ _, own_nil _ _ _, fun g e => by cases e⟩, Below.refl _ _⟩
  case round =>
    obtain ⟨j, u1, u2, rfl, rfl, hjg, rfl, HTW, HB⟩ := hrel
    by_cases hlt : j < m
    · have hjK : j < W.length := by have := HM.out; omega
      obtain ⟨gw, hAg, -, hgl, hrows⟩ := HK.out.at_ hjK
      have hr0 := range_keep (range_keep (hrows j hjK) HB2.out (by simp)) (But.of_below (l := []) HB.out) (by simp)
      rcases hp : W.getD j w0 with ⟨pk, px⟩
      rw [hp] at hr0
      have hmem : (pk, px) ∈ W := by rw [← hp]; exact getD_mem hjK
      have hpk : pk < 6 := HN.out _ hmem
      have HT2 : Hid (W.take (j + 1) = W.take j ++ [(pk, px)]) := by show _ = _; rw [take_snoc W j hjK, hp]
      have HR : Hid (wr.rangeAt gw (j * 65) (wv (pk, px))) := hr0
      have hmk := range_keep HNM.out (But.of_below (l := []) HB.out) (by simp) pk _ (mv_get (mf a W) pk (by omega))
      rw [mf_in a hmem, Nat.zero_add] at hmk
      have hsz := HB.out.size
      subst hAg
      clear hrows hr0 hp hgl hmem
      obtain ⟨q, hq⟩ : ∃ q, q = wr.heap.size := ⟨_, rfl⟩
      have hnr := new_range wr (wv (pk, px)) 71
      have HTW1 : Hid (Two w2 (wr.alloc (.cells (wv (pk, px)).toArray 71)) u1 u2 (yes a (W.take j)) (nay a (W.take j))) := HTW.out.keep ((But.refl [] wr).alloc _)
      have HB1 : Hid (Below w2.heap.size w2 (wr.alloc (.cells (wv (pk, px)).toArray 71))) := HB.out.alloc hsz _
      have hmk1 := cell_keep (l := []) hmk ((But.refl [] wr).alloc (.cells (wv (pk, px)).toArray 71)) (by simp)
      have hs1 : (wr.alloc (.cells (wv (pk, px)).toArray 71)).heap.size = q + 1 := by rw [hq]; simp
      rw [← hq] at hnr
      go_upto_region 8 with (first
        | (refine wpList_load_mid rfl 71 _ rfl gw (j * 65) rfl (wv (pk, px)) _ HR.out Try.underlying71 rfl (iWrite _) ?_)
        | (refine wpList_store_new rfl 71 _ _ rfl (wv w0).toArray (wv (pk, px)).toArray rfl rfl (iWrite' _) (by simp [wv_len]) (wv_all _) ?_))
      rw [← hq] at hsz ⊢
      generalize wr.alloc (.cells (wv (pk, px)).toArray 71) = w3 at hnr HTW1 HB1 hmk1 hs1 ⊢
      have HS1 : Hid (w3.heap.size = q + 1) := hs1
      have HNR : Hid (w3.rangeAt q 0 (wv (pk, px))) := hnr
      have hcq := (wv_parts hnr).1
      have hpk5 : (pk : Int) < 512 := by omega
      have HSZ : Hid (w2.heap.size ≤ q) := hsz
      clear hq HTW HB HR hs1 hnr hmk hsz
      have HYL : Hid ((yes a (W.take j)).length ≤ 1000 ∧ (nay a (W.take j)).length ≤ 1000) := ⟨Nat.le_trans (yes_le _ _) (by rw [List.length_take]; omega), Nat.le_trans (nay_le _ _) (by rw [List.length_take]; omega)⟩
      cases hb : bt a pk with
      | true =>
        rw [hb] at hmk1
        have HY : Hid (yes a (W.take (j + 1)) = yes a (W.take j) ++ [(pk, px)] ∧ nay a (W.take (j + 1)) = nay a (W.take j)) := by show _ ∧ _; rw [HT2.out, yes_snoc, nay_snoc]; simp [hb]
        clear hb
        go_wp2_with (first
          | (refine wpList_load_mid rfl 71 _ rfl q 0 rfl (wv (pk, px)) _ HNR.out Try.underlying71 rfl (iWrite _) ?_)
          | (refine wpList_lit1 rfl 57 71 _ rfl (wv (pk, px)) rfl (lWrite _) ?_)
          | (at_builtin; refine push_plain _ rfl _ _ 57 rfl tP Try.underlying57 infWrite w2.heap.size u1 (yes a (W.take j)) rfl (own_keep HTW1.out.o1 ((But.refl [] w3).alloc _) (by simp)) w3.heap.size (pk, px) rfl (new_range _ _ _) HYL.out.1 ?c5 ?_))
        case c5 => have h1 := HS1.out; have h2 := HSZ.out; simp; omega
        intro g2 cap2 w4 hown hgrow hat
        have HT4 : Hid (Two w2 w4 (.slice (some ⟨g2, 0, none⟩) ((yes a (W.take j)).length + 1) cap2) u2 (yes a (W.take (j + 1))) (nay a (W.take (j + 1)))) := by
          show Two _ _ _ _ _ _
          rw [HY.out.1, HY.out.2]
          exact HTW1.out.push1 hown hgrow hat
        have HB4 : Hid (Below w2.heap.size w2 w4) := (HB1.out.alloc (by have h1 := HS1.out; have h2 := HSZ.out; omega) _).grown hgrow (by have h1 := HS1.out; have h2 := HSZ.out; simp; omega) (fun k h => (own_lt HTW1.out.o1 h).1)
        clear hown hgrow hat hmk1 hcq
        go_wp2
        go_roundg (m - (j + 1))
        case measure => omega
        case rel => exact ⟨j + 1, _, u2, rfl, rfl, by omega, by go_num, HT4, HB4⟩
      | false =>
        rw [hb] at hmk1
        have HY : Hid (yes a (W.take (j + 1)) = yes a (W.take j) ∧ nay a (W.take (j + 1)) = nay a (W.take j) ++ [(pk, px)]) := by show _ ∧ _; rw [HT2.out, yes_snoc, nay_snoc]; simp [hb]
        clear hb
        go_wp2_with (first
          | (refine wpList_load_mid rfl 71 _ rfl q 0 rfl (wv (pk, px)) _ HNR.out Try.underlying71 rfl (iWrite _) ?_)
          | (refine wpList_lit1 rfl 57 71 _ rfl (wv (pk, px)) rfl (lWrite _) ?_)
          | (at_builtin; refine push_plain _ rfl _ _ 57 rfl tP Try.underlying57 infWrite w2.heap.size u2 (nay a (W.take j)) rfl (own_keep HTW1.out.o2 ((But.refl [] w3).alloc _) (by simp)) w3.heap.size (pk, px) rfl (new_range _ _ _) HYL.out.2 ?c5 ?_))
        case c5 => have h1 := HS1.out; have h2 := HSZ.out; simp; omega
        intro g2 cap2 w4 hown hgrow hat
        have HT4 : Hid (Two w2 w4 u1 (.slice (some ⟨g2, 0, none⟩) ((nay a (W.take j)).length + 1) cap2) (yes a (W.take (j + 1))) (nay a (W.take (j + 1)))) := by
          show Two _ _ _ _ _ _
          rw [HY.out.1, HY.out.2]
          exact HTW1.out.push2 hown hgrow hat
        have HB4 : Hid (Below w2.heap.size w2 w4) := (HB1.out.alloc (by have h1 := HS1.out; have h2 := HSZ.out; omega) _).grown hgrow (by have h1 := HS1.out; have h2 := HSZ.out; simp; omega) (fun k h => (own_lt HTW1.out.o2 h).1)
        clear hown hgrow hat hmk1 hcq
        go_wp2
        go_roundg (m - (j + 1))
        case measure => omega
        case rel => exact ⟨j + 1, u1, _, rfl, rfl, by omega, by go_num, HT4, HB4⟩
    · obtain rfl : j = m := by omega
      have HE : Hid (Two w2 wr u1 u2 (yes a W) (nay a W)) := by
        have := HTW.out
        rwa [List.take_of_length_le (by have := HM.out; omega)] at this
      obtain ⟨A1, c1, hu, -, -, h3, h4⟩ := Ws.of_own HE.out.o1
      obtain ⟨A2, c2, hu2, -⟩ := Ws.of_own HE.out.o2
      subst hu
      subst hu2
      have hk : But [] w wr := HB2.out.trans (But.of_below HB.out)
      have hD : DkAt tP wr lo b bl cl 6 v L W := H.out.keep0 hk
      have hb := H.out.lt fp_b
      have hbl := H.out.lt fp_bl
      have hs2 := HB2.out.size
      have HC := settle_c A1 c1 (yes a W) _ (nay a W) hD (h3.imp id fun ⟨g, e, _, r⟩ => ⟨g, e, Nat.zero_le _, r⟩) (fun g e => by have := (own_lt HE.out.o1 (h4 g e)).1; omega) (fun p hp => HN.out p (yes_mem hp)) (Nat.le_trans (yes_le _ _) HW.out) (own_base HE.out.o2 (Nat.le_trans HLO.out hs2)) (fun g e => by have := (own_lt HE.out.o2 e).1; omega) (fun p hp => HN.out p (nay_mem hp))
      have HFP : Hid (∀ g, (Value.slice A2 (nay a W).length c2).ownBlock = some g → w.heap.size ≤ g) := fun g e => by have := (own_lt HE.out.o2 e).1; omega
      have HKK : Hid (But [] w wr) := hk
      obtain ⟨my, hmy⟩ : ∃ my, my = (yes a W).length := ⟨_, rfl⟩
      obtain ⟨mn, hmn⟩ : ∃ mn, mn = (nay a W).length := ⟨_, rfl⟩
      rw [← hmy, ← hmn] at HC
      rw [← hmn] at HFP
      rw [← hmy, ← hmn]
      have HMY : Hid (my = (yes a W).length) := hmy
      clear h3 h4 hD hb hbl hs2 hk hmy hmn HTW
      go_wp2_with fail
      refine HC.mono ?_
      rintro e w3 ⟨rfl, h5, h6⟩
      go_wp2
      go_ret
      exact ⟨by rw [← HMY.out]; rfl, _, h5, (HKK.out.wider (by simp)).trans h6, HFP.out⟩
set_option maxHeartbeats 2000000 in
theorem rsettle_c (a : Int) (h : DkAt tR w lo b bl cl 6 v L W) (hW : W.length ≤ 1000) (hlo : lo ≤ w.heap.size) :
    Calls Try.prog 24 #[.pointer (some ⟨b, 0, none⟩), .int .i64 a] w fun e w' =>
      e = .returned (.int .i64 (yes a W).length) ∧ ∃ v', DkAt tR w' lo b bl cl 6 v' (setAll L (yes a W)) (nay a W) ∧ But [b, bl] w w' ∧ (∀ g, v'.ownBlock = some g → w.heap.size ≤ g) := by
  obtain ⟨A, c, hv, -, -, h3, h4⟩ := h.ws
  obtain ⟨m, hm⟩ : ∃ m, m = W.length := ⟨_, rfl⟩
  have HM : Hid (m = W.length) := hm
  rw [← hm] at hv hW
  subst hv
  have H : Hid (DkAt tR w lo b bl cl 6 (.slice A m c) L W) := h
  have HK : Hid (Ws w lo A W) := h3
  have HVN : Hid (∀ g, A = some ⟨g, 0, none⟩ → g ≠ b ∧ g ≠ bl) := fun g e => h.vne g (h4 g e)
  have HLO : Hid (lo ≤ w.heap.size) := hlo
  have HLT : Hid (b < w.heap.size ∧ bl < w.heap.size) := ⟨h.lt fp_b, h.lt fp_bl⟩
  have hz := zRWrite
  clear h h3 h4 hm hlo
  go_enter Try.func24, Try.ntmps24
  go_wp2
  go_loopg [5, 6, 7] m (fun g0 cn uv i wx => ∃ (j : Nat) (u : Value), u = uv ∧ j + g0 = m ∧ i = .int .i64 j ∧ cn = .int .i64 ((yes a (W.take j)).length : Nat) ∧ Hid (DkAt tR wx lo b bl cl 6 (.slice A m c) (setAll L (yes a (W.take j))) W) ∧ Hid (wx.ownsRow w.heap.size tR 65 u (nay a (W.take j)).length (cat (nay a (W.take j)))) ∧ Hid (But [bl] w wx))
  case atStart => exact ⟨0, _, rfl, by omega, rfl, rfl, H, own_nil _ _ _, But.refl _ _⟩
  case round =>
    obtain ⟨j, u, rfl, hjg, rfl, rfl, HD, HO, HB⟩ := hrel
    have hc1 := HD.out.c1
    have hsz := HB.out.size
    by_cases hlt : j < m
    · have hjK : j < W.length := by have := HM.out; omega
      obtain ⟨gw, hAg, -, hgl, hrows⟩ := HK.out.at_ hjK
      have hgb := HVN.out gw hAg
      have hr0 := range_keep (hrows j hjK) HB.out (by simpa using hgb.2)
      rcases hp : W.getD j w0 with ⟨pk, px⟩
      rw [hp] at hr0
      have hpk : pk < 6 := by have := H.out.inn _ (getD_mem hjK); rw [hp] at this; exact this
      have HT2 : Hid (W.take (j + 1) = W.take j ++ [(pk, px)]) := by show _ = _; rw [take_snoc W j hjK, hp]
      have HR : Hid (wr.rangeAt gw (j * 65) (wv (pk, px))) := hr0
      have HYL : Hid ((yes a (W.take j)).length ≤ 1000 ∧ (nay a (W.take j)).length ≤ 1000) := ⟨Nat.le_trans (yes_le _ _) (by rw [List.length_take]; omega), Nat.le_trans (nay_le _ _) (by rw [List.length_take]; omega)⟩
      have hyl := HYL.out.1
      subst hAg
      have hjm' : (j : Int) < (m : Int) := by omega
      obtain ⟨cnt, hcnt⟩ : ∃ cnt, cnt = (yes a (W.take j)).length := ⟨_, rfl⟩
      rw [← hcnt] at hyl ⊢
      have HCN : Hid (cnt = (yes a (W.take j)).length) := hcnt
      clear hrows hr0 hp hgl hcnt
      obtain ⟨q, hq⟩ : ∃ q, q = wr.heap.size := ⟨_, rfl⟩
      have hnr := new_range wr (wv (pk, px)) 65
      have HK1 : Hid (But [] wr (wr.alloc (.cells (wv (pk, px)).toArray 65))) := (But.refl [] wr).alloc _
      have hs1 : (wr.alloc (.cells (wv (pk, px)).toArray 65)).heap.size = q + 1 := by rw [hq]; simp
      rw [← hq] at hnr
      go_upto_region 7 with (first
        | (refine wpList_load_mid rfl 65 _ rfl gw (j * 65) rfl (wv (pk, px)) _ HR.out Try.underlying65 rfl (iRWrite _) ?_)
        | (refine wpList_store_new rfl 65 _ _ rfl (wv w0).toArray (wv (pk, px)).toArray rfl rfl (iRWrite' _) (by simp [wv_len]) (wv_all _) ?_))
      rw [← hq] at hsz ⊢
      generalize wr.alloc (.cells (wv (pk, px)).toArray 65) = w3 at hnr HK1 hs1 ⊢
      have HS1 : Hid (w3.heap.size = q + 1) := hs1
      have HSZ : Hid (w.heap.size ≤ q) := hsz
      have HNR : Hid (w3.rangeAt q 0 (wv (pk, px))) := hnr
      obtain ⟨hcq, hrq⟩ := wv_parts hnr
      have HRQ : Hid (w3.rangeAt q (0 + 1) (dv px)) := hrq
      have HD3 : Hid (DkAt tR w3 lo b bl cl 6 (.slice (some ⟨gw, 0, none⟩) m c) (setAll L (yes a (W.take j))) W) := HD.out.keep0 HK1.out
      have HO3 : Hid (w3.ownsRow w.heap.size tR 65 u (nay a (W.take j)).length (cat (nay a (W.take j)))) := own_keep HO.out HK1.out (by simp)
      have HB3 : Hid (But [bl] w w3) := HB.out.trans (HK1.out.wider (by simp))
      have hc0 := HD3.out.c0
      have hpk' : (pk : Int) < 6 := by omega
      have hpk32 : (pk : Int) < 32 := by omega
      clear hq HD HO HB HR hs1 hnr hrq hsz hc1 HK1
      cases hb : bt a pk with
      | true =>
        have hb' : (bits .and .i64 (a / 2 ^ pk) 1 == 1) = true := hb
        have HY : Hid (yes a (W.take (j + 1)) = yes a (W.take j) ++ [(pk, px)] ∧ nay a (W.take (j + 1)) = nay a (W.take j)) := by show _ ∧ _; rw [HT2.out, yes_snoc, nay_snoc]; simp [hb]
        clear hb
        go_upto_region 8 with fail
        refine wp_region_still_tail 9 (by kernel_rfl) (by kernel_rfl) ?_
        simp only [List.take_succ_cons, List.take_zero, List.drop_succ_cons, List.drop_zero]
        repeat (first | (refine wpStill_load_mid rfl 33 _ rfl q 1 rfl (dv px) _ HRQ.out Try.underlying33 rfl (iArr _) ?_) | still_step)
        refine wpStill_nil ?_
        change wpList _ _ _ _ _ w3.drew
        have HD4 : Hid (DkAt tR w3.drew lo b bl cl 6 (.slice (some ⟨gw, 0, none⟩) m c) (setAll L (yes a (W.take j))) W) := HD3.out.keep0 (But.refl [] w3).drew
        have HTH : Hid (w3.drew.there bl (pk * 64) (dv px).toArray.size) := by show World.there _ _ _ _; rw [dvs]; exact HD4.out.there hpk
        go_wp2_with (refine wpList_store_mid rfl 33 _ _ rfl bl (pk * 64) (dv px).toArray rfl rfl ?ht (iArr' _) (dv_all _) ?_; case ht => exact HTH.out)
        go_roundg (m - (j + 1))
        case measure => omega
        case rel =>
          refine ⟨j + 1, u, rfl, by omega, by go_num, ?_, ?_, ?_, HB3.out.drew.setCells (.inl (by simp)) _ _⟩
          · rw [HY.out.1, List.length_append, ← HCN.out]
            go_num
          · show DkAt _ _ _ _ _ _ _ _ _ _
            rw [HY.out.1, setAll_snoc]
            exact HD4.out.put hpk px
          · show World.ownsRow _ _ _ _ _ _ _
            rw [HY.out.2]
            exact own_keep (own_keep HO3.out (But.refl [] w3).drew (by simp)) ((But.refl [bl] _).setCells (by simp) _ _) (fun g e hm => by have h1 := (own_lt HO3.out e).1; have h2 := HLT.out.2; simp at hm; omega)
      | false =>
        have hb' : (bits .and .i64 (a / 2 ^ pk) 1 == 1) = false := hb
        have HY : Hid (yes a (W.take (j + 1)) = yes a (W.take j) ∧ nay a (W.take (j + 1)) = nay a (W.take j) ++ [(pk, px)]) := by show _ ∧ _; rw [HT2.out, yes_snoc, nay_snoc]; simp [hb]
        clear hb
        go_wp2_with (first
          | (refine wpList_load_mid rfl 65 _ rfl q 0 rfl (wv (pk, px)) _ HNR.out Try.underlying65 rfl (iRWrite _) ?_)
          | (refine wpList_lit1 rfl 61 65 _ rfl (wv (pk, px)) rfl (lRWrite _) ?_)
          | (at_builtin; refine push_plain _ rfl _ _ 61 rfl tR Try.underlying61 infRWrite w.heap.size u (nay a (W.take j)) rfl (own_keep HO3.out ((But.refl [] w3).alloc _) (by simp)) w3.heap.size (pk, px) rfl (new_range _ _ _) HYL.out.2 ?c5 ?_))
        case c5 => have h1 := HS1.out; have h2 := HSZ.out; simp; omega
        intro g2 cap2 w4 hown hgrow hat
        have hgr : But u.ownBlock.toList w3 w4 := ((But.refl _ w3).alloc _).trans (But.of_grown hgrow)
        have HO4 : Hid (w4.ownsRow w.heap.size tR 65 (.slice (some ⟨g2, 0, none⟩) ((nay a (W.take j)).length + 1) cap2) (nay a (W.take (j + 1))).length (cat (nay a (W.take (j + 1))))) := by
          show World.ownsRow _ _ _ _ _ _ _
          rw [HY.out.2, List.length_append]
          exact hown
        have HD4 : Hid (DkAt tR w4 lo b bl cl 6 (.slice (some ⟨gw, 0, none⟩) m c) (setAll L (yes a (W.take (j + 1)))) W) := by
          show DkAt _ _ _ _ _ _ _ _ _ _
          rw [HY.out.1]
          exact HD3.out.keep hgr (fun i hi hm => by have h1 := (own_lt HO3.out (g := i) (by simpa using hm)).1; have h2 := H.out.lt hi; omega)
        have HB4 : Hid (But [bl] w w4) := ((HB3.out.wider (l' := bl :: u.ownBlock.toList) (by simp)).trans (hgr.wider (fun k hm => List.mem_cons_of_mem _ hm))).strike (fun k hm hk => by
          rcases List.mem_cons.1 hm with rfl | hm
          · simp
          · have := (own_lt HO3.out (g := k) (by simpa using hm)).1
            omega)
        clear hown hgrow hat hgr
        go_wp2
        go_roundg (m - (j + 1))
        case measure => omega
        case rel => exact ⟨j + 1, _, rfl, by omega, by go_num, by rw [HY.out.1, ← HCN.out], HD4, HO4, HB4⟩
    · obtain rfl : j = m := by omega
      have HE : Hid (W.take j = W) := List.take_of_length_le (by have := HM.out; omega)
      have ho := HO.out
      have hd := HD.out
      rw [HE.out] at ho hd
      have HO1 : Hid (wr.ownsRow w.heap.size tR 65 u (nay a W).length (cat (nay a W))) := ho
      have HD1 : Hid (DkAt tR wr lo b bl cl 6 (.slice A j c) (setAll L (yes a W)) W) := hd
      rw [HE.out]
      obtain ⟨A2, c2, hu2, -⟩ := Ws.of_own ho
      obtain ⟨my, hmy⟩ : ∃ my, my = (yes a W).length := ⟨_, rfl⟩
      obtain ⟨mn, hmn⟩ : ∃ mn, mn = (nay a W).length := ⟨_, rfl⟩
      rw [← hmn] at hu2
      subst hu2
      rw [← hmy]
      have HMY : Hid (my = (yes a W).length) := hmy
      have hf1 := HD1.out.f1
      clear ho hd HO HD hmy hmn
      go_wp2
      go_ret
      refine ⟨by rw [← HMY.out]; rfl, _, HD1.out.turn (own_base HO1.out HLO.out) (fun g e => by have h1 := (own_lt HO1.out e).1; have h2 := HLT.out; omega) (fun p hp => H.out.inn p (nay_mem hp)), (HB.out.wider (by simp)).setCell (.inl (by simp)) _, fun g e => (own_lt HO1.out e).1⟩
end
end Go.Proofs.Ytnjnplepecmfaaa.Dk
