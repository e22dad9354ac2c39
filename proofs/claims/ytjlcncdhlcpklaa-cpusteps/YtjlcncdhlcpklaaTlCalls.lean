/-
  Layer 5 (tlb): contracts of Put, All, Get, over the translated program.
-/
import Derived.Test.YtjlcncdhlcpklaaTlDrop
namespace Go.Proofs.Ytjlcncdhlcpklaa.Tl
open Go.ChangeShapes Go.WideShapes Go.ChangeAt Go.RowKit
set_option linter.unusedVariables false
set_option maxRecDepth 20000

/-- The entries behind Put, but for the new one. -/
def roomL (r : List En) : List En := if r.length = 8 then r.eraseIdx 0 else r
def putL (l : List En) (e : En) : List En := roomL (stay (isE e.s e.p) l) ++ [e]
theorem room_len (r : List En) (h : r.length ≤ 8) : (roomL r).length < 8 := by
  unfold roomL
  split
  · rw [List.length_eraseIdx]; split <;> omega
  · omega
theorem pushed_eq (l : List En) (m : Nat) (e : En) (n : Nat) (hn : n = l.length) (hl : l.length < 8) (c : Int) (hc : c = (l.length : Int) + 1) (j : Nat) (hj : j < 34) :
    (if j = 32 then Value.int .i64 c else if n * 4 ≤ j ∧ j < n * 4 + e.vs.length then e.vs.getD (j - n * 4) undef else tf l m j) = tf (l ++ [e]) m j := by
  have hv : e.vs.length = 4 := rfl
  rw [hv]
  by_cases h32 : j < 32
  · rw [if_neg (by omega)]
    have e1 : tf l m j = (l.getD (j / 4) en0).cell (j % 4) := by unfold tf; rw [if_pos h32]
    have e2 : tf (l ++ [e]) m j = ((l ++ [e]).getD (j / 4) en0).cell (j % 4) := by unfold tf; rw [if_pos h32]
    rw [e1, e2]
    by_cases h1 : n * 4 ≤ j ∧ j < n * 4 + 4
    · rw [if_pos h1, En.vs_getD _ _ (by omega), show j - n * 4 = j % 4 by omega]
      have : (l ++ [e]).getD (j / 4) en0 = e := by
        rw [List.getD_eq_getElem?_getD, show j / 4 = l.length by omega]
        simp
      rw [this]
    · rw [if_neg h1]
      have : (l ++ [e]).getD (j / 4) en0 = l.getD (j / 4) en0 := by
        rcases Nat.lt_or_ge (j / 4) l.length with h2 | h2
        · rw [List.getD_eq_getElem?_getD, List.getElem?_append_left h2, List.getD_eq_getElem?_getD]
        · rw [getD_past l _ h2, getD_past (l ++ [e]) _ (by simp; omega)]
      rw [this]
  · by_cases h4 : j = 32
    · subst h4
      rw [if_pos rfl]
      unfold tf
      rw [if_neg (by omega), if_pos rfl, hc]
      congr 1
      simp
    · rw [if_neg h4, if_neg (by omega)]
      unfold tf
      rw [if_neg h32, if_neg h4, if_neg h32, if_neg h4]

/-- The end of Put: e goes behind the others. -/
theorem push_at {w w1 : World} {b m : Nat} {l : List En} {e : En} {n : Nat} (h : TlbAt w1 b l m) (hl : l.length < 8) (hn : n = l.length) :
    TlbAt ((w1.setCells b (n * 4) e.vs).setCell ⟨b, 32, none⟩ (.int .i64 ((n : Int) + 1))) b (l ++ [e]) m :=
  ⟨by simp; omega, ((h.vb.sets e.vs (by show n * 4 + 4 ≤ 34; omega)).set (.int .i64 ((n : Int) + 1))).congr fun j hj => pushed_eq l m e n hn hl _ (by rw [hn]) j hj⟩

set_option maxHeartbeats 1000000 in
theorem put_c (b : Nat) (l : List En) (m : Nat) (es ep ef : Int) (ew : Bool) (w : World) (h : TlbAt w b l m) :
    Calls Try.prog 19 #[.pointer (some ⟨b, 0, none⟩), .agg #[.int .i64 es, .int .i64 ep, .int .i64 ef, .bool ew]] w fun e w' =>
      e = .returned (.tuple #[]) ∧ TlbAt w' b (putL l ⟨es, ep, ef, ew⟩) m ∧ But [b] w w' := by
  have hbl := h.lt
  have H : Hid (TlbAt w b l m) := h
  clear h
  obtain ⟨g, hg⟩ : ∃ g, g = w.heap.size := ⟨_, rfl⟩
  go_enter Try.func19, Try.ntmps19
  go_wp2_with fail
  refine (dropPage_c b l m es ep _ (H.out.keep ((But.refl [] w).alloc _) (by simp))).mono ?_
  rintro e w1 ⟨rfl, h1, k1⟩
  have HR1 : Hid (w1.rangeAt g 0 [.int .i64 es, .int .i64 ep, .int .i64 ef, .bool ew]) := by
    show World.rangeAt _ _ _ _
    rw [hg]
    exact range_keep (new_range w [.int .i64 es, .int .i64 ep, .int .i64 ef, .bool ew] _) k1 (by simp; omega)
  have H1 : Hid (TlbAt w1 b (stay (isE es ep) l) m) := h1
  have K1 : Hid (But [b] w w1) := (((But.refl [] w).alloc _).any [b]).trans k1
  have hgb : g ≠ b := by omega
  rw [← hg]
  clear h1 k1 hg hbl
  obtain ⟨hc1, -⟩ := H1.out.cnt
  obtain ⟨n, hn⟩ : ∃ n, n = (stay (isE es ep) l).length := ⟨_, rfl⟩
  rw [← hn] at hc1
  have hn8 : n ≤ 8 := by rw [hn]; exact H1.out.most
  have HN : Hid (n = (stay (isE es ep) l).length) := hn
  clear hn
  by_cases h8 : n = 8
  · subst h8
    go_wp2_with fail
    refine (take_c b _ m 0 _ H1.out (by rw [← HN.out]; omega)).mono ?_
    rintro e w2 ⟨rfl, h2, k2⟩
    obtain ⟨r, hr⟩ : ∃ r, r = (stay (isE es ep) l).eraseIdx 0 := ⟨_, rfl⟩
    rw [← hr] at h2
    have H2 : Hid (TlbAt w2 b r m) := h2
    have K2 : Hid (But [b] w w2) := K1.out.trans k2
    have HR2 : Hid (w2.rangeAt g 0 [.int .i64 es, .int .i64 ep, .int .i64 ef, .bool ew]) := range_keep HR1.out k2 (by simp; exact hgb)
    have HX : Hid (putL l ⟨es, ep, ef, ew⟩ = r ++ [⟨es, ep, ef, ew⟩]) := by show _ = _; unfold putL roomL; rw [if_pos HN.out.symm, hr]
    obtain ⟨q, hq⟩ : ∃ q, q = r.length := ⟨_, rfl⟩
    have HQ : Hid (q = r.length) := hq
    have hq8 : q < 8 := by rw [hq, hr, List.length_eraseIdx, if_pos (by rw [← HN.out]; omega), ← HN.out]; omega
    clear h2 k2 hr hq hc1 H1 K1 HR1 HN H
    have hc2 : w2.drew.cell? ⟨b, 32, none⟩ = some (.int .i64 q) := by rw [HQ.out]; exact (H2.out.drew.cnt).1
    have hq8' : (q : Int) < 8 := by omega
    go_wp2
    refine wp_region_still_tail 9 (by kernel_rfl) (by kernel_rfl) ?_
    simp only [List.take_succ_cons, List.take_zero, List.drop_succ_cons, List.drop_zero]
    change wpStill _ _ w2.drew _ _ _
    repeat (first | (refine wpStill_load_mid rfl 49 _ rfl g 0 rfl [.int .i64 es, .int .i64 ep, .int .i64 ef, .bool ew] _ ((World.rangeAt_drew _ _ _ _).2 HR2.out) Try.underlying49 rfl Try.sizeEntry ?_) | still_step)
    refine wpStill_nil ?_
    change wpList _ _ _ _ _ w2.drew
    refine wpList_store_mid rfl 49 _ _ rfl b (q * 4) (En.vs ⟨es, ep, ef, ew⟩).toArray rfl rfl (H2.out.drew.there q hq8) Try.sizeEntry (En.vs_all _) ?_
    have hV : Hid (VB (w2.drew.setCells b (q * 4) (En.vs ⟨es, ep, ef, ew⟩)) b 34 (fun j => if q * 4 ≤ j ∧ j < q * 4 + (En.vs ⟨es, ep, ef, ew⟩).length then (En.vs ⟨es, ep, ef, ew⟩).getD (j - q * 4) undef else tf r m j)) := H2.out.drew.vb.sets _ (by show q * 4 + 4 ≤ 34; omega)
    have hE : Hid (TlbAt ((w2.drew.setCells b (q * 4) (En.vs ⟨es, ep, ef, ew⟩)).setCell ⟨b, 32, none⟩ (.int .i64 ((q : Int) + 1))) b (r ++ [⟨es, ep, ef, ew⟩]) m) := push_at (w := w2) H2.out.drew (by rw [← HQ.out]; exact hq8) HQ.out
    have hK : Hid (But [b] w ((w2.drew.setCells b (q * 4) (En.vs ⟨es, ep, ef, ew⟩)).setCell ⟨b, 32, none⟩ (.int .i64 ((q : Int) + 1)))) := (K2.out.drew.setCells (by simp) _ _).setCell (by simp) _
    have hz3 := (hV.out 32 (by omega)).2
    have hc3 : (w2.drew.setCells b (q * 4) (En.vs ⟨es, ep, ef, ew⟩)).cell? ⟨b, 32, none⟩ = some (.int .i64 q) := by
      have e : (if q * 4 ≤ 32 ∧ 32 < q * 4 + (En.vs ⟨es, ep, ef, ew⟩).length then (En.vs ⟨es, ep, ef, ew⟩).getD (32 - q * 4) undef else tf r m 32) = Value.int .i64 q := by
        rw [if_neg (by show ¬ (q * 4 ≤ 32 ∧ 32 < q * 4 + 4); omega), HQ.out]
        rfl
      exact (hV.out 32 (by omega)).1.trans (congrArg some e)
    clear hV
    change wpList _ _ _ _ _ (w2.drew.setCells b (q * 4) (En.vs ⟨es, ep, ef, ew⟩))
    generalize w2.drew.setCells b (q * 4) (En.vs ⟨es, ep, ef, ew⟩) = w3 at hE hK hz3 hc3 ⊢
    go_wp2
    go_end0
    exact ⟨rfl, by rw [HX.out]; exact hE.out, hK.out⟩
  · obtain ⟨r, hr⟩ : ∃ r, r = stay (isE es ep) l := ⟨_, rfl⟩
    have H2 : Hid (TlbAt w1 b r m) := by show TlbAt _ _ _ _; rw [hr]; exact H1.out
    have HX : Hid (putL l ⟨es, ep, ef, ew⟩ = r ++ [⟨es, ep, ef, ew⟩]) := by show _ = _; unfold putL roomL; rw [if_neg (by rw [← HN.out]; exact h8), hr]
    have HQ : Hid (n = r.length) := by show n = r.length; rw [hr]; exact HN.out
    have hq8 : n < 8 := by omega
    have hn8' : ¬ (n : Int) = 8 := by omega
    clear hr HN H H1 h8 hn8
    have hc4 : w1.drew.cell? ⟨b, 32, none⟩ = some (.int .i64 n) := by rw [HQ.out]; exact (H2.out.drew.cnt).1
    have hq8' : (n : Int) < 8 := by omega
    go_wp2
    refine wp_region_still_tail 9 (by kernel_rfl) (by kernel_rfl) ?_
    simp only [List.take_succ_cons, List.take_zero, List.drop_succ_cons, List.drop_zero]
    change wpStill _ _ w1.drew _ _ _
    repeat (first | (refine wpStill_load_mid rfl 49 _ rfl g 0 rfl [.int .i64 es, .int .i64 ep, .int .i64 ef, .bool ew] _ ((World.rangeAt_drew _ _ _ _).2 HR1.out) Try.underlying49 rfl Try.sizeEntry ?_) | still_step)
    refine wpStill_nil ?_
    change wpList _ _ _ _ _ w1.drew
    refine wpList_store_mid rfl 49 _ _ rfl b (n * 4) (En.vs ⟨es, ep, ef, ew⟩).toArray rfl rfl (H2.out.drew.there n hq8) Try.sizeEntry (En.vs_all _) ?_
    have hV : Hid (VB (w1.drew.setCells b (n * 4) (En.vs ⟨es, ep, ef, ew⟩)) b 34 (fun j => if n * 4 ≤ j ∧ j < n * 4 + (En.vs ⟨es, ep, ef, ew⟩).length then (En.vs ⟨es, ep, ef, ew⟩).getD (j - n * 4) undef else tf r m j)) := H2.out.drew.vb.sets _ (by show n * 4 + 4 ≤ 34; omega)
    have hE : Hid (TlbAt ((w1.drew.setCells b (n * 4) (En.vs ⟨es, ep, ef, ew⟩)).setCell ⟨b, 32, none⟩ (.int .i64 ((n : Int) + 1))) b (r ++ [⟨es, ep, ef, ew⟩]) m) := push_at (w := w1) H2.out.drew (by rw [← HQ.out]; exact hq8) HQ.out
    have hK : Hid (But [b] w ((w1.drew.setCells b (n * 4) (En.vs ⟨es, ep, ef, ew⟩)).setCell ⟨b, 32, none⟩ (.int .i64 ((n : Int) + 1)))) := (K1.out.drew.setCells (by simp) _ _).setCell (by simp) _
    have hz3 := (hV.out 32 (by omega)).2
    have hc3 : (w1.drew.setCells b (n * 4) (En.vs ⟨es, ep, ef, ew⟩)).cell? ⟨b, 32, none⟩ = some (.int .i64 n) := by
      have e : (if n * 4 ≤ 32 ∧ 32 < n * 4 + (En.vs ⟨es, ep, ef, ew⟩).length then (En.vs ⟨es, ep, ef, ew⟩).getD (32 - n * 4) undef else tf r m 32) = Value.int .i64 n := by
        rw [if_neg (by show ¬ (n * 4 ≤ 32 ∧ 32 < n * 4 + 4); omega), HQ.out]
        rfl
      exact (hV.out 32 (by omega)).1.trans (congrArg some e)
    clear hV
    change wpList _ _ _ _ _ (w1.drew.setCells b (n * 4) (En.vs ⟨es, ep, ef, ew⟩))
    generalize w1.drew.setCells b (n * 4) (En.vs ⟨es, ep, ef, ew⟩) = w3 at hE hK hz3 hc3 ⊢
    go_wp2
    go_end0
    exact ⟨rfl, by rw [HX.out]; exact hE.out, hK.out⟩
theorem put_nil (es ep ef : Int) (ew : Bool) (w : World) :
    Calls Try.prog 19 #[.pointer none, .agg #[.int .i64 es, .int .i64 ep, .int .i64 ef, .bool ew]] w fun e w' => e = .returned (.tuple #[]) ∧ But [] w w' := by
  go_enter Try.func19, Try.ntmps19
  go_wp2
  first | go_end0 | (refine bodyPost_ret (results_none rfl _ _ _) rfl ?_)
  exact ⟨rfl, (But.refl _ _).alloc _⟩
end Go.Proofs.Ytjlcncdhlcpklaa.Tl
