/-
  Layer 5 (tlb): contracts of the document's own Put and Get, over the translated program.
-/
import Derived.Test.YtjlcncdhlcpklaaTlRef
namespace Go.Proofs.Ytjlcncdhlcpklaa.Tl
open Go.ChangeShapes Go.WideShapes Go.ChangeAt Go.RowKit
set_option linter.unusedVariables false
set_option maxRecDepth 20000

set_option maxHeartbeats 2000000 in
theorem rput_c (A : Option Addr) (c : Nat) (l : List En) (es ep ef : Int) (ew : Bool) (w : World) (h : Ens w 0 A l) (hl : l.length ≤ 8) :
    Calls Try.prog 20 #[.slice A l.length c, .agg #[.int .i64 es, .int .i64 ep, .int .i64 ef, .bool ew]] w fun e w' =>
      ∃ A' c', e = .returned (.slice A' (putL l ⟨es, ep, ef, ew⟩).length c') ∧ Ens w' w.heap.size A' (putL l ⟨es, ep, ef, ew⟩) ∧ But [] w w' := by
  obtain ⟨i0, hi, hz0, hz1, hz2⟩ := info_parts Try.infoREntry
  have HI : Hid (Try.prog.info? 55 = some i0) := hi
  have HZ0 : Hid (i0.zero = some (.agg #[.int .i64 0, .int .i64 0, .int .i64 0, .bool false])) := hz0
  have HZ1 : Hid (i0.size = 4) := hz1
  have HZ2 : Hid (i0.bytes = 32) := hz2
  have H : Hid (Ens w 0 A l) := h
  clear h hi hz0 hz1 hz2
  go_enter Try.func20, Try.ntmps20
  go_wp2_with fail
  refine (rwP_c A c l es ep _ (H.out.keep ((But.refl [] w).alloc _) (by simp)) (by omega)).mono ?_
  rintro e w1 ⟨A1, c1, rfl, hc1, hnil, hens, k1⟩
  obtain ⟨g, hg⟩ : ∃ g, g = w.heap.size := ⟨_, rfl⟩
  have HR1 : Hid (w1.rangeAt g 0 [.int .i64 es, .int .i64 ep, .int .i64 ef, .bool ew]) := by
    show World.rangeAt _ _ _ _
    rw [hg]
    exact range_keep (new_range w [.int .i64 es, .int .i64 ep, .int .i64 ef, .bool ew] _) k1 (by simp)
  have K1 : Hid (But [] w w1) := ((But.refl [] w).alloc _).trans k1
  have hsz1 := K1.out.size
  have hens' := hens.lower (lo' := w.heap.size) (by simp)
  obtain ⟨r, hr⟩ : ∃ r, r = stay (isE es ep) l := ⟨_, rfl⟩
  rw [← hr] at hc1 hnil hens'
  obtain ⟨q, hq⟩ : ∃ q, q = r.length := ⟨_, rfl⟩
  have hq8 : q ≤ 8 := by have := stay_len (isE es ep) l; rw [hq, hr]; omega
  rw [← hr, ← hq, ← hg]
  rw [← hq] at hc1
  have HP : Hid (putL l ⟨es, ep, ef, ew⟩ = roomL r ++ [⟨es, ep, ef, ew⟩]) := by show _ = _; rw [hr]; rfl
  have HENS : Hid (Ens w1 w.heap.size A1 r) := hens'
  have HQ : Hid (q = r.length) := hq
  have HNIL : Hid (r = [] → A1 = none ∧ c1 = 0) := hnil
  have hgs : g < w1.heap.size := by have := lt_of_cell (range_cells HR1.out 0 _ rfl); exact this
  have HG : Hid (g = w.heap.size) := hg
  clear k1 hens hens' hnil hr hq hg
  by_cases h8 : q = 8
  · subst h8
    obtain ⟨b, off, hA, hlo, hbl, hrows⟩ := HENS.out.at_ (i := 0) (by rw [← HQ.out]; omega)
    have HX : Hid (putL l ⟨es, ep, ef, ew⟩ = r.eraseIdx 0 ++ [⟨es, ep, ef, ew⟩]) := by show _ = _; rw [HP.out, roomL, if_pos HQ.out.symm]
    obtain ⟨r2, hr2⟩ : ∃ r2, r2 = r.eraseIdx 0 := ⟨_, rfl⟩
    have hlen : Hid (7 = r2.length) := by show 7 = _; rw [hr2, List.length_eraseIdx, if_pos (by rw [← HQ.out]; omega), ← HQ.out]
    rw [← hr2] at HX
    have hrows2 : Hid (∀ i, i < r2.length → w1.rangeAt b (off + 4 + i * 4) (r2.getD i en0).vs) := by
      show ∀ i, _ → _
      intro i hi'
      rw [hr2, erase_getD, if_neg (by omega)]
      have := hrows (i + 1) (by rw [← HQ.out]; rw [← hlen.out] at hi'; omega)
      rwa [show off + (i + 1) * 4 = off + 4 + i * 4 by omega] at this
    have hc81 : ¬ c1 = 1 := by omega
    subst hA
    clear hrows hr2
    have hnews := Ens.news (lo := 0) hrows2.out
    go_wp2_with (first
      | (at_builtin; refine wpList_append_own _ rfl _ _ 23 rfl w.heap.size 55 i0 (.agg #[.int .i64 0, .int .i64 0, .int .i64 0, .bool false]) 4 32 Try.underlying23 HI.out HZ0.out HZ1.out HZ2.out rfl (by decide) _ 0 [] rfl (World.ownsRow_nil _ _ _ _) ⟨b, off + 4, none⟩ 7 _ (catVs r2) rfl ?a1 hnews (catVs_one _) ?a3 ?a4 ?a5 ?_))
    case a1 => rw [catVs_len, ← hlen.out]
    case a3 => unfold maxLen; omega
    case a4 => omega
    case a5 => exact hsz1
    intro v2 w2 hown1' hgrow1 hnil1
    have hown1 : Hid (w2.ownsRow w.heap.size 55 4 v2 7 (catVs r2)) := by
      show World.ownsRow _ _ _ _ _ _ _
      exact hown1'
    have K2 : Hid (But [] w w2) := K1.out.grown hgrow1 (fun k hk => by simp [Value.ownBlock] at hk)
    have HR2 : Hid (w2.rangeAt g 0 [.int .i64 es, .int .i64 ep, .int .i64 ef, .bool ew]) := range_keep HR1.out ((But.refl [] w1).grown hgrow1 (fun k hk => by simp [Value.ownBlock] at hk)) (by simp)
    clear hnews hown1' hgrow1 hnil1 K1 HR1 hrows2
    have hsz2 := K2.out.size
    have HO2 : Hid ((w2.alloc (.cells #[.int .i64 es, .int .i64 ep, .int .i64 ef, .bool ew] 55)).ownsRow w.heap.size 55 4 v2 7 (catVs r2)) := hown1.out.alloc _
    go_wp2_with (first
      | (refine wpList_load_mid rfl 55 _ rfl g 0 rfl [.int .i64 es, .int .i64 ep, .int .i64 ef, .bool ew] _ HR2.out Try.underlying55 rfl Try.sizeREntry ?_)
      | (at_builtin; refine wpList_append_own _ rfl _ _ 23 rfl w.heap.size 55 i0 (.agg #[.int .i64 0, .int .i64 0, .int .i64 0, .bool false]) 4 32 Try.underlying23 HI.out HZ0.out HZ1.out HZ2.out rfl (by decide) _ _ _ rfl HO2.out ⟨w2.heap.size, 0, none⟩ 1 1 [.int .i64 es, .int .i64 ep, .int .i64 ef, .bool ew] rfl rfl (four_new w2 [.int .i64 es, .int .i64 ep, .int .i64 ef, .bool ew] 55) (four_one _ _ _ _) ?b3 ?b4 ?b5 ?_))
    case b3 => unfold maxLen; omega
    case b4 => omega
    case b5 => simp; omega
    intro v3 w3 hown3' hgrow3 hnil3
    have hown3 : Hid (w3.ownsRow w.heap.size 55 4 v3 (7 + 1) (catVs (putL l ⟨es, ep, ef, ew⟩))) := by
      show World.ownsRow _ _ _ _ _ _ _
      rw [HX.out, catVs_snoc]
      exact hown3'
    have K3 : Hid (But [] w w3) := (K2.out.alloc _).grown hgrow3 (fun k hk => .inr (hown1.out.lt k hk).1)
    obtain ⟨A', c', hv, hn', -, -, hens⟩ := Ens.of_own hown3.out
    have HE3 : Hid (Ens w3 w.heap.size A' (putL l ⟨es, ep, ef, ew⟩)) := hens
    have HN3 : Hid (7 + 1 = (putL l ⟨es, ep, ef, ew⟩).length) := hn'
    rw [hv]
    clear hown3' hgrow3 hnil3 hens hv hown3 hn'
    go_wp2
    go_ret
    exact ⟨A', c', by rw [← HN3.out]; rfl, HE3.out, K3.out⟩
  · by_cases h0 : q = 0
    · subst h0
      have hr0 : r = [] := List.eq_nil_of_length_eq_zero HQ.out.symm
      obtain ⟨rfl, rfl⟩ := HNIL.out hr0
      subst hr0
      have HX : Hid (putL l ⟨es, ep, ef, ew⟩ = [] ++ [⟨es, ep, ef, ew⟩]) := by show _ = _; rw [HP.out]; rfl
      have hown1 : Hid (w1.ownsRow w.heap.size 55 4 (.slice none 0 0) 0 (catVs [])) := World.ownsRow_nil _ _ _ _
      clear HNIL
      have hsz2 := K1.out.size
      have HO2 : Hid ((w1.alloc (.cells #[.int .i64 es, .int .i64 ep, .int .i64 ef, .bool ew] 55)).ownsRow w.heap.size 55 4 (.slice none 0 0) 0 (catVs [])) := hown1.out.alloc _
      go_wp2_with (first
        | (refine wpList_load_mid rfl 55 _ rfl g 0 rfl [.int .i64 es, .int .i64 ep, .int .i64 ef, .bool ew] _ HR1.out Try.underlying55 rfl Try.sizeREntry ?_)
        | (at_builtin; refine wpList_append_own_none rfl _ _ 23 rfl w.heap.size 55 i0 4 Try.underlying23 HI.out _ 0 (catVs []) rfl hown1.out rfl ?_)
        | (at_builtin; refine wpList_append_own _ rfl _ _ 23 rfl w.heap.size 55 i0 (.agg #[.int .i64 0, .int .i64 0, .int .i64 0, .bool false]) 4 32 Try.underlying23 HI.out HZ0.out HZ1.out HZ2.out rfl (by decide) _ _ _ rfl HO2.out ⟨w1.heap.size, 0, none⟩ 1 1 [.int .i64 es, .int .i64 ep, .int .i64 ef, .bool ew] rfl rfl (four_new w1 [.int .i64 es, .int .i64 ep, .int .i64 ef, .bool ew] 55) (four_one _ _ _ _) ?b3 ?b4 ?b5 ?_))
      case b3 => unfold maxLen; omega
      case b4 => omega
      case b5 => simp; omega
      intro v3 w3 hown3' hgrow3 hnil3
      have hown3 : Hid (w3.ownsRow w.heap.size 55 4 v3 (0 + 1) (catVs (putL l ⟨es, ep, ef, ew⟩))) := by
        show World.ownsRow _ _ _ _ _ _ _
        rw [HX.out, catVs_snoc]
        exact hown3'
      have K3 : Hid (But [] w w3) := (K1.out.alloc _).grown hgrow3 (fun k hk => .inr (hown1.out.lt k hk).1)
      obtain ⟨A', c', hv, hn', -, -, hens⟩ := Ens.of_own hown3.out
      have HE3 : Hid (Ens w3 w.heap.size A' (putL l ⟨es, ep, ef, ew⟩)) := hens
      have HN3 : Hid (0 + 1 = (putL l ⟨es, ep, ef, ew⟩).length) := hn'
      rw [hv]
      clear hown3' hgrow3 hnil3 hens hv hown3 hn'
      go_wp2
      go_ret
      exact ⟨A', c', by rw [← HN3.out]; rfl, HE3.out, K3.out⟩
    · obtain ⟨b, off, hA, hlo, hbl, hrows⟩ := HENS.out.at_ (i := 0) (by rw [← HQ.out]; omega)
      have HX : Hid (putL l ⟨es, ep, ef, ew⟩ = r ++ [⟨es, ep, ef, ew⟩]) := by show _ = _; rw [HP.out, roomL, if_neg (by rw [← HQ.out]; exact h8)]
      have hrows2 : Hid (∀ i, i < r.length → w1.rangeAt b (off + i * 4) (r.getD i en0).vs) := hrows
      have h8' : ¬ (q : Int) = 8 := by omega
      subst hA
      clear hrows h8
      have hnews := Ens.news (lo := 0) hrows2.out
      go_wp2_with (first
        | (at_builtin; refine wpList_append_own _ rfl _ _ 23 rfl w.heap.size 55 i0 (.agg #[.int .i64 0, .int .i64 0, .int .i64 0, .bool false]) 4 32 Try.underlying23 HI.out HZ0.out HZ1.out HZ2.out rfl (by decide) _ 0 [] rfl (World.ownsRow_nil _ _ _ _) ⟨b, off, none⟩ q _ (catVs r) rfl ?a1 hnews (catVs_one _) ?a3 ?a4 ?a5 ?_))
      case a1 => rw [catVs_len, ← HQ.out]
      case a3 => unfold maxLen; omega
      case a4 => omega
      case a5 => exact hsz1
      intro v2 w2 hown1' hgrow1 hnil1
      have hown1 : Hid (w2.ownsRow w.heap.size 55 4 v2 q (catVs r)) := by
        show World.ownsRow _ _ _ _ _ _ _
        exact hown1'
      have K2 : Hid (But [] w w2) := K1.out.grown hgrow1 (fun k hk => by simp [Value.ownBlock] at hk)
      have HR2 : Hid (w2.rangeAt g 0 [.int .i64 es, .int .i64 ep, .int .i64 ef, .bool ew]) := range_keep HR1.out ((But.refl [] w1).grown hgrow1 (fun k hk => by simp [Value.ownBlock] at hk)) (by simp)
      clear hnews hown1' hgrow1 hnil1 K1 HR1 hrows2
      have hsz2 := K2.out.size
      have HO2 : Hid ((w2.alloc (.cells #[.int .i64 es, .int .i64 ep, .int .i64 ef, .bool ew] 55)).ownsRow w.heap.size 55 4 v2 q (catVs r)) := hown1.out.alloc _
      go_wp2_with (first
        | (refine wpList_load_mid rfl 55 _ rfl g 0 rfl [.int .i64 es, .int .i64 ep, .int .i64 ef, .bool ew] _ HR2.out Try.underlying55 rfl Try.sizeREntry ?_)
        | (at_builtin; refine wpList_append_own _ rfl _ _ 23 rfl w.heap.size 55 i0 (.agg #[.int .i64 0, .int .i64 0, .int .i64 0, .bool false]) 4 32 Try.underlying23 HI.out HZ0.out HZ1.out HZ2.out rfl (by decide) _ _ _ rfl HO2.out ⟨w2.heap.size, 0, none⟩ 1 1 [.int .i64 es, .int .i64 ep, .int .i64 ef, .bool ew] rfl rfl (four_new w2 [.int .i64 es, .int .i64 ep, .int .i64 ef, .bool ew] 55) (four_one _ _ _ _) ?b3 ?b4 ?b5 ?_))
      case b3 => unfold maxLen; omega
      case b4 => omega
      case b5 => simp; omega
      intro v3 w3 hown3' hgrow3 hnil3
      have hown3 : Hid (w3.ownsRow w.heap.size 55 4 v3 (q + 1) (catVs (putL l ⟨es, ep, ef, ew⟩))) := by
        show World.ownsRow _ _ _ _ _ _ _
        rw [HX.out, catVs_snoc]
        exact hown3'
      have K3 : Hid (But [] w w3) := (K2.out.alloc _).grown hgrow3 (fun k hk => .inr (hown1.out.lt k hk).1)
      obtain ⟨A', c', hv, hn', -, -, hens⟩ := Ens.of_own hown3.out
      have HE3 : Hid (Ens w3 w.heap.size A' (putL l ⟨es, ep, ef, ew⟩)) := hens
      have HN3 : Hid (q + 1 = (putL l ⟨es, ep, ef, ew⟩).length) := hn'
      rw [hv]
      clear hown3' hgrow3 hnil3 hens hv hown3 hn'
      go_wp2
      go_ret
      exact ⟨A', c', by rw [← HN3.out]; rfl, HE3.out, K3.out⟩

set_option maxHeartbeats 1000000 in
theorem rget_c (A : Option Addr) (c : Nat) (l : List En) (s p : Int) (w : World) (h : Ens w 0 A l) (hl : l.length ≤ 1000) :
    Calls Try.prog 49 #[.slice A l.length c, .int .i64 s, .int .i64 p] w fun e w' => e = .returned (ansE (getE s p l)) ∧ But [] w w' := by
  obtain ⟨n, hn⟩ : ∃ n, n = l.length := ⟨_, rfl⟩
  rw [← hn] at hl ⊢
  have H : Hid (Ens w 0 A l) := h
  have HN : Hid (n = l.length) := hn
  clear h hn
  obtain ⟨g, hg⟩ : ∃ g, g = w.heap.size := ⟨_, rfl⟩
  go_enter Try.func49, Try.ntmps49
  go_wp2
  have hT : Hid ((w.alloc (.cells #[.int .i64 0, .int .i64 0, .int .i64 0, .bool false] 55)).there g 0 4) := by show World.there _ _ _ _; rw [hg]; exact there_new _ _ _ _ rfl
  have hK : Hid (But [] w (w.alloc (.cells #[.int .i64 0, .int .i64 0, .int .i64 0, .bool false] 55))) := (But.refl [] w).alloc _
  have HGS : Hid (w.heap.size ≤ g) := by show _ ≤ g; omega
  rw [← hg]
  generalize w.alloc (.cells #[.int .i64 0, .int .i64 0, .int .i64 0, .bool false] 55) = w1 at hT hK ⊢
  clear hg
  go_loopg [8] n (fun g0 i wx => ∃ k : Nat, k + g0 = n ∧ i = .int .i64 k ∧ Hid (∀ e ∈ l.take k, isE s p e = false) ∧ wx = w1)
  case atStart => exact ⟨0, by omega, rfl, by show ∀ e ∈ l.take 0, _; simp, rfl⟩
  case round =>
    obtain ⟨k, hkg, rfl, HO, rfl⟩ := hrel
    by_cases hlt : k < n
    · have hkl : k < l.length := by have := HN.out; omega
      obtain ⟨b, off, hA, _, hbl, hrows⟩ := H.out.at_ hkl
      have hrow := range_keep (hrows k hkl) hK.out (by simp)
      obtain ⟨e0, he0⟩ : ∃ e, e = l.getD k en0 := ⟨_, rfl⟩
      rw [← he0] at hrow
      have HE : Hid (l.getD k en0 = e0) := he0.symm
      obtain ⟨es, ep, ef, ew⟩ := e0
      have HR : Hid (wr.rangeAt b (off + k * 4) [.int .i64 es, .int .i64 ep, .int .i64 ef, .bool ew]) := hrow
      have hc0 : wr.cell? ⟨b, off + k * 4, none⟩ = some (.int .i64 es) := HR.out 0 _ rfl
      have hc1 : wr.cell? ⟨b, off + k * 4 + 1, none⟩ = some (.int .i64 ep) := HR.out 1 _ rfl
      subst hA
      clear he0 hrow hrows
      by_cases hx : es = s
      · replace hx := hx.symm
        subst hx
        by_cases hy : ep = p
        · replace hy := hy.symm
          subst hy
          have HG : Hid (getE s p l = some ⟨s, p, ef, ew⟩) := getE_hit s p l k hkl HO.out _ HE.out (by simp [isE])
          go_wp2_with (first
            | (refine wpList_load_mid rfl 55 _ rfl b (off + k * 4) rfl [.int .i64 s, .int .i64 p, .int .i64 ef, .bool ew] _ HR.out Try.underlying55 rfl Try.sizeREntry ?_)
            | (refine wpList_store_mid rfl 55 _ _ rfl g 0 #[.int .i64 s, .int .i64 p, .int .i64 ef, .bool ew] rfl rfl hT.out Try.sizeREntry (En.vs_all ⟨s, p, ef, ew⟩) ?_))
          refine bodyPost_ret (results_range rfl _ _ g 0 [.int .i64 s, .int .i64 p, .int .i64 ef, .bool ew] _ rfl (World.rangeAt_setCells_same _ _ _ _ hT.out) Try.underlying55 rfl Try.sizeREntry) rfl ?_
          exact ⟨by rw [HG.out]; rfl, hK.out.setCells (.inr HGS.out) _ _⟩
        · have HO1 : Hid (∀ e ∈ l.take (k + 1), isE s p e = false) := no_step s p l k hkl HO.out _ HE.out (by simp [isE, hy])
          go_wp2
          go_roundg (n - (k + 1))
          case measure => omega
          case rel => exact ⟨k + 1, by omega, by go_num, HO1.out, rfl⟩
      · have HO1 : Hid (∀ e ∈ l.take (k + 1), isE s p e = false) := no_step s p l k hkl HO.out _ HE.out (by simp [isE, hx])
        go_wp2
        go_roundg (n - (k + 1))
        case measure => omega
        case rel => exact ⟨k + 1, by omega, by go_num, HO1.out, rfl⟩
    · obtain rfl : k = n := by omega
      have HG : Hid (getE s p l = none) := getE_miss s p l (by have := HO.out; rwa [HN.out, List.take_length] at this)
      go_wp2_with (first
        | (refine wpList_store_mid rfl 55 _ _ rfl g 0 #[.int .i64 0, .int .i64 0, .int .i64 0, .bool false] rfl rfl hT.out Try.sizeREntry (En.vs_all en0) ?_))
      refine bodyPost_ret (results_range rfl _ _ g 0 [.int .i64 0, .int .i64 0, .int .i64 0, .bool false] _ rfl (World.rangeAt_setCells_same _ _ _ _ hT.out) Try.underlying55 rfl Try.sizeREntry) rfl ?_
      exact ⟨by rw [HG.out]; rfl, hK.out.setCells (.inr HGS.out) _ _⟩
end Go.Proofs.Ytjlcncdhlcpklaa.Tl
