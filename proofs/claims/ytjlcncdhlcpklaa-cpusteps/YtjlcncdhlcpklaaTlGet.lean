/-
  Layer 5 (tlb): contracts of All, Get, over the translated program.
-/
import Derived.Test.YtjlcncdhlcpklaaTlCalls
namespace Go.Proofs.Ytjlcncdhlcpklaa.Tl
open Go.ChangeShapes Go.WideShapes Go.ChangeAt Go.RowKit
set_option linter.unusedVariables false
set_option maxRecDepth 20000

/-- The slice that begins at A reads as the entries l; its block lies from lo on. -/
def Ens (w : World) (lo : Nat) (A : Option Addr) (l : List En) : Prop :=
  l = [] ∨ ∃ b off, A = some ⟨b, off, none⟩ ∧ lo ≤ b ∧ b < w.heap.size ∧ ∀ i, i < l.length → w.rangeAt b (off + i * 4) (l.getD i en0).vs
theorem Ens.keep {k : List Nat} {w w' : World} {lo : Nat} {A : Option Addr} {l : List En} (h : Ens w lo A l) (hk : But k w w') (hn : ∀ x ∈ k, x < lo) : Ens w' lo A l := by
  rcases h with h | ⟨b, off, e, h1, h2, hc⟩
  · exact .inl h
  · exact .inr ⟨b, off, e, h1, Nat.lt_of_lt_of_le h2 hk.size, fun i hi => range_keep (hc i hi) hk (fun hm => by have := hn b hm; omega)⟩
theorem Ens.lower {w : World} {lo lo' : Nat} {A : Option Addr} {l : List En} (h : Ens w lo A l) (hl : lo' ≤ lo) : Ens w lo' A l := by
  rcases h with h | ⟨b, off, e, h1, h2, hc⟩
  · exact .inl h
  · exact .inr ⟨b, off, e, by omega, h2, hc⟩
theorem Ens.at_ {w : World} {lo : Nat} {A : Option Addr} {l : List En} (h : Ens w lo A l) {i : Nat} (hi : i < l.length) :
    ∃ b off, A = some ⟨b, off, none⟩ ∧ lo ≤ b ∧ b < w.heap.size ∧ ∀ i, i < l.length → w.rangeAt b (off + i * 4) (l.getD i en0).vs := by
  rcases h with h | h
  · subst h; simp at hi
  · exact h

/-- All cells of the entries, one behind the other. -/
def alls (l : List En) (m : Nat) : List Value := (List.range (l.length * 4)).map (tf l m)
theorem alls_len (l : List En) (m : Nat) : (alls l m).length = l.length * 4 := by simp [alls]
theorem alls_get (l : List En) (m i : Nat) (hi : i < l.length * 4) : (alls l m)[i]? = some (tf l m i) := by simp [alls, hi]
theorem Try.infoEntry : (Try.prog.info? 49).map (fun i => (i.zero, i.size, i.bytes)) = some (some (.agg #[.int .i64 0, .int .i64 0, .int .i64 0, .bool false]), 4, 32) := by kernel_rfl

theorem all_c (b : Nat) (l : List En) (m : Nat) (w : World) (h : TlbAt w b l m) :
    Calls Try.prog 13 #[.pointer (some ⟨b, 0, none⟩)] w fun e w' => ∃ A, e = .returned (.slice A l.length l.length) ∧ Ens w' w.heap.size A l ∧ But [] w w' := by
  obtain ⟨n, hn⟩ : ∃ n, n = l.length := ⟨_, rfl⟩
  obtain ⟨hc, -⟩ := h.cnt
  have hm := h.most
  rw [← hn] at hc hm ⊢
  have hbl := h.lt
  have H : Hid (TlbAt w b l m) := h
  have HN : Hid (n = l.length) := hn
  obtain ⟨i0, hi, hz0, hz1, hz2⟩ := info_parts Try.infoEntry
  have hmk : ∀ w, (Instr.makeSlice 46 (.int .i64 n) (.int .i64 n)).run Try.prog w = .ok (.slice (some ⟨w.heap.size, 0, none⟩) n n) (w.alloc (.cells (madeCells #[.int .i64 0, .int .i64 0, .int .i64 0, .bool false] (n * 4)) 49)) := fun w => by
    have := run_make (P := Try.prog) w 46 49 i0 _ Try.underlying46 hi hz0 .i64 .i64 n n (by omega) (Int.le_refl _) (by rw [hz2]; omega) (by omega)
    simpa [hz1, Value.cells] using this
  clear h hn hi hz0 hz1 hz2
  go_enter Try.func13, Try.ntmps13
  have hT : Hid (∀ z : Array Value, z.size = n * 4 → (w.alloc (.cells z 49)).there w.heap.size 0 (n * 4)) := fun z hz => there_new _ _ _ _ hz
  have hsz : Hid ((madeCells #[Value.int .i64 0, .int .i64 0, .int .i64 0, .bool false] (n * 4)).size = n * 4) := by show _ = _; simp [madeCells]
  have hcopy : ∀ ty, (Builtin.copy_ #[46, 46] ty #[.slice (some ⟨w.heap.size, 0, none⟩) n n, .slice (some ⟨b, 0, none⟩) 8 8]).run Try.prog (w.alloc (.cells (madeCells #[.int .i64 0, .int .i64 0, .int .i64 0, .bool false] (n * 4)) 49)) = .ok (goInt (n : Int)) ((w.alloc (.cells (madeCells #[.int .i64 0, .int .i64 0, .int .i64 0, .bool false] (n * 4)) 49)).setCells w.heap.size 0 (alls l m)) := by
    intro ty
    refine run_copy_wide _ _ _ ty 49 w.heap.size 0 n n ⟨b, 0, none⟩ 8 8 4 n (alls l m) Try.underlying46 Try.sizeEntry (by show min _ _ = _; omega) (by rw [alls_len, HN.out]) ?_ (by rw [alls_len, ← HN.out]; exact hT.out _ hsz.out) ?_
    · intro j v hv
      have hj : j < l.length * 4 := by have := (List.getElem?_eq_some_iff.1 hv).1; rwa [alls_len] at this
      rw [alls_get l m j hj] at hv
      obtain rfl := Option.some.inj hv
      rw [Addr.add_mid, Nat.zero_add]
      have := H.out.most
      exact cell_keep (H.out.vb j (by omega)).1 ((But.refl [] w).alloc _) (by simp)
    · intro v hv
      simp only [alls, List.mem_map] at hv
      obtain ⟨i, _, rfl⟩ := hv
      exact tf_one _ _ _
  go_wp2_with (first
    | (refine wpList_copy_known _ rfl _ _ 46 46 rfl _ _ rfl rfl (hcopy _) ?_))
  go_ret
  refine ⟨_, rfl, ?_, ((But.refl [] w).alloc _).setCells (.inr (Nat.le_refl _)) _ _⟩
  refine .inr ⟨w.heap.size, 0, rfl, Nat.le_refl _, ?_, fun i hi => ?_⟩
  · exact Nat.lt_of_lt_of_le (by simp) (But.setCells (l := [w.heap.size]) (u := w.alloc (.cells (madeCells #[Value.int .i64 0, .int .i64 0, .int .i64 0, .bool false] (n * 4)) 49)) (b := w.heap.size) (.inl (by simp)) (alls l m) 0 (But.refl _ _)).size
  · have hR := World.rangeAt_setCells_same (w.alloc (.cells (madeCells #[Value.int .i64 0, .int .i64 0, .int .i64 0, .bool false] (n * 4)) 49)) w.heap.size 0 (alls l m) (by rw [alls_len, ← HN.out]; exact hT.out _ hsz.out)
    intro j v hv
    have hj : j < 4 := (List.getElem?_eq_some_iff.1 hv).1
    rw [En.vs_get _ _ hj, ← tf_at l m i j (by have := H.out.most; omega) hj] at hv
    have := hR (i * 4 + j) v (by rw [alls_get l m _ (by omega)]; exact hv)
    rwa [show 0 + i * 4 + j = 0 + (i * 4 + j) by omega]
theorem all_nil (w : World) :
    Calls Try.prog 13 #[.pointer none] w fun e w' => e = .returned (.slice none 0 0) ∧ w = w' := by
  go_enter Try.func13, Try.ntmps13
  go_wp2
  go_ret
  exact ⟨rfl, rfl⟩

/-- The entry of a page. -/
def getE (s p : Int) (l : List En) : Option En := l.find? (isE s p)
/-- The misses behind Get. -/
def misE (s p : Int) (l : List En) (m : Nat) : Nat := match getE s p l with
  | none => m + 1
  | some _ => m
theorem misE_hit {s p : Int} {l : List En} {e : En} (m : Nat) (h : getE s p l = some e) : misE s p l m = m := by simp [misE, h]
theorem misE_miss {s p : Int} {l : List En} (m : Nat) (h : getE s p l = none) : misE s p l m = m + 1 := by simp [misE, h]
/-- What Get answers. -/
def ansE : Option En → Value
  | some e => .tuple #[.agg #[.int .i64 e.s, .int .i64 e.p, .int .i64 e.f, .bool e.wr], .bool true]
  | none => .tuple #[.agg #[.int .i64 0, .int .i64 0, .int .i64 0, .bool false], .bool false]
theorem getE_hit (s p : Int) (l : List En) (k : Nat) (hk : k < l.length) (hno : ∀ e ∈ l.take k, isE s p e = false) (e : En) (he : l.getD k en0 = e) (hi : isE s p e = true) : getE s p l = some e := by
  have h1 : l = l.take k ++ e :: l.drop (k + 1) := by
    conv => lhs; rw [← List.take_append_drop k l, drop_at l k hk, he]
  have h2 : (l.take k).find? (isE s p) = none := by
    rw [List.find?_eq_none]
    intro x hx
    rw [hno x hx]
    simp
  unfold getE
  rw [h1, List.find?_append, h2, List.find?_cons_of_pos hi]
  rfl
theorem getE_miss (s p : Int) (l : List En) (hno : ∀ e ∈ l, isE s p e = false) : getE s p l = none := by
  unfold getE
  rw [List.find?_eq_none]
  intro x hx
  rw [hno x hx]
  simp
theorem no_step (s p : Int) (l : List En) (k : Nat) (hk : k < l.length) (hno : ∀ e ∈ l.take k, isE s p e = false) (e : En) (he : l.getD k en0 = e) (hi : isE s p e = false) : ∀ e ∈ l.take (k + 1), isE s p e = false := by
  intro x hx
  rw [take_snoc l k hk, List.mem_append, List.mem_singleton, he] at hx
  rcases hx with hx | hx
  · exact hno x hx
  · rw [hx]; exact hi

theorem TlbAt.miss {w : World} {b m : Nat} {l : List En} (h : TlbAt w b l m) : TlbAt (w.setCell ⟨b, 33, none⟩ (.int .i64 ((m : Int) + 1))) b l (m + 1) :=
  ⟨h.most, (h.vb.set (.int .i64 ((m : Int) + 1))).congr fun j hj => by
    show (if j = 33 then _ else tf l m j) = tf l (m + 1) j
    unfold tf
    by_cases h33 : j = 33
    · subst h33; simp
    · rw [if_neg h33]
      by_cases h1 : j < 32
      · rw [if_pos h1, if_pos h1]
      · rw [if_neg h1, if_neg h1, if_pos (by omega), if_pos (by omega)]⟩
set_option maxHeartbeats 1000000 in
theorem get_c (b : Nat) (l : List En) (m : Nat) (s p : Int) (w : World) (h : TlbAt w b l m) (hmm : m < 4611686018427387904) :
    Calls Try.prog 70 #[.pointer (some ⟨b, 0, none⟩), .int .i64 s, .int .i64 p] w fun e w' =>
      e = .returned (ansE (getE s p l)) ∧ TlbAt w' b l (misE s p l m) ∧ But [b] w w' := by
  obtain ⟨n, hn⟩ : ∃ n, n = l.length := ⟨_, rfl⟩
  have hm := h.most
  rw [← hn] at hm
  have H : Hid (TlbAt w b l m) := h
  have HN : Hid (n = l.length) := hn
  have hbl := h.lt
  clear h hn
  have hn8 : (n : Int) ≤ 8 := by omega
  obtain ⟨g, hg⟩ : ∃ g, g = w.heap.size := ⟨_, rfl⟩
  go_enter Try.func70, Try.ntmps70
  go_wp2
  have hT : Hid ((w.alloc (.cells #[.int .i64 0, .int .i64 0, .int .i64 0, .bool false] 49)).there g 0 4) := by show World.there _ _ _ _; rw [hg]; exact there_new _ _ _ _ rfl
  have hK : Hid (But [] w (w.alloc (.cells #[.int .i64 0, .int .i64 0, .int .i64 0, .bool false] 49))) := (But.refl [] w).alloc _
  have hgb : g ≠ b := by omega
  have HGS : Hid (w.heap.size ≤ g) := by show _ ≤ g; omega
  rw [← hg]
  generalize w.alloc (.cells #[.int .i64 0, .int .i64 0, .int .i64 0, .bool false] 49) = w1 at hT hK ⊢
  have hc1 : w1.cell? ⟨b, 32, none⟩ = some (.int .i64 n) := by rw [HN.out]; exact (H.out.keep hK.out (by simp)).cnt.1
  clear hg hbl
  go_quiet (fail)
  go_wp2
  have hT1 : Hid ((w1.drewN nq).there g 0 4) := fun j hj => by simpa using hT.out j hj
  have hK1 : Hid (But [] w (w1.drewN nq)) := hK.out.drewN _
  generalize w1.drewN nq = w2 at hT1 hK1 ⊢
  clear hT hK hc1
  go_loopg [22] n (fun g0 i wx => ∃ k : Nat, k + g0 = n ∧ i = .int .i64 k ∧ Hid (∀ e ∈ l.take k, isE s p e = false) ∧ wx.there g 0 4 ∧ But [] w wx)
  case atStart => exact ⟨0, by omega, rfl, by show ∀ e ∈ l.take 0, _; simp, hT1.out, hK1.out⟩
  case round =>
    obtain ⟨k, hkg, rfl, HO, ht, hk⟩ := hrel
    have HT : Hid (wr.there g 0 4) := ht
    have HK : Hid (But [] w wr) := hk
    clear ht hk hT1 hK1
    by_cases hlt : k < n
    · have hkl : k < l.length := by have := HN.out; omega
      have hrow := (H.out.keep HK.out (by simp)).row k (by omega)
      obtain ⟨e0, he0⟩ : ∃ e, e = l.getD k en0 := ⟨_, rfl⟩
      rw [← he0] at hrow
      have HE : Hid (l.getD k en0 = e0) := he0.symm
      obtain ⟨es, ep, ef, ew⟩ := e0
      have HR : Hid (wr.rangeAt b (k * 4) [.int .i64 es, .int .i64 ep, .int .i64 ef, .bool ew]) := hrow
      clear he0 hrow
      go_wp2_with (first
        | (refine wpList_load_mid rfl 49 _ rfl b (k * 4) rfl [.int .i64 es, .int .i64 ep, .int .i64 ef, .bool ew] _ HR.out Try.underlying49 rfl Try.sizeEntry ?_))
      refine (isOf_c es ep ef ew s p _).mono ?_
      rintro e w3 ⟨rfl, k3⟩
      have HR3 : Hid (w3.rangeAt wr.heap.size 0 [.int .i64 es, .int .i64 ep, .int .i64 ef, .bool ew]) := range_keep (new_range wr [.int .i64 es, .int .i64 ep, .int .i64 ef, .bool ew] _) k3 (by simp)
      have hb3 := ((But.refl [] wr).alloc (.cells #[.int .i64 es, .int .i64 ep, .int .i64 ef, .bool ew] 49)).trans k3
      have HT3 : Hid (w3.there g 0 4) := fun j hj => by
        obtain ⟨h1, h2⟩ := HT.out j hj
        have hl := lt_of_there HT.out (by omega)
        exact ⟨by rw [hb3.cell (p := ⟨g, 0 + j, none⟩) hl (by simp)]; exact h1, by rw [hb3.frozen (p := ⟨g, 0 + j, none⟩) hl (by simp)]; exact h2⟩
      have HK3 : Hid (But [] w w3) := HK.out.trans hb3
      have hq : wr.heap.size ≠ g := by have := lt_of_there HT.out (by omega); omega
      clear hb3 k3
      cases hi : isE s p ⟨es, ep, ef, ew⟩ with
      | true =>
        have HG : Hid (getE s p l = some ⟨es, ep, ef, ew⟩) := getE_hit s p l k hkl HO.out _ HE.out hi
        clear hi
        go_wp2_with (first
          | (refine wpList_load_mid rfl 49 _ rfl wr.heap.size 0 rfl [.int .i64 es, .int .i64 ep, .int .i64 ef, .bool ew] _ HR3.out Try.underlying49 rfl Try.sizeEntry ?_)
          | (refine wpList_store_mid rfl 49 _ _ rfl g 0 #[.int .i64 es, .int .i64 ep, .int .i64 ef, .bool ew] rfl rfl HT3.out Try.sizeEntry (En.vs_all ⟨es, ep, ef, ew⟩) ?_))
        refine bodyPost_ret (results_range rfl _ _ g 0 [.int .i64 es, .int .i64 ep, .int .i64 ef, .bool ew] _ rfl (World.rangeAt_setCells_same _ _ _ _ HT3.out) Try.underlying49 rfl Try.sizeEntry) rfl ?_
        exact ⟨by rw [HG.out]; rfl, by rw [misE_hit m HG.out]; exact (H.out.keep HK3.out (by simp)).keep ((But.refl [g] w3).setCells (by simp) _ _) (by simp; omega), (HK3.out.any [b]).setCells (.inr HGS.out) _ _⟩
      | false =>
        have HO1 : Hid (∀ e ∈ l.take (k + 1), isE s p e = false) := no_step s p l k hkl HO.out _ HE.out hi
        clear hi
        go_wp2
        go_roundg (n - (k + 1))
        case measure => omega
        case rel => exact ⟨k + 1, by omega, by go_num, HO1.out, HT3.out, HK3.out⟩
    · obtain rfl : k = n := by omega
      have HG : Hid (getE s p l = none) := getE_miss s p l (by have := HO.out; rwa [HN.out, List.take_length] at this)
      obtain ⟨hc5, hz5⟩ := (H.out.keep HK.out (by simp)).mis
      have HT5 : Hid ((wr.setCell ⟨b, 33, none⟩ (.int .i64 ((m : Int) + 1))).there g 0 4) := World.there_setCells HT.out b 33 [.int .i64 ((m : Int) + 1)]
      have hV := (H.out.keep HK.out (by simp)).miss
      go_wp2_with (first
        | (refine wpList_store_mid rfl 49 _ _ rfl g 0 #[.int .i64 0, .int .i64 0, .int .i64 0, .bool false] rfl rfl HT5.out Try.sizeEntry (En.vs_all en0) ?_))
      refine bodyPost_ret (results_range rfl _ _ g 0 [.int .i64 0, .int .i64 0, .int .i64 0, .bool false] _ rfl (World.rangeAt_setCells_same _ _ _ _ HT5.out) Try.underlying49 rfl Try.sizeEntry) rfl ?_
      exact ⟨by rw [HG.out]; rfl, by rw [misE_miss m HG.out]; exact hV.keep ((But.refl [g] _).setCells (by simp) _ _) (by simp; omega), ((HK.out.any [b]).setCell (by simp) _).setCells (.inr HGS.out) _ _⟩
theorem get_nil (s p : Int) (w : World) :
    Calls Try.prog 70 #[.pointer none, .int .i64 s, .int .i64 p] w fun e w' => e = .returned (.tuple #[.agg #[.int .i64 0, .int .i64 0, .int .i64 0, .bool false], .bool false]) ∧ But [] w w' := by
  go_enter Try.func70, Try.ntmps70
  go_wp2
  refine bodyPost_ret (results_range rfl _ _ w.heap.size 0 [.int .i64 0, .int .i64 0, .int .i64 0, .bool false] _ rfl (new_range w [.int .i64 0, .int .i64 0, .int .i64 0, .bool false] _) Try.underlying49 rfl Try.sizeEntry) rfl ?_
  exact ⟨rfl, (But.refl _ _).alloc _⟩
end Go.Proofs.Ytjlcncdhlcpklaa.Tl
