/-
  Layer 5 (tlb): contracts of the document's own answers (Without, Put, Get), over the translated program.
-/
import Derived.Test.YtjlcncdhlcpklaaTlGet
import Derived.Laws.AppendOwnNone
namespace Go.Proofs.Ytjlcncdhlcpklaa.Tl
open Go.ChangeShapes Go.WideShapes Go.ChangeAt Go.RowKit
set_option linter.unusedVariables false
set_option maxRecDepth 20000

/-- The entries' cells, one behind the other. -/
def catVs (l : List En) : List Value := l.flatMap En.vs
theorem catVs_len (l : List En) : (catVs l).length = l.length * 4 := by
  induction l with
  | nil => rfl
  | cons e l ih =>
    have : (catVs (e :: l)).length = 4 + (catVs l).length := by simp [catVs, En.vs]; omega
    rw [this, ih, List.length_cons]; omega
theorem catVs_get : ∀ (l : List En) (i j : Nat), i < l.length → j < 4 → (catVs l)[i * 4 + j]? = (l.getD i en0).vs[j]?
  | e :: l, 0, j, _, hj => by
    show (e.vs ++ catVs l)[0 * 4 + j]? = e.vs[j]?
    rw [Nat.zero_mul, Nat.zero_add, List.getElem?_append_left hj]
  | e :: l, i + 1, j, hi, hj => by
    show (e.vs ++ catVs l)[(i + 1) * 4 + j]? = (l.getD i en0).vs[j]?
    rw [List.getElem?_append_right (by show 4 ≤ _; omega), show (i + 1) * 4 + j - e.vs.length = i * 4 + j by show (i + 1) * 4 + j - 4 = _; omega]
    exact catVs_get l i j (by simpa using hi) hj
theorem catVs_snoc (l : List En) (e : En) : catVs (l ++ [e]) = catVs l ++ [.int .i64 e.s, .int .i64 e.p, .int .i64 e.f, .bool e.wr] := by simp [catVs, En.vs]
theorem catVs_one (l : List En) : ∀ v ∈ catVs l, v.oneCell' = true := by
  intro v hv
  simp only [catVs, List.mem_flatMap] at hv
  obtain ⟨e, _, he⟩ := hv
  simp only [En.vs, List.mem_cons, List.not_mem_nil, or_false] at he
  rcases he with rfl | rfl | rfl | rfl <;> rfl
theorem Ens.of_own {w : World} {base n : Nat} {e : TypeId} {v : Value} {l : List En} (h : w.ownsRow base e 4 v n (catVs l)) :
    ∃ A c, v = .slice A n c ∧ n = l.length ∧ n ≤ c ∧ c ≤ maxLen ∧ Ens w base A l := by
  obtain ⟨hl, h | ⟨g, cap, cur, rfl, hg, hh, hnc, hcm, hsz, htk⟩⟩ := h
  · obtain ⟨rfl, rfl⟩ := h
    have : l = [] := by
      rw [catVs_len] at hl
      exact List.eq_nil_of_length_eq_zero (by omega)
    exact ⟨none, 0, rfl, by simp [this], Nat.le_refl _, Nat.zero_le _, .inl this⟩
  · have hn : n = l.length := by rw [catVs_len] at hl; omega
    refine ⟨_, cap, rfl, hn, hnc, hcm, .inr ⟨g, 0, rfl, hg, ?_, fun i hi j v hv => ?_⟩⟩
    · rcases Nat.lt_or_ge g w.heap.size with hlt | hge
      · exact hlt
      · rw [Array.getElem?_eq_none hge] at hh; cases hh
    · have hj : j < 4 := (List.getElem?_eq_some_iff.1 hv).1
      have hv2 := catVs_get l i j hi hj
      rw [hv, ← htk, List.getElem?_take] at hv2
      split at hv2
      · simp only [World.cell?, hh]
        rw [show 0 + i * 4 + j = i * 4 + j by omega]
        simpa using hv2
      · cases hv2
theorem Ens.news {w : World} {lo b off : Nat} {l : List En} (h : ∀ i, i < l.length → w.rangeAt b (off + i * 4) (l.getD i en0).vs) : ∀ j u, (catVs l)[j]? = some u → w.cell? ((⟨b, off, none⟩ : Addr).add j) = some u := by
  intro j u hu
  have hj : j < l.length * 4 := by have := (List.getElem?_eq_some_iff.1 hu).1; rwa [catVs_len] at this
  have h1 := catVs_get l (j / 4) (j % 4) (by omega) (by omega)
  rw [show j / 4 * 4 + j % 4 = j by omega, hu] at h1
  rw [Addr.add_mid]
  have := h (j / 4) (by omega) (j % 4) u h1.symm
  rwa [show off + j / 4 * 4 + j % 4 = off + j by omega] at this
theorem Try.infoREntry : (Try.prog.info? 55).map (fun i => (i.zero, i.size, i.bytes)) = some (some (.agg #[.int .i64 0, .int .i64 0, .int .i64 0, .bool false]), 4, 32) := by kernel_rfl
theorem Try.sizeREntry : (Try.prog.info? 55).map (·.size) = some 4 := by kernel_rfl
theorem four_one (a b c : Int) (d : Bool) : ∀ u ∈ [Value.int .i64 a, .int .i64 b, .int .i64 c, .bool d], u.oneCell' = true := by
  intro v hv
  simp only [List.mem_cons, List.not_mem_nil, or_false] at hv
  rcases hv with rfl | rfl | rfl | rfl <;> rfl
theorem four_new (w : World) (cs : List Value) (t : TypeId) : ∀ j u, cs[j]? = some u → (w.alloc (.cells cs.toArray t)).cell? ((⟨w.heap.size, 0, none⟩ : Addr).add j) = some u := by
  intro j u hu
  rw [Addr.add_mid]
  exact new_range w cs t j u hu
theorem stay_loses (g : En → Bool) (l : List En) (k : Nat) (hk : k < l.length) (e : En) (he : l.getD k en0 = e) (hg : g e = true) : stay g (l.take (k + 1)) = stay g (l.take k) := by
  rw [take_snoc l k hk, he]
  simp [stay, List.filter_append, hg]
theorem stay_keeps (g : En → Bool) (l : List En) (k : Nat) (hk : k < l.length) (e : En) (he : l.getD k en0 = e) (hg : g e = false) : stay g (l.take (k + 1)) = stay g (l.take k) ++ [e] := by
  rw [take_snoc l k hk, he]
  simp [stay, List.filter_append, hg]

set_option maxHeartbeats 2000000 in
theorem rwF_c (A : Option Addr) (c : Nat) (l : List En) (a p : Int) (w : World) (h : Ens w 0 A l) (hl : l.length ≤ 1000) :
    Calls Try.prog 37 #[.slice A l.length c, .int .i64 0, .int .i64 a, .int .i64 p] w fun e w' =>
      ∃ A' c', e = .returned (.slice A' (stay (ofF a) l).length c') ∧ (stay (ofF a) l).length ≤ c' ∧ (stay (ofF a) l = [] → A' = none ∧ c' = 0) ∧ Ens w' w.heap.size A' (stay (ofF a) l) ∧ But [] w w' := by
  obtain ⟨n, hn⟩ : ∃ n, n = l.length := ⟨_, rfl⟩
  rw [← hn] at hl ⊢
  have H : Hid (Ens w 0 A l) := h
  have HN : Hid (n = l.length) := hn
  obtain ⟨i0, hi, hz0, hz1, hz2⟩ := info_parts Try.infoREntry
  have HI : Hid (Try.prog.info? 55 = some i0) := hi
  have HZ0 : Hid (i0.zero = some (.agg #[.int .i64 0, .int .i64 0, .int .i64 0, .bool false])) := hz0
  have HZ1 : Hid (i0.size = 4) := hz1
  have HZ2 : Hid (i0.bytes = 32) := hz2
  clear h hn hi hz0 hz1 hz2
  go_enter Try.func37, Try.ntmps37
  go_wp2
  go_loopg [9, 10] n (fun g0 vv i wx => ∃ (k r : Nat) (v : Value), v = vv ∧ k + g0 = n ∧ i = .int .i64 k ∧ Hid (r = (stay (ofF a) (l.take k)).length) ∧ Hid (wx.ownsRow w.heap.size 55 4 v r (catVs (stay (ofF a) (l.take k)))) ∧ Hid (r = 0 → v = .slice none 0 0) ∧ r ≤ k ∧ Below w.heap.size w wx)
  case atStart => exact ⟨0, 0, _, rfl, by omega, rfl, by show 0 = _; simp [stay], by show World.ownsRow _ _ _ _ _ _ _; simpa [stay, catVs] using World.ownsRow_nil w w.heap.size 55 4, by show 0 = 0 → _; intro _; rfl, Nat.le_refl _, Below.refl _ _⟩
  case round =>
    obtain ⟨k, r, v, rfl, hkg, rfl, HRL, HOW, HV0, hrk, hbel⟩ := hrel
    have HBL : Hid (Below w.heap.size w wr) := hbel
    have hsz := hbel.size
    clear hbel
    by_cases hlt : k < n
    · have hkl : k < l.length := by have := HN.out; omega
      obtain ⟨b, off, hA, _, hbl, hrows⟩ := (H.out).at_ hkl
      have hrow := range_keep (hrows k hkl) (But.of_below (l := []) HBL.out) (by simp)
      obtain ⟨e0, he0⟩ : ∃ e, e = l.getD k en0 := ⟨_, rfl⟩
      rw [← he0] at hrow
      have HE : Hid (l.getD k en0 = e0) := he0.symm
      obtain ⟨es, ep, ef, ew⟩ := e0
      have HR : Hid (wr.rangeAt b (off + k * 4) [.int .i64 es, .int .i64 ep, .int .i64 ef, .bool ew]) := hrow
      subst hA
      clear he0 hrow hrows
      by_cases hx : ef = a
      · replace hx := hx.symm
        subst hx
        have HG : Hid (stay (ofF a) (l.take (k + 1)) = stay (ofF a) (l.take k)) := stay_loses _ l k hkl _ HE.out (by simp [ofF])
        go_wp2_with (first
          | (refine wpList_load_mid rfl 55 _ rfl b (off + k * 4) rfl [.int .i64 es, .int .i64 ep, .int .i64 a, .bool ew] _ HR.out Try.underlying55 rfl Try.sizeREntry ?_))
        go_roundg (n - (k + 1))
        case measure => omega
        case rel => exact ⟨k + 1, r, _, rfl, by omega, by go_num, by show r = _; rw [HG.out]; exact HRL.out, by show World.ownsRow _ _ _ _ _ _ _; rw [HG.out]; exact HOW.out.alloc _, HV0, by omega, HBL.out.alloc hsz _⟩
      ·
        have HG : Hid (stay (ofF a) (l.take (k + 1)) = stay (ofF a) (l.take k) ++ [⟨es, ep, ef, ew⟩]) := stay_keeps _ l k hkl _ HE.out (by simp [ofF, hx])
        have HO2 : Hid (((wr.alloc (.cells #[.int .i64 es, .int .i64 ep, .int .i64 ef, .bool ew] 55)).alloc (.cells #[.int .i64 es, .int .i64 ep, .int .i64 ef, .bool ew] 55)).ownsRow w.heap.size 55 4 v r (catVs (stay (ofF a) (l.take k)))) := (HOW.out.alloc _).alloc _
        go_wp2_with (first
          | (refine wpList_load_mid rfl 55 _ rfl b (off + k * 4) rfl [.int .i64 es, .int .i64 ep, .int .i64 ef, .bool ew] _ HR.out Try.underlying55 rfl Try.sizeREntry ?_)
          | (at_builtin; refine wpList_append_own _ rfl _ _ 23 rfl w.heap.size 55 i0 (.agg #[.int .i64 0, .int .i64 0, .int .i64 0, .bool false]) 4 32 Try.underlying23 HI.out HZ0.out HZ1.out HZ2.out rfl (by decide) _ _ _ rfl HO2.out ⟨wr.heap.size + 1, 0, none⟩ 1 1 [.int .i64 es, .int .i64 ep, .int .i64 ef, .bool ew] rfl rfl ?c1 (four_one _ _ _ _) ?c3 ?c4 ?c5 ?_))
        case c1 => simpa using four_new (wr.alloc (.cells #[.int .i64 es, .int .i64 ep, .int .i64 ef, .bool ew] 55)) [.int .i64 es, .int .i64 ep, .int .i64 ef, .bool ew] 55
        case c3 => unfold maxLen; omega
        case c4 => omega
        case c5 => simp; omega
        intro v' w2 hown3 hgrow hnil
        have HOW2 : Hid (w2.ownsRow w.heap.size 55 4 v' (r + 1) (catVs (stay (ofF a) (l.take (k + 1))))) := by
          show World.ownsRow _ _ _ _ _ _ _
          rw [HG.out, catVs_snoc]
          exact hown3
        have HRL2 : Hid (r + 1 = (stay (ofF a) (l.take (k + 1))).length) := by show r + 1 = _; rw [HG.out, List.length_append, ← HRL.out]; rfl
        have B2 : Hid (Below w.heap.size w w2) := ((HBL.out.alloc hsz _).alloc (by simp; omega) _).grown hgrow (by simp; omega) (fun k h => (HOW.out.lt k h).1)
        clear hown3 hgrow hnil
        go_wp2
        go_roundg (n - (k + 1))
        case measure => omega
        case rel => exact ⟨k + 1, r + 1, _, rfl, by omega, by go_num, HRL2.out, HOW2.out, by show r + 1 = 0 → _; omega, by omega, B2.out⟩
    · obtain rfl : k = n := by omega
      have HEND : Hid (wr.ownsRow w.heap.size 55 4 v r (catVs (stay (ofF a) l))) := by
        show World.ownsRow _ _ _ _ _ _ _
        have := HOW.out
        rwa [HN.out, List.take_length] at this
      have HRE : Hid (r = (stay (ofF a) l).length) := by
        show r = _
        have := HRL.out
        rwa [HN.out, List.take_length] at this
      obtain ⟨A', c', hv, -, hc', -, hens⟩ := Ens.of_own HEND.out
      have HX : Hid (Ens wr w.heap.size A' (stay (ofF a) l)) := hens
      have HV1 : Hid (r = 0 → Value.slice A' r c' = .slice none 0 0) := by show r = 0 → _; rw [← hv]; exact HV0.out
      rw [hv]
      clear hens hv HOW HEND HV0 HRL
      go_wp2
      go_ret
      exact ⟨A', c', by rw [← HRE.out]; rfl, by rw [← HRE.out]; exact hc', fun h0 => (by
        have := HV1.out (by rw [HRE.out, h0]; rfl)
        injection this with h1 h2 h3
        exact ⟨h1, h3⟩), HX.out, But.of_below HBL.out⟩

set_option maxHeartbeats 2000000 in
theorem rwS_c (A : Option Addr) (c : Nat) (l : List En) (a p : Int) (w : World) (h : Ens w 0 A l) (hl : l.length ≤ 1000) :
    Calls Try.prog 37 #[.slice A l.length c, .int .i64 1, .int .i64 a, .int .i64 p] w fun e w' =>
      ∃ A' c', e = .returned (.slice A' (stay (ofS a) l).length c') ∧ (stay (ofS a) l).length ≤ c' ∧ (stay (ofS a) l = [] → A' = none ∧ c' = 0) ∧ Ens w' w.heap.size A' (stay (ofS a) l) ∧ But [] w w' := by
  obtain ⟨n, hn⟩ : ∃ n, n = l.length := ⟨_, rfl⟩
  rw [← hn] at hl ⊢
  have H : Hid (Ens w 0 A l) := h
  have HN : Hid (n = l.length) := hn
  obtain ⟨i0, hi, hz0, hz1, hz2⟩ := info_parts Try.infoREntry
  have HI : Hid (Try.prog.info? 55 = some i0) := hi
  have HZ0 : Hid (i0.zero = some (.agg #[.int .i64 0, .int .i64 0, .int .i64 0, .bool false])) := hz0
  have HZ1 : Hid (i0.size = 4) := hz1
  have HZ2 : Hid (i0.bytes = 32) := hz2
  clear h hn hi hz0 hz1 hz2
  go_enter Try.func37, Try.ntmps37
  go_wp2
  go_loopg [9, 10] n (fun g0 vv i wx => ∃ (k r : Nat) (v : Value), v = vv ∧ k + g0 = n ∧ i = .int .i64 k ∧ Hid (r = (stay (ofS a) (l.take k)).length) ∧ Hid (wx.ownsRow w.heap.size 55 4 v r (catVs (stay (ofS a) (l.take k)))) ∧ Hid (r = 0 → v = .slice none 0 0) ∧ r ≤ k ∧ Below w.heap.size w wx)
  case atStart => exact ⟨0, 0, _, rfl, by omega, rfl, by show 0 = _; simp [stay], by show World.ownsRow _ _ _ _ _ _ _; simpa [stay, catVs] using World.ownsRow_nil w w.heap.size 55 4, by show 0 = 0 → _; intro _; rfl, Nat.le_refl _, Below.refl _ _⟩
  case round =>
    obtain ⟨k, r, v, rfl, hkg, rfl, HRL, HOW, HV0, hrk, hbel⟩ := hrel
    have HBL : Hid (Below w.heap.size w wr) := hbel
    have hsz := hbel.size
    clear hbel
    by_cases hlt : k < n
    · have hkl : k < l.length := by have := HN.out; omega
      obtain ⟨b, off, hA, _, hbl, hrows⟩ := (H.out).at_ hkl
      have hrow := range_keep (hrows k hkl) (But.of_below (l := []) HBL.out) (by simp)
      obtain ⟨e0, he0⟩ : ∃ e, e = l.getD k en0 := ⟨_, rfl⟩
      rw [← he0] at hrow
      have HE : Hid (l.getD k en0 = e0) := he0.symm
      obtain ⟨es, ep, ef, ew⟩ := e0
      have HR : Hid (wr.rangeAt b (off + k * 4) [.int .i64 es, .int .i64 ep, .int .i64 ef, .bool ew]) := hrow
      subst hA
      clear he0 hrow hrows
      by_cases hx : es = a
      · replace hx := hx.symm
        subst hx
        have HG : Hid (stay (ofS a) (l.take (k + 1)) = stay (ofS a) (l.take k)) := stay_loses _ l k hkl _ HE.out (by simp [ofS])
        go_wp2_with (first
          | (refine wpList_load_mid rfl 55 _ rfl b (off + k * 4) rfl [.int .i64 a, .int .i64 ep, .int .i64 ef, .bool ew] _ HR.out Try.underlying55 rfl Try.sizeREntry ?_))
        go_roundg (n - (k + 1))
        case measure => omega
        case rel => exact ⟨k + 1, r, _, rfl, by omega, by go_num, by show r = _; rw [HG.out]; exact HRL.out, by show World.ownsRow _ _ _ _ _ _ _; rw [HG.out]; exact HOW.out.alloc _, HV0, by omega, HBL.out.alloc hsz _⟩
      ·
        have HG : Hid (stay (ofS a) (l.take (k + 1)) = stay (ofS a) (l.take k) ++ [⟨es, ep, ef, ew⟩]) := stay_keeps _ l k hkl _ HE.out (by simp [ofS, hx])
        have HO2 : Hid (((wr.alloc (.cells #[.int .i64 es, .int .i64 ep, .int .i64 ef, .bool ew] 55)).alloc (.cells #[.int .i64 es, .int .i64 ep, .int .i64 ef, .bool ew] 55)).ownsRow w.heap.size 55 4 v r (catVs (stay (ofS a) (l.take k)))) := (HOW.out.alloc _).alloc _
        go_wp2_with (first
          | (refine wpList_load_mid rfl 55 _ rfl b (off + k * 4) rfl [.int .i64 es, .int .i64 ep, .int .i64 ef, .bool ew] _ HR.out Try.underlying55 rfl Try.sizeREntry ?_)
          | (at_builtin; refine wpList_append_own _ rfl _ _ 23 rfl w.heap.size 55 i0 (.agg #[.int .i64 0, .int .i64 0, .int .i64 0, .bool false]) 4 32 Try.underlying23 HI.out HZ0.out HZ1.out HZ2.out rfl (by decide) _ _ _ rfl HO2.out ⟨wr.heap.size + 1, 0, none⟩ 1 1 [.int .i64 es, .int .i64 ep, .int .i64 ef, .bool ew] rfl rfl ?c1 (four_one _ _ _ _) ?c3 ?c4 ?c5 ?_))
        case c1 => simpa using four_new (wr.alloc (.cells #[.int .i64 es, .int .i64 ep, .int .i64 ef, .bool ew] 55)) [.int .i64 es, .int .i64 ep, .int .i64 ef, .bool ew] 55
        case c3 => unfold maxLen; omega
        case c4 => omega
        case c5 => simp; omega
        intro v' w2 hown3 hgrow hnil
        have HOW2 : Hid (w2.ownsRow w.heap.size 55 4 v' (r + 1) (catVs (stay (ofS a) (l.take (k + 1))))) := by
          show World.ownsRow _ _ _ _ _ _ _
          rw [HG.out, catVs_snoc]
          exact hown3
        have HRL2 : Hid (r + 1 = (stay (ofS a) (l.take (k + 1))).length) := by show r + 1 = _; rw [HG.out, List.length_append, ← HRL.out]; rfl
        have B2 : Hid (Below w.heap.size w w2) := ((HBL.out.alloc hsz _).alloc (by simp; omega) _).grown hgrow (by simp; omega) (fun k h => (HOW.out.lt k h).1)
        clear hown3 hgrow hnil
        go_wp2
        go_roundg (n - (k + 1))
        case measure => omega
        case rel => exact ⟨k + 1, r + 1, _, rfl, by omega, by go_num, HRL2.out, HOW2.out, by show r + 1 = 0 → _; omega, by omega, B2.out⟩
    · obtain rfl : k = n := by omega
      have HEND : Hid (wr.ownsRow w.heap.size 55 4 v r (catVs (stay (ofS a) l))) := by
        show World.ownsRow _ _ _ _ _ _ _
        have := HOW.out
        rwa [HN.out, List.take_length] at this
      have HRE : Hid (r = (stay (ofS a) l).length) := by
        show r = _
        have := HRL.out
        rwa [HN.out, List.take_length] at this
      obtain ⟨A', c', hv, -, hc', -, hens⟩ := Ens.of_own HEND.out
      have HX : Hid (Ens wr w.heap.size A' (stay (ofS a) l)) := hens
      have HV1 : Hid (r = 0 → Value.slice A' r c' = .slice none 0 0) := by show r = 0 → _; rw [← hv]; exact HV0.out
      rw [hv]
      clear hens hv HOW HEND HV0 HRL
      go_wp2
      go_ret
      exact ⟨A', c', by rw [← HRE.out]; rfl, by rw [← HRE.out]; exact hc', fun h0 => (by
        have := HV1.out (by rw [HRE.out, h0]; rfl)
        injection this with h1 h2 h3
        exact ⟨h1, h3⟩), HX.out, But.of_below HBL.out⟩

set_option maxHeartbeats 2000000 in
theorem rwP_c (A : Option Addr) (c : Nat) (l : List En) (a p : Int) (w : World) (h : Ens w 0 A l) (hl : l.length ≤ 1000) :
    Calls Try.prog 37 #[.slice A l.length c, .int .i64 2, .int .i64 a, .int .i64 p] w fun e w' =>
      ∃ A' c', e = .returned (.slice A' (stay (isE a p) l).length c') ∧ (stay (isE a p) l).length ≤ c' ∧ (stay (isE a p) l = [] → A' = none ∧ c' = 0) ∧ Ens w' w.heap.size A' (stay (isE a p) l) ∧ But [] w w' := by
  obtain ⟨n, hn⟩ : ∃ n, n = l.length := ⟨_, rfl⟩
  rw [← hn] at hl ⊢
  have H : Hid (Ens w 0 A l) := h
  have HN : Hid (n = l.length) := hn
  obtain ⟨i0, hi, hz0, hz1, hz2⟩ := info_parts Try.infoREntry
  have HI : Hid (Try.prog.info? 55 = some i0) := hi
  have HZ0 : Hid (i0.zero = some (.agg #[.int .i64 0, .int .i64 0, .int .i64 0, .bool false])) := hz0
  have HZ1 : Hid (i0.size = 4) := hz1
  have HZ2 : Hid (i0.bytes = 32) := hz2
  clear h hn hi hz0 hz1 hz2
  go_enter Try.func37, Try.ntmps37
  go_wp2
  go_loopg [9, 10] n (fun g0 vv i wx => ∃ (k r : Nat) (v : Value), v = vv ∧ k + g0 = n ∧ i = .int .i64 k ∧ Hid (r = (stay (isE a p) (l.take k)).length) ∧ Hid (wx.ownsRow w.heap.size 55 4 v r (catVs (stay (isE a p) (l.take k)))) ∧ Hid (r = 0 → v = .slice none 0 0) ∧ r ≤ k ∧ Below w.heap.size w wx)
  case atStart => exact ⟨0, 0, _, rfl, by omega, rfl, by show 0 = _; simp [stay], by show World.ownsRow _ _ _ _ _ _ _; simpa [stay, catVs] using World.ownsRow_nil w w.heap.size 55 4, by show 0 = 0 → _; intro _; rfl, Nat.le_refl _, Below.refl _ _⟩
  case round =>
    obtain ⟨k, r, v, rfl, hkg, rfl, HRL, HOW, HV0, hrk, hbel⟩ := hrel
    have HBL : Hid (Below w.heap.size w wr) := hbel
    have hsz := hbel.size
    clear hbel
    by_cases hlt : k < n
    · have hkl : k < l.length := by have := HN.out; omega
      obtain ⟨b, off, hA, _, hbl, hrows⟩ := (H.out).at_ hkl
      have hrow := range_keep (hrows k hkl) (But.of_below (l := []) HBL.out) (by simp)
      obtain ⟨e0, he0⟩ : ∃ e, e = l.getD k en0 := ⟨_, rfl⟩
      rw [← he0] at hrow
      have HE : Hid (l.getD k en0 = e0) := he0.symm
      obtain ⟨es, ep, ef, ew⟩ := e0
      have HR : Hid (wr.rangeAt b (off + k * 4) [.int .i64 es, .int .i64 ep, .int .i64 ef, .bool ew]) := hrow
      subst hA
      clear he0 hrow hrows
      by_cases hx : es = a
      · replace hx := hx.symm
        subst hx
        by_cases hy : ep = p
        · replace hy := hy.symm
          subst hy
          have HG : Hid (stay (isE a p) (l.take (k + 1)) = stay (isE a p) (l.take k)) := stay_loses _ l k hkl _ HE.out (by simp [isE])
          go_wp2_with (first
            | (refine wpList_load_mid rfl 55 _ rfl b (off + k * 4) rfl [.int .i64 a, .int .i64 p, .int .i64 ef, .bool ew] _ HR.out Try.underlying55 rfl Try.sizeREntry ?_))
          go_roundg (n - (k + 1))
          case measure => omega
          case rel => exact ⟨k + 1, r, _, rfl, by omega, by go_num, by show r = _; rw [HG.out]; exact HRL.out, by show World.ownsRow _ _ _ _ _ _ _; rw [HG.out]; exact HOW.out.alloc _, HV0, by omega, HBL.out.alloc hsz _⟩
        ·
          have HG : Hid (stay (isE a p) (l.take (k + 1)) = stay (isE a p) (l.take k) ++ [⟨a, ep, ef, ew⟩]) := stay_keeps _ l k hkl _ HE.out (by simp [isE, hy])
          have HO2 : Hid (((wr.alloc (.cells #[.int .i64 a, .int .i64 ep, .int .i64 ef, .bool ew] 55)).alloc (.cells #[.int .i64 a, .int .i64 ep, .int .i64 ef, .bool ew] 55)).ownsRow w.heap.size 55 4 v r (catVs (stay (isE a p) (l.take k)))) := (HOW.out.alloc _).alloc _
          go_wp2_with (first
            | (refine wpList_load_mid rfl 55 _ rfl b (off + k * 4) rfl [.int .i64 a, .int .i64 ep, .int .i64 ef, .bool ew] _ HR.out Try.underlying55 rfl Try.sizeREntry ?_)
            | (at_builtin; refine wpList_append_own _ rfl _ _ 23 rfl w.heap.size 55 i0 (.agg #[.int .i64 0, .int .i64 0, .int .i64 0, .bool false]) 4 32 Try.underlying23 HI.out HZ0.out HZ1.out HZ2.out rfl (by decide) _ _ _ rfl HO2.out ⟨wr.heap.size + 1, 0, none⟩ 1 1 [.int .i64 a, .int .i64 ep, .int .i64 ef, .bool ew] rfl rfl ?c1 (four_one _ _ _ _) ?c3 ?c4 ?c5 ?_))
          case c1 => simpa using four_new (wr.alloc (.cells #[.int .i64 a, .int .i64 ep, .int .i64 ef, .bool ew] 55)) [.int .i64 a, .int .i64 ep, .int .i64 ef, .bool ew] 55
          case c3 => unfold maxLen; omega
          case c4 => omega
          case c5 => simp; omega
          intro v' w2 hown3 hgrow hnil
          have HOW2 : Hid (w2.ownsRow w.heap.size 55 4 v' (r + 1) (catVs (stay (isE a p) (l.take (k + 1))))) := by
            show World.ownsRow _ _ _ _ _ _ _
            rw [HG.out, catVs_snoc]
            exact hown3
          have HRL2 : Hid (r + 1 = (stay (isE a p) (l.take (k + 1))).length) := by show r + 1 = _; rw [HG.out, List.length_append, ← HRL.out]; rfl
          have B2 : Hid (Below w.heap.size w w2) := ((HBL.out.alloc hsz _).alloc (by simp; omega) _).grown hgrow (by simp; omega) (fun k h => (HOW.out.lt k h).1)
          clear hown3 hgrow hnil
          go_wp2
          go_roundg (n - (k + 1))
          case measure => omega
          case rel => exact ⟨k + 1, r + 1, _, rfl, by omega, by go_num, HRL2.out, HOW2.out, by show r + 1 = 0 → _; omega, by omega, B2.out⟩
      ·
        have HG : Hid (stay (isE a p) (l.take (k + 1)) = stay (isE a p) (l.take k) ++ [⟨es, ep, ef, ew⟩]) := stay_keeps _ l k hkl _ HE.out (by simp [isE, hx])
        have HO2 : Hid (((wr.alloc (.cells #[.int .i64 es, .int .i64 ep, .int .i64 ef, .bool ew] 55)).alloc (.cells #[.int .i64 es, .int .i64 ep, .int .i64 ef, .bool ew] 55)).ownsRow w.heap.size 55 4 v r (catVs (stay (isE a p) (l.take k)))) := (HOW.out.alloc _).alloc _
        go_wp2_with (first
          | (refine wpList_load_mid rfl 55 _ rfl b (off + k * 4) rfl [.int .i64 es, .int .i64 ep, .int .i64 ef, .bool ew] _ HR.out Try.underlying55 rfl Try.sizeREntry ?_)
          | (at_builtin; refine wpList_append_own _ rfl _ _ 23 rfl w.heap.size 55 i0 (.agg #[.int .i64 0, .int .i64 0, .int .i64 0, .bool false]) 4 32 Try.underlying23 HI.out HZ0.out HZ1.out HZ2.out rfl (by decide) _ _ _ rfl HO2.out ⟨wr.heap.size + 1, 0, none⟩ 1 1 [.int .i64 es, .int .i64 ep, .int .i64 ef, .bool ew] rfl rfl ?c1 (four_one _ _ _ _) ?c3 ?c4 ?c5 ?_))
        case c1 => simpa using four_new (wr.alloc (.cells #[.int .i64 es, .int .i64 ep, .int .i64 ef, .bool ew] 55)) [.int .i64 es, .int .i64 ep, .int .i64 ef, .bool ew] 55
        case c3 => unfold maxLen; omega
        case c4 => omega
        case c5 => simp; omega
        intro v' w2 hown3 hgrow hnil
        have HOW2 : Hid (w2.ownsRow w.heap.size 55 4 v' (r + 1) (catVs (stay (isE a p) (l.take (k + 1))))) := by
          show World.ownsRow _ _ _ _ _ _ _
          rw [HG.out, catVs_snoc]
          exact hown3
        have HRL2 : Hid (r + 1 = (stay (isE a p) (l.take (k + 1))).length) := by show r + 1 = _; rw [HG.out, List.length_append, ← HRL.out]; rfl
        have B2 : Hid (Below w.heap.size w w2) := ((HBL.out.alloc hsz _).alloc (by simp; omega) _).grown hgrow (by simp; omega) (fun k h => (HOW.out.lt k h).1)
        clear hown3 hgrow hnil
        go_wp2
        go_roundg (n - (k + 1))
        case measure => omega
        case rel => exact ⟨k + 1, r + 1, _, rfl, by omega, by go_num, HRL2.out, HOW2.out, by show r + 1 = 0 → _; omega, by omega, B2.out⟩
    · obtain rfl : k = n := by omega
      have HEND : Hid (wr.ownsRow w.heap.size 55 4 v r (catVs (stay (isE a p) l))) := by
        show World.ownsRow _ _ _ _ _ _ _
        have := HOW.out
        rwa [HN.out, List.take_length] at this
      have HRE : Hid (r = (stay (isE a p) l).length) := by
        show r = _
        have := HRL.out
        rwa [HN.out, List.take_length] at this
      obtain ⟨A', c', hv, -, hc', -, hens⟩ := Ens.of_own HEND.out
      have HX : Hid (Ens wr w.heap.size A' (stay (isE a p) l)) := hens
      have HV1 : Hid (r = 0 → Value.slice A' r c' = .slice none 0 0) := by show r = 0 → _; rw [← hv]; exact HV0.out
      rw [hv]
      clear hens hv HOW HEND HV0 HRL
      go_wp2
      go_ret
      exact ⟨A', c', by rw [← HRE.out]; rfl, by rw [← HRE.out]; exact hc', fun h0 => (by
        have := HV1.out (by rw [HRE.out, h0]; rfl)
        injection this with h1 h2 h3
        exact ⟨h1, h3⟩), HX.out, But.of_below HBL.out⟩
end Go.Proofs.Ytjlcncdhlcpklaa.Tl
