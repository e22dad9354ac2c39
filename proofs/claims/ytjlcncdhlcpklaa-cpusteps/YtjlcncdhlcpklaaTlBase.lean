/-
  Layer 5 (tlb): how a TLB lies in the machine's memory; contracts of isOf, take, Misses, over the translated program.
-/
import Derived.Test.YtjlcncdhlcpklaaProg
import Derived.Test.YtjlcncdhlcpklaaBut
namespace Go.Proofs.Ytjlcncdhlcpklaa.Tl
open Go.ChangeShapes Go.WideShapes Go.ChangeAt Go.RowKit
set_option linter.unusedVariables false
set_option maxRecDepth 20000

/-- An entry: space, page, frame, may it be written. -/
structure En where
  s : Int
  p : Int
  f : Int
  wr : Bool
  deriving DecidableEq
def en0 : En := ⟨0, 0, 0, false⟩
def En.cell (e : En) : Nat → Value
  | 0 => .int .i64 e.s
  | 1 => .int .i64 e.p
  | 2 => .int .i64 e.f
  | _ => .bool e.wr
def En.vs (e : En) : List Value := [.int .i64 e.s, .int .i64 e.p, .int .i64 e.f, .bool e.wr]
theorem En.vs_get (e : En) (i : Nat) (h : i < 4) : e.vs[i]? = some (e.cell i) := by
  match i, h with
  | 0, _ => rfl
  | 1, _ => rfl
  | 2, _ => rfl
  | 3, _ => rfl
theorem En.vs_getD (e : En) (i : Nat) (h : i < 4) : e.vs.getD i undef = e.cell i := by
  rw [List.getD_eq_getElem?_getD, e.vs_get i h]; rfl
theorem En.cell_one (e : En) (i : Nat) : (e.cell i).oneCell' = true := by
  unfold En.cell
  split <;> rfl
theorem En.vs_all (e : En) : e.vs.toArray.all (·.oneCell') = true := all_oneCell_toArray (by
  intro v hv
  simp only [En.vs, List.mem_cons, List.not_mem_nil, or_false] at hv
  rcases hv with rfl | rfl | rfl | rfl <;> rfl)
/-- What a TLB's cells hold: eight entries (those behind the last one are zero), how many, the misses. -/
def tf (l : List En) (m : Nat) (j : Nat) : Value := if j < 32 then (l.getD (j / 4) en0).cell (j % 4) else if j = 32 then .int .i64 l.length else .int .i64 m
theorem tf_one (l : List En) (m j : Nat) : (tf l m j).oneCell' = true := by
  unfold tf
  split
  · exact En.cell_one _ _
  · split <;> rfl
/-- Block b is a TLB with the entries l, and so many misses. -/
structure TlbAt (w : World) (b : Nat) (l : List En) (m : Nat) : Prop where
  most : l.length ≤ 8
  vb : VB w b 34 (tf l m)
theorem TlbAt.lt {w : World} {b : Nat} {l : List En} {m : Nat} (h : TlbAt w b l m) : b < w.heap.size := h.vb.lt (by omega)
theorem TlbAt.keep {k : List Nat} {w w' : World} {b : Nat} {l : List En} {m : Nat} (h : TlbAt w b l m) (hk : But k w w') (hn : b ∉ k) : TlbAt w' b l m := ⟨h.most, h.vb.keep hk hn⟩
theorem TlbAt.drew {w : World} {b : Nat} {l : List En} {m : Nat} (h : TlbAt w b l m) : TlbAt w.drew b l m := ⟨h.most, h.vb.drew⟩
theorem TlbAt.cnt {w : World} {b : Nat} {l : List En} {m : Nat} (h : TlbAt w b l m) : w.cell? ⟨b, 32, none⟩ = some (.int .i64 l.length) ∧ w.frozen? ⟨b, 32, none⟩ = false := h.vb 32 (by omega)
theorem TlbAt.mis {w : World} {b : Nat} {l : List En} {m : Nat} (h : TlbAt w b l m) : w.cell? ⟨b, 33, none⟩ = some (.int .i64 m) ∧ w.frozen? ⟨b, 33, none⟩ = false := h.vb 33 (by omega)
theorem tf_at (l : List En) (m i k : Nat) (hi : i < 8) (hk : k < 4) : tf l m (i * 4 + k) = (l.getD i en0).cell k := by
  unfold tf
  rw [if_pos (by omega), show (i * 4 + k) / 4 = i by omega, show (i * 4 + k) % 4 = k by omega]
theorem TlbAt.row {w : World} {b : Nat} {l : List En} {m : Nat} (h : TlbAt w b l m) (i : Nat) (hi : i < 8) : w.rangeAt b (i * 4) (l.getD i en0).vs :=
  h.vb.range _ (by show i * 4 + 4 ≤ 34; omega) (fun k hk => by
    have hk4 : k < 4 := hk
    rw [tf_at l m i k hi hk4]
    exact En.vs_get _ k hk4)
theorem TlbAt.there {w : World} {b : Nat} {l : List En} {m : Nat} (h : TlbAt w b l m) (i : Nat) (hi : i < 8) : w.there b (i * 4) 4 := h.vb.there (by omega)

theorem Try.sizeEntry : (Try.prog.info? 49).map (·.size) = some 4 := by kernel_rfl

/-- Is it the entry of this page? -/
def isE (s p : Int) (e : En) : Bool := e.s == s && e.p == p
theorem isOf_c (es ep ef : Int) (ew : Bool) (s p : Int) (w : World) :
    Calls Try.prog 56 #[.agg #[.int .i64 es, .int .i64 ep, .int .i64 ef, .bool ew], .int .i64 s, .int .i64 p] w fun e w' => e = .returned (.bool (isE s p ⟨es, ep, ef, ew⟩)) ∧ But [] w w' := by
  go_enter Try.func56, Try.ntmps56
  by_cases h : es = s
  · subst h
    go_wp2
    go_ret
    exact ⟨by simp [isE], (But.refl _ _).alloc _⟩
  · go_wp2
    go_ret
    exact ⟨by simp [isE, h], (But.refl _ _).alloc _⟩


/-- The cells that move up when place k is taken out. -/
def mvs (l : List En) (m k : Nat) : List Value := (List.range ((l.length - (k + 1)) * 4)).map fun i => tf l m ((k + 1) * 4 + i)
theorem mvs_len (l : List En) (m k : Nat) : (mvs l m k).length = (l.length - (k + 1)) * 4 := by simp [mvs]
theorem mvs_get (l : List En) (m k i : Nat) (hi : i < (l.length - (k + 1)) * 4) : (mvs l m k)[i]? = some (tf l m ((k + 1) * 4 + i)) := by simp [mvs, hi]
theorem erase_getD (l : List En) (k i : Nat) : (l.eraseIdx k).getD i en0 = if i < k then l.getD i en0 else l.getD (i + 1) en0 := by
  simp only [List.getD_eq_getElem?_getD, List.getElem?_eraseIdx]
  split <;> rfl
theorem getD_past (l : List En) (i : Nat) (h : l.length ≤ i) : l.getD i en0 = en0 := by
  rw [List.getD_eq_getElem?_getD, List.getElem?_eq_none h]; rfl
theorem zero_cell (k : Nat) (h : k < 4) : (en0.vs).getD k undef = en0.cell k := En.vs_getD _ _ h
theorem taken_eq (l : List En) (m k : Nat) (hl : l.length ≤ 8) (hk : k < l.length) (c : Int) (hc : c = (l.length : Int) - 1) (j : Nat) (hj : j < 34) :
    (if (l.length - 1) * 4 ≤ j ∧ j < (l.length - 1) * 4 + en0.vs.length then en0.vs.getD (j - (l.length - 1) * 4) undef
      else if j = 32 then Value.int .i64 c else if k * 4 ≤ j ∧ j < k * 4 + (mvs l m k).length then (mvs l m k).getD (j - k * 4) undef else tf l m j) = tf (l.eraseIdx k) m j := by
  have hlen : (l.eraseIdx k).length = l.length - 1 := by rw [List.length_eraseIdx, if_pos hk]
  have hv : en0.vs.length = 4 := rfl
  rw [hv, mvs_len]
  by_cases h32 : j < 32
  · have e2 : tf (l.eraseIdx k) m j = (if j / 4 < k then l.getD (j / 4) en0 else l.getD (j / 4 + 1) en0).cell (j % 4) := by
      unfold tf
      rw [if_pos h32, erase_getD]
    rw [e2]
    by_cases h1 : (l.length - 1) * 4 ≤ j ∧ j < (l.length - 1) * 4 + 4
    · rw [if_pos h1, zero_cell _ (by omega), if_neg (by omega), getD_past l _ (by omega), show j - (l.length - 1) * 4 = j % 4 by omega]
    · rw [if_neg h1, if_neg (by omega)]
      by_cases h2 : k * 4 ≤ j ∧ j < k * 4 + (l.length - (k + 1)) * 4
      · rw [if_pos h2, List.getD_eq_getElem?_getD, mvs_get l m k (j - k * 4) (by omega), if_neg (by omega)]
        show tf l m ((k + 1) * 4 + (j - k * 4)) = _
        rw [show (k + 1) * 4 + (j - k * 4) = (j / 4 + 1) * 4 + j % 4 by omega, tf_at l m _ _ (by omega) (by omega)]
      · rw [if_neg h2]
        have e1 : tf l m j = (l.getD (j / 4) en0).cell (j % 4) := by unfold tf; rw [if_pos h32]
        rw [e1]
        by_cases h3 : j / 4 < k
        · rw [if_pos h3]
        · rw [if_neg h3, getD_past l (j / 4) (by omega), getD_past l (j / 4 + 1) (by omega)]
  · rw [if_neg (by omega)]
    by_cases h4 : j = 32
    · subst h4
      rw [if_pos rfl]
      unfold tf
      rw [if_neg (by omega), if_pos rfl, hlen, hc]
      congr 1
      omega
    · rw [if_neg h4, if_neg (by omega)]
      unfold tf
      rw [if_neg h32, if_neg h4, if_neg h32, if_neg h4]

theorem take_c (b : Nat) (l : List En) (m k : Nat) (w : World) (h : TlbAt w b l m) (hk : k < l.length) :
    Calls Try.prog 36 #[.pointer (some ⟨b, 0, none⟩), .int .i64 k] w fun e w' => e = .returned (.tuple #[]) ∧ TlbAt w' b (l.eraseIdx k) m ∧ But [b] w w' := by
  have hm := h.most
  obtain ⟨n, hn⟩ : ∃ n, n = l.length := ⟨_, rfl⟩
  rw [← hn] at hk hm
  obtain ⟨hc, hz⟩ := h.drew.cnt
  rw [← hn] at hc
  have H : Hid (TlbAt w b l m) := h
  have HN : Hid (n = l.length) := hn
  clear h hn
  have hw1 : IntKind.i64.wrap ((k : Int) + 1) = (k : Int) + 1 := by rw [IntKind.wrap_i64]; omega
  have hs1 : ∀ w, (Instr.sliceAt 60 (.pointer (some ⟨b, 0, none⟩)) (some (.int .i64 k)) none none).run Try.prog w = .ok (.slice (some ⟨b, k * 4, none⟩) (8 - k) (8 - k)) w := by
    intro w
    have h1 : (k : Int) ≤ 8 := by omega
    have h2 : ¬ 8 = k := by omega
    go_simp
  have hs2 : ∀ w, (Instr.sliceAt 60 (.pointer (some ⟨b, 0, none⟩)) (some (.int .i64 ((k : Int) + 1))) (some (.int .i64 n)) none).run Try.prog w = .ok (.slice (some ⟨b, (k + 1) % 8 * 4, none⟩) (n - (k + 1)) (7 - k)) w := by
    intro w
    by_cases h7 : k = 7
    · obtain rfl : n = 8 := by omega
      subst h7
      go_simp
    · have h0 : 0 ≤ (k : Int) + 1 := by omega
      have h1 : (k : Int) + 1 ≤ (n : Int) := by omega
      have h2 : (n : Int) ≤ 8 := by omega
      have e1 : ((k : Int) + 1).toNat = k + 1 := by omega
      have e2 : (k + 1) % 8 = k + 1 := by omega
      have h3 : ¬ 8 = k + 1 := by omega
      have h4 : ¬ k = 7 := h7
      rw [e2]
      clear e2
      go_simp
  go_enter Try.func36, Try.ntmps36
  go_wp2
  refine wp_region_still_tail 15 (by kernel_rfl) (by kernel_rfl) ?_
  simp only [List.take_succ_cons, List.take_zero, List.drop_succ_cons, List.drop_zero]
  change wpStill _ _ w.drew _ _ _
  repeat still_step
  refine wpStill_nil ?_
  change wpList _ _ _ _ _ w.drew
  clear hs1 hs2 hw1 hc hz
  have H1 : Hid (TlbAt w.drew b l m) := H.out.drew
  have hmk : (mvs l m k).length = (n - (k + 1)) * 4 := by rw [mvs_len, HN.out]
  have hcopy : ∀ ty, (Builtin.copy_ #[46, 46] ty #[.slice (some ⟨b, k * 4, none⟩) (8 - k) (8 - k), .slice (some ⟨b, (k + 1) % 8 * 4, none⟩) (n - (k + 1)) (7 - k)]).run Try.prog w.drew = .ok (goInt ((n - (k + 1) : Nat) : Int)) (w.drew.setCells b (k * 4) (mvs l m k)) := by
    intro ty
    refine run_copy_wide w.drew _ _ ty 49 b (k * 4) (8 - k) (8 - k) ⟨b, (k + 1) % 8 * 4, none⟩ (n - (k + 1)) (7 - k) 4 (n - (k + 1)) (mvs l m k) Try.underlying46 Try.sizeEntry (by show min _ _ = _; omega) hmk ?_ (H1.out.vb.there (by omega)) ?_
    · intro j v hv
      have hj : j < (n - (k + 1)) * 4 := by have := (List.getElem?_eq_some_iff.1 hv).1; omega
      rw [mvs_get l m k j (by rw [← HN.out]; exact hj)] at hv
      obtain rfl := Option.some.inj hv
      rw [Addr.add_mid, show (k + 1) % 8 * 4 + j = (k + 1) * 4 + j by omega]
      exact (H1.out.vb _ (by omega)).1
    · intro v hv
      simp only [mvs, List.mem_map] at hv
      obtain ⟨i, _, rfl⟩ := hv
      exact tf_one _ _ _
  refine wpList_copy_known w.drew rfl _ _ 46 46 rfl _ _ rfl rfl (hcopy _) ?_
  clear hcopy
  have V1 : Hid (VB (w.drew.setCells b (k * 4) (mvs l m k)) b 34 (fun j => if k * 4 ≤ j ∧ j < k * 4 + (mvs l m k).length then (mvs l m k).getD (j - k * 4) undef else tf l m j)) := H1.out.vb.sets _ (by omega)
  have B1 : Hid (But [b] w (w.drew.setCells b (k * 4) (mvs l m k))) := ((But.refl _ _).drew).setCells (by simp) _ _
  generalize w.drew.setCells b (k * 4) (mvs l m k) = w1 at V1 B1 ⊢
  obtain ⟨q, hq⟩ : ∃ q, n = q + 1 := ⟨n - 1, by omega⟩
  have hz := (V1.out 32 (by omega)).2
  have hc : w1.cell? ⟨b, 32, none⟩ = some (.int .i64 ((q : Int) + 1)) := by
    have e : (if k * 4 ≤ 32 ∧ 32 < k * 4 + (mvs l m k).length then (mvs l m k).getD (32 - k * 4) undef else tf l m 32) = Value.int .i64 ((q : Int) + 1) := by
      rw [if_neg (by omega)]
      show Value.int .i64 (l.length : Int) = _
      rw [← HN.out, hq]
      rfl
    exact (V1.out 32 (by omega)).1.trans (congrArg some e)
  have hqk : k ≤ q := by omega
  have hq8 : q < 8 := by omega
  have hq8' : (q : Int) < 8 := by omega
  have HQ : Hid (l.length = q + 1) := by show l.length = q + 1; rw [← HN.out, hq]
  clear hq HN hmk hk hm
  have V2 : Hid (VB (w1.setCell ⟨b, 32, none⟩ (.int .i64 q)) b 34 (fun j => if j = 32 then Value.int .i64 q else if k * 4 ≤ j ∧ j < k * 4 + (mvs l m k).length then (mvs l m k).getD (j - k * 4) undef else tf l m j)) := V1.out.set _
  have B2 : Hid (But [b] w (w1.setCell ⟨b, 32, none⟩ (.int .i64 q))) := B1.out.setCell (by simp) _
  go_wp2
  clear hc hz
  generalize w1.setCell ⟨b, 32, none⟩ (.int .i64 q) = w2 at V2 B2 ⊢
  have hc : w2.drew.cell? ⟨b, 32, none⟩ = some (.int .i64 q) := (V2.out.drew 32 (by omega)).1
  refine wp_region_still_tail 9 (by kernel_rfl) (by kernel_rfl) ?_
  simp only [List.take_succ_cons, List.take_zero, List.drop_succ_cons, List.drop_zero]
  change wpStill _ _ w2.drew _ _ _
  repeat still_step
  refine wpStill_nil ?_
  change wpList _ _ _ _ _ w2.drew
  refine wpList_store_mid rfl 49 _ _ rfl b (q * 4) en0.vs.toArray rfl rfl (V2.out.drew.there (by show q * 4 + 4 ≤ 34; omega)) Try.sizeEntry (En.vs_all en0) ?_
  go_wp2
  go_end0
  refine ⟨rfl, ⟨by rw [List.length_eraseIdx, if_pos (by rw [HQ.out]; omega), HQ.out]; omega, (V2.out.drew.sets en0.vs (by show q * 4 + 4 ≤ 34; omega)).congr fun j hj => ?_⟩, B2.out.drew.setCells (by simp) _ _⟩
  have := taken_eq l m k (by rw [HQ.out]; omega) (by rw [HQ.out]; omega) q (by rw [HQ.out]; omega) j hj
  rw [HQ.out] at this
  exact this
end Go.Proofs.Ytjlcncdhlcpklaa.Tl
