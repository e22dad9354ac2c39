/-
  Layer 5 (tlb): contracts of the closures, drop, DropFrame, DropSpace, DropPage, over the translated program.
-/
import Derived.Test.YtjlcncdhlcpklaaTlBase
namespace Go.Proofs.Ytjlcncdhlcpklaa.Tl
open Go.ChangeShapes Go.WideShapes Go.ChangeAt Go.RowKit
set_option linter.unusedVariables false
set_option maxRecDepth 20000

theorem Try.mf : ∀ (fn : Fn) (first cap : Array Value) (w : World), (Instr.makeFunc fn first cap).run Try.prog w = .ok (.func fn first cap) w := fun _ _ _ _ => rfl
/-- The entries that stay: those of which g does not hold. -/
def stay (g : En → Bool) (l : List En) : List En := l.filter fun e => !g e
/-- The entries when all places from q on have been looked at. -/
def upTo (g : En → Bool) (l : List En) (q : Nat) : List En := l.take q ++ stay g (l.drop q)
theorem upTo_all (g : En → Bool) (l : List En) : upTo g l l.length = l := by simp [upTo, stay]
theorem upTo_zero (g : En → Bool) (l : List En) : upTo g l 0 = stay g l := by simp [upTo]
theorem stay_len (g : En → Bool) (l : List En) : (stay g l).length ≤ l.length := List.length_filter_le _ _
theorem upTo_get (g : En → Bool) (l : List En) (q : Nat) (h : q < l.length) : (upTo g l (q + 1)).getD q en0 = l.getD q en0 := by
  have h1 : q < (l.take (q + 1)).length := by rw [List.length_take]; omega
  simp only [upTo, List.getD_eq_getElem?_getD]
  rw [List.getElem?_append_left h1, List.getElem?_take, if_pos (by omega)]
theorem upTo_lt (g : En → Bool) (l : List En) (q : Nat) (h : q < l.length) : q < (upTo g l (q + 1)).length := by
  simp [upTo]; omega
theorem take_snoc (l : List En) (q : Nat) (h : q < l.length) : l.take (q + 1) = l.take q ++ [l.getD q en0] := by
  rw [List.take_add_one]
  simp [List.getD, h]
theorem drop_at (l : List En) (q : Nat) (h : q < l.length) : l.drop q = l.getD q en0 :: l.drop (q + 1) := by
  rw [List.drop_eq_getElem_cons h]
  simp [List.getD, h]
theorem upTo_keeps (g : En → Bool) (l : List En) (q : Nat) (h : q < l.length) (hg : g (l.getD q en0) = false) : upTo g l q = upTo g l (q + 1) := by
  unfold upTo
  rw [drop_at l q h, take_snoc l q h]
  simp only [stay, List.filter_cons, hg, Bool.not_false, if_true, List.append_assoc, List.singleton_append]
theorem upTo_loses (g : En → Bool) (l : List En) (q : Nat) (h : q < l.length) (hg : g (l.getD q en0) = true) : upTo g l q = (upTo g l (q + 1)).eraseIdx q := by
  unfold upTo
  rw [drop_at l q h, take_snoc l q h]
  have hl : (l.take q).length = q := by rw [List.length_take]; omega
  simp only [stay, List.filter_cons, hg, Bool.not_true, Bool.false_eq_true, if_false, List.append_assoc, List.singleton_append]
  rw [List.eraseIdx_append_of_length_le (by omega), hl, Nat.sub_self, List.eraseIdx_zero, List.tail_cons]
theorem upTo_most (g : En → Bool) (l : List En) (q : Nat) : (upTo g l q).length ≤ l.length := by
  have h1 := stay_len g (l.drop q)
  simp only [upTo, List.length_append, List.length_take]
  rw [List.length_drop] at h1
  omega

/-- Of this frame. -/
def ofF (a : Int) (e : En) : Bool := e.f == a
/-- Of this space. -/
def ofS (a : Int) (e : En) : Bool := e.s == a
theorem goP_c (es ep ef : Int) (ew : Bool) (a p : Int) (c d : Nat) (w : World) (hc : w.cell? ⟨c, 0, none⟩ = some (.int .i64 a)) (hd : w.cell? ⟨d, 0, none⟩ = some (.int .i64 p)) :
    Calls Try.prog 55 #[.agg #[.int .i64 es, .int .i64 ep, .int .i64 ef, .bool ew], .pointer (some ⟨c, 0, none⟩), .pointer (some ⟨d, 0, none⟩)] w fun e w' => e = .returned (.bool (isE a p ⟨es, ep, ef, ew⟩)) ∧ But [] w w' := by
  have hb : c < w.heap.size := lt_of_cell hc
  have hb2 : d < w.heap.size := lt_of_cell hd
  have hc2 : ∀ o, (w.alloc o).cell? ⟨c, 0, none⟩ = some (.int .i64 a) := fun o => cell_keep hc ((But.refl [] w).alloc o) (by simp)
  have hd2 : ∀ o, (w.alloc o).cell? ⟨d, 0, none⟩ = some (.int .i64 p) := fun o => cell_keep hd ((But.refl [] w).alloc o) (by simp)
  go_enter Try.func55, Try.ntmps55
  go_wp2_with fail
  refine (isOf_c es ep ef ew a p _).mono ?_
  rintro e w1 ⟨rfl, k1⟩
  have K1 : Hid (But [] w w1) := ((But.refl [] w).alloc _).trans k1
  clear k1
  go_wp2
  go_ret
  exact ⟨rfl, K1.out⟩

set_option maxHeartbeats 1000000 in
theorem dropP_c (b : Nat) (l : List En) (m : Nat) (a p : Int) (c d : Nat) (w : World) (h : TlbAt w b l m) (hc : w.cell? ⟨c, 0, none⟩ = some (.int .i64 a)) (hd : w.cell? ⟨d, 0, none⟩ = some (.int .i64 p)) (hcb : c ≠ b) (hdb : d ≠ b) :
    Calls Try.prog 54 #[.pointer (some ⟨b, 0, none⟩), .func (.func 55) #[] #[.pointer (some ⟨c, 0, none⟩), .pointer (some ⟨d, 0, none⟩)]] w fun e w' =>
      e = .returned (.int .i64 ((l.length : Int) - (stay (isE a p) l).length)) ∧ TlbAt w' b (stay (isE a p) l) m ∧ But [b] w w' := by
  obtain ⟨n, hn⟩ : ∃ n, n = l.length := ⟨_, rfl⟩
  have hm := h.most
  obtain ⟨hcn, -⟩ := h.cnt
  rw [← hn] at hm hcn ⊢
  have H : Hid (TlbAt w b (upTo (isE a p) l n) m) := by show TlbAt _ _ _ _; rw [hn, upTo_all]; exact h
  have HN : Hid (n = l.length) := hn
  clear h hn
  have HC : Hid (w.cell? ⟨c, 0, none⟩ = some (.int .i64 a)) := hc
  have HD : Hid (w.cell? ⟨d, 0, none⟩ = some (.int .i64 p)) := hd
  clear hc hd
  go_enter Try.func54, Try.ntmps54
  go_wp2
  go_loopg [6] n (fun g0 i wx => ∃ g : Nat, g = g0 ∧ g ≤ n ∧ i = .int .i64 ((g : Int) - 1) ∧ TlbAt wx b (upTo (isE a p) l g) m ∧ But [b] w wx)
  case atStart => exact ⟨n, rfl, Nat.le_refl _, rfl, H.out, But.refl _ _⟩
  case round =>
    obtain ⟨g, hgk, hgn, rfl, ht, hb⟩ := hrel
    have HT : Hid (TlbAt wr b (upTo (isE a p) l g) m) := ht
    have HB : Hid (But [b] w wr) := hb
    clear ht hb hcn
    by_cases h0 : g = 0
    · subst h0
      clear hgk
      obtain ⟨r, hr⟩ : ∃ r, r = (stay (isE a p) l).length := ⟨_, rfl⟩
      have hrn : r ≤ n := by have := stay_len (isE a p) l; have := HN.out; omega
      have HS : Hid (TlbAt wr b (stay (isE a p) l) m) := by show TlbAt _ _ _ _; rw [← upTo_zero]; exact HT.out
      obtain ⟨hc2, -⟩ := HS.out.cnt
      rw [← hr] at hc2
      have HR : Hid (r = (stay (isE a p) l).length) := hr
      have ecast : ((0 : Nat) : Int) - 1 = -1 := by omega
      rw [ecast]
      clear hr ecast
      go_wp2
      go_ret
      exact ⟨by rw [← HR.out]; rfl, HS.out, HB.out⟩
    · obtain ⟨q, rfl⟩ : ∃ q, g = q + 1 := ⟨g - 1, by omega⟩
      have hqg : q < gk := by omega
      clear hgk
      have hq8 : q < 8 := by omega
      have hq8' : (q : Int) < 8 := by omega
      have hql : q < l.length := by have := HN.out; omega
      have hrow := HT.out.row q hq8
      rw [upTo_get _ _ _ hql] at hrow
      obtain ⟨e0, he0⟩ : ∃ e, e = l.getD q en0 := ⟨_, rfl⟩
      rw [← he0] at hrow
      have HE : Hid (l.getD q en0 = e0) := he0.symm
      obtain ⟨es, ep, ef, ew⟩ := e0
      have HR : Hid (wr.rangeAt b (q * 4) [.int .i64 es, .int .i64 ep, .int .i64 ef, .bool ew]) := hrow
      clear he0 hrow h0
      have hcx : wr.cell? ⟨c, 0, none⟩ = some (.int .i64 a) := cell_keep HC.out HB.out (by simp; omega)
      have hdx : wr.cell? ⟨d, 0, none⟩ = some (.int .i64 p) := cell_keep HD.out HB.out (by simp; omega)
      have ecast : ((q + 1 : Nat) : Int) - 1 = (q : Int) := by omega
      rw [ecast]
      clear ecast
      go_wp2_with (first
        | (refine wpList_load_mid rfl 49 _ rfl b (q * 4) rfl [.int .i64 es, .int .i64 ep, .int .i64 ef, .bool ew] _ HR.out Try.underlying49 rfl Try.sizeEntry ?_))
      refine (goP_c es ep ef ew a p c d _ hcx hdx).mono ?_
      rintro e w1 ⟨rfl, k1⟩
      have HT1 : Hid (TlbAt w1 b (upTo (isE a p) l (q + 1)) m) := HT.out.keep k1 (by simp)
      have HB1 : Hid (But [b] w w1) := HB.out.trans (k1.wider (by simp))
      clear k1 hcx hdx
      cases hg : (isE a p) ⟨es, ep, ef, ew⟩ with
      | true =>
        have HU : Hid (upTo (isE a p) l q = (upTo (isE a p) l (q + 1)).eraseIdx q) := upTo_loses _ _ _ hql (by rw [HE.out]; exact hg)
        clear hg
        go_wp2_with fail
        refine (take_c b _ m q _ HT1.out (upTo_lt _ _ _ hql)).mono ?_
        rintro e w2 ⟨rfl, h2, k2⟩
        rw [← HU.out] at h2
        have HT2 : Hid (TlbAt w2 b (upTo (isE a p) l q) m) := h2
        have HB2 : Hid (But [b] w w2) := HB1.out.trans k2
        clear h2 k2
        go_wp2
        go_roundg q
        case measure => omega
        case rel => exact ⟨q, rfl, by omega, by go_num, HT2.out, HB2.out⟩
      | false =>
        have HT2 : Hid (TlbAt w1 b (upTo (isE a p) l q) m) := by show TlbAt _ _ _ _; rw [upTo_keeps _ _ _ hql (by rw [HE.out]; exact hg)]; exact HT1.out
        clear hg
        go_wp2
        go_roundg q
        case measure => omega
        case rel => exact ⟨q, rfl, by omega, by go_num, HT2.out, HB1.out⟩

theorem dropPage_c (b : Nat) (l : List En) (m : Nat) (a p : Int) (w : World) (h : TlbAt w b l m) :
    Calls Try.prog 35 #[.pointer (some ⟨b, 0, none⟩), .int .i64 a, .int .i64 p] w fun e w' =>
      e = .returned (.int .i64 ((l.length : Int) - (stay (isE a p) l).length)) ∧ TlbAt w' b (stay (isE a p) l) m ∧ But [b] w w' := by
  have hmf := Try.mf
  have hbl := h.lt
  have H : Hid (TlbAt w b l m) := h
  clear h
  go_enter Try.func35, Try.ntmps35
  go_wp2_with fail
  refine (dropP_c b l m a p w.heap.size (w.heap.size + 1) _ (H.out.keep (((But.refl [] w).alloc _).alloc _) (by simp)) (cell_keep (cell_one_new _ _ _ 0 _ rfl) ((But.refl [] _).alloc _) (by simp)) (by simp) (by omega) (by omega)).mono ?_
  rintro e w1 ⟨rfl, h1, k1⟩
  have H1 : Hid (TlbAt w1 b (stay (isE a p) l) m) := h1
  have K1 : Hid (But [b] w w1) := ((((But.refl [] w).alloc _).alloc _).any [b]).trans k1
  clear h1 k1
  go_wp2
  go_ret
  exact ⟨rfl, H1.out, K1.out⟩
theorem dropPage_nil (a p : Int) (w : World) :
    Calls Try.prog 35 #[.pointer none, .int .i64 a, .int .i64 p] w fun e w' => e = .returned (.int .i64 0) ∧ But [] w w' := by
  have hmf := Try.mf
  go_enter Try.func35, Try.ntmps35
  go_wp2
  go_ret
  exact ⟨rfl, (((But.refl [] w).alloc _).alloc _)⟩
end Go.Proofs.Ytjlcncdhlcpklaa.Tl
