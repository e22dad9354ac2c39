/-
  Layer 9 (port): a port, the list that the statement holds beside it, and a deed's box: what each call and each append makes of them.
-/
import Derived.Test.YtlpibbbjmmoifaaPtFlat
namespace Go.Proofs.Ytlpibbbjmmoifaa.Pt
open Go.ChangeShapes Go.WideShapes Go.ChangeAt Go.RowKit
set_option linter.unusedVariables false
set_option maxRecDepth 20000

/-- Block b is a port in which ps wait; the list xs is v's, of blocks made behind b; a deed lies in block q; nothing that was there below b has turned since w. -/
structure PS (w : World) (b q : Nat) (K N W : Int) (s : Nat) (ps xs : List Int) (v : Value) (wx : World) : Prop where
  pt : PtAt wx b 0 s ps
  que : Que wx (b + 1) 1 v xs.length (xs.map (Value.int .u32))
  bel : Below b w wx
  k : wx.cell? ⟨q, 0, none⟩ = some (.int .i64 K)
  n : wx.cell? ⟨q, 1, none⟩ = some (.int .i64 N)
  w : wx.cell? ⟨q, 2, none⟩ = some (.int .u32 W)
  lt : b < q
  ne : ∀ k, k ∈ v.ownBlock.toList → k ≠ q
theorem below_but {B : Nat} {w w1 w2 : World} {l : List Nat} (h : Below B w w1) (k : But l w1 w2) (hl : ∀ i, i ∈ l → B ≤ i) (hB : B ≤ w1.heap.size) : Below B w w2 :=
  ⟨k.os.trans h.os, k.tape.trans h.tape, k.output.trans h.output, Nat.le_trans h.size k.size, fun i hi => (k.block i (by omega) (fun hm => by have := hl i hm; omega)).trans (h.block i hi)⟩
theorem below_cell {B : Nat} {w w1 : World} {b o : Nat} {v : Value} (h : Below B w w1) (hb : b < B) (hc : w.cell? ⟨b, o, none⟩ = some v) : w1.cell? ⟨b, o, none⟩ = some v :=
  (h.cell (p := ⟨b, o, none⟩) hb).trans hc
section
variable {w : World} {b q s : Nat} {K N W : Int} {ps xs : List Int} {v : Value} {wx : World}
theorem PS.keep (h : PS w b q K N W s ps xs v wx) {wy : World} (k : But [] wx wy) : PS w b q K N W s ps xs v wy :=
  ⟨h.pt.keep0 k, h.que.keep0 k, below_but h.bel k (by simp) (by have := h.pt.lt; omega), cell_keep h.k k (by simp), cell_keep h.n k (by simp), cell_keep h.w k (by simp), h.lt, h.ne⟩
theorem PS.drew (h : PS w b q K N W s ps xs v wx) : PS w b q K N W s ps xs v wx.drew := h.keep (But.refl [] wx).drew
/-- The port alone turns. -/
theorem PS.put (h : PS w b q K N W s ps xs v wx) {wy : World} {s' : Nat} {ps' : List Int} (hp : PtAt wy b 0 s' ps') (k : But [b] wx wy) : PS w b q K N W s' ps' xs v wy :=
  ⟨hp, h.que.keep k (fun i hi => by have := (h.que.lt i hi).1; simp; omega), below_but h.bel k (by simp) (by have := h.pt.lt; omega), cell_keep h.k k (by have := h.lt; simp; omega), cell_keep h.n k (by have := h.lt; simp; omega), cell_keep h.w k (by have := h.lt; simp; omega), h.lt, h.ne⟩
theorem ps_new (hp : PtAt wx b 0 s ps) (hq : Que wx (b + 1) 1 v xs.length (xs.map (Value.int .u32))) (hb : Below b w wx) (t : TypeId) :
    PS w b wx.heap.size K N W s ps xs v (wx.alloc (.cells #[.int .i64 K, .int .i64 N, .int .u32 W] t)) :=
  ⟨hp.keep0 ((But.refl [] wx).alloc _), hq.keep0 ((But.refl [] wx).alloc _), below_but hb ((But.refl [] wx).alloc _) (by simp) (by have := hp.lt; omega), by simp, by simp, by simp, hp.lt, fun k hk => by have := (hq.lt k hk).2; omega⟩
/-- The list alone turns. -/
theorem PS.list (h : PS w b q K N W s ps xs v wx) {wy : World} {xs' : List Int} {v' : Value} (hq : Que wy (b + 1) 1 v' xs'.length (xs'.map (Value.int .u32))) (k : But v.ownBlock.toList wx wy) (hn : v'.ownBlock = v.ownBlock ∨ v'.ownBlock = some wx.heap.size) :
    PS w b q K N W s ps xs' v' wy :=
  have hb : b ∉ v.ownBlock.toList := fun hm => by have := (h.que.lt b hm).1; omega
  have hqn : q ∉ v.ownBlock.toList := fun hm => h.ne q hm rfl
  have hql : q < wx.heap.size := lt_of_cell h.k
  ⟨h.pt.keep k hb, hq, below_but h.bel k (fun i hi => by have := (h.que.lt i hi).1; omega) (by have := h.pt.lt; omega), cell_keep h.k k hqn, cell_keep h.n k hqn, cell_keep h.w k hqn, h.lt, fun i hi e => by
    rcases hn with h1 | h1
    · rw [h1] at hi; exact h.ne i hi e
    · rw [h1] at hi; simp at hi; omega⟩
theorem PS.none (h : PS w b q K N W s ps xs v wx) : PS w b q K N W s ps [] (.slice none 0 0) wx :=
  ⟨h.pt, Que.nil _ _ _, h.bel, h.k, h.n, h.w, h.lt, fun k hk => by simp [Value.ownBlock] at hk⟩
theorem PS.tail {x : Int} (h : PS w b q K N W s ps (x :: xs) v wx) :
    ∃ v', (Instr.sliceAt 28 v (some (.int .i64 1)) .none .none).run Try.prog wx = .ok v' wx ∧ PS w b q K N W s ps xs v' wx := by
  obtain ⟨v', hr, hq, ho⟩ := Que.tail (P := Try.prog) (t := 28) (n := xs.length) (x := .int .u32 x) (xs := xs.map (Value.int .u32)) (by simpa using h.que) (by kernel_rfl) (by kernel_rfl)
  exact ⟨v', hr, h.pt, hq, h.bel, h.k, h.n, h.w, h.lt, by rw [ho]; exact h.ne⟩
theorem PS.app {x : Value} {ys : List Int} (h : PS w b q K N W s ps xs v wx) (hs : Src Try.prog 1 28 x ys.length (ys.map (Value.int .u32)) wx) (hl : xs.length + ys.length ≤ 100000) :
    ∃ v' w', (Builtin.append_ #[28, 28] 28 #[v, x]).run Try.prog wx = .ok v' w' ∧ PS w b q K N W s ps (xs ++ ys) v' w' := by
  obtain ⟨i0, hi, hz0, hz1, hz2⟩ := info_parts Try.infoU32
  obtain ⟨v', w', hr, hq, hk, hn⟩ := run_append_que (P := Try.prog) wx (b + 1) 28 28 24 i0 (.int .u32 0) 1 4 Try.underlying28 hi hz0 hz1 hz2 rfl (by decide) v xs.length _ h.que x ys.length _ hs (by unfold maxLen; omega) (by omega) (by have := h.pt.lt; omega)
  refine ⟨v', w', hr, h.list ?_ hk hn⟩
  rw [List.length_append, List.map_append]
  exact hq
theorem send_s (h : PS w b q K N W s ps xs v wx) (x : Int) (hx : ps.length < 64) :
    Calls Try.prog 6 #[.pointer (some ⟨b, 0, .none⟩), .int .u32 x] wx fun e w' => e = .returned (.bool true) ∧ PS w b q K N W s (ps ++ [x]) xs v w' :=
  (send_c b 0 s x ps wx h.pt hx).mono fun e w' h' => ⟨h'.1, h.put h'.2.1 h'.2.2⟩
theorem send_ns (h : PS w b q K N W s ps xs v wx) (x : Int) (hx : ps.length = 64) :
    Calls Try.prog 6 #[.pointer (some ⟨b, 0, .none⟩), .int .u32 x] wx fun e w' => e = .returned (.bool false) ∧ PS w b q K N W s ps xs v w' :=
  (send_no b 0 s x ps wx h.pt hx).mono fun e w' h' => ⟨h'.1, by rw [h'.2]; exact h⟩
theorem receive_s {x : Int} (h : PS w b q K N W s (x :: ps) xs v wx) :
    Calls Try.prog 7 #[.pointer (some ⟨b, 0, .none⟩)] wx fun e w' => e = .returned (.tuple #[.int .u32 x, .bool true]) ∧ PS w b q K N W ((s + 1) % 64) ps xs v w' :=
  (receive_c b 0 s x ps wx h.pt).mono fun e w' h' => ⟨h'.1, h.put h'.2.1 h'.2.2⟩
theorem receive_ns (h : PS w b q K N W s [] xs v wx) :
    Calls Try.prog 7 #[.pointer (some ⟨b, 0, .none⟩)] wx fun e w' => e = .returned (.tuple #[.int .u32 0, .bool false]) ∧ PS w b q K N W s [] xs v w' :=
  (receive_no b 0 s wx h.pt).mono fun e w' h' => ⟨h'.1, by rw [h'.2]; exact h⟩
theorem clear_s (h : PS w b q K N W s ps xs v wx) :
    Calls Try.prog 9 #[.pointer (some ⟨b, 0, .none⟩)] wx fun e w' => e = .returned (.int .i64 ps.length) ∧ PS w b q K N W 0 [] xs v w' :=
  (clear_c b 0 s ps wx h.pt).mono fun e w' h' => ⟨h'.1, h.put h'.2.1 h'.2.2⟩
/-- At a round's ends. -/
structure P0 (w : World) (b s : Nat) (xs : List Int) (v : Value) (wx : World) : Prop where
  pt : PtAt wx b 0 s xs
  que : Que wx (b + 1) 1 v xs.length (xs.map (Value.int .u32))
  bel : Below b w wx
theorem PS.p0 (h : PS w b q K N W s xs xs v wx) : P0 w b s xs v wx := ⟨h.pt, h.que, h.bel⟩
theorem P0.keep (h : P0 w b s xs v wx) {wy : World} (k : But [] wx wy) : P0 w b s xs v wy := ⟨h.pt.keep0 k, h.que.keep0 k, below_but h.bel k (by simp) (by have := h.pt.lt; omega)⟩
theorem P0.new (h : P0 w b s xs v wx) (t : TypeId) : PS w b wx.heap.size K N W s xs xs v (wx.alloc (.cells #[.int .i64 K, .int .i64 N, .int .u32 W] t)) := ps_new h.pt h.que h.bel t
theorem PS.form (h : PS w b q K N W s ps xs v wx) : ∃ A c, v = .slice A xs.length c ∧ xs.length ≤ c := h.que.form
theorem Que.rd {base n : Nat} {v : Value} {xs : List Int} (h : Que wx base 1 v n (xs.map (Value.int .u32))) : n = xs.length ∧ ∃ A c, v = .slice A n c ∧ Rd .u32 wx base wx.heap.size A xs := by
  have hn : n = xs.length := by have := h.1; simp at this; omega
  refine ⟨hn, ?_⟩
  rcases h.2 with ⟨rfl, rfl⟩ | ⟨g, off, cap, rfl, hb, hg, hnc, hcm, hth, hr⟩
  · exact ⟨_, _, rfl, .inl (List.eq_nil_of_length_eq_zero hn.symm)⟩
  · exact ⟨_, _, rfl, .inr ⟨g, off, rfl, hb, hg, fun j hj => hr j _ (by simp [List.getD, hj])⟩⟩
/-- One more element behind a row, which lies in a box of its own. -/
theorem que_app1 {base n : Nat} {v : Value} {xs : List Value} (h : Que wx base 1 v n xs) (x : Int) (hb : base ≤ wx.heap.size) (hn : n ≤ 100000) :
    ∃ A' c' w', (Builtin.append_ #[28, 28] 28 #[v, .slice (some ⟨wx.heap.size, 0, .none⟩) 1 1]).run Try.prog (wx.alloc (.cells #[.int .u32 x] 24)) = .ok (.slice A' (n + 1) c') w' ∧
      Que w' base 1 (.slice A' (n + 1) c') (n + 1) (xs ++ [.int .u32 x]) ∧ But v.ownBlock.toList wx w' := by
  obtain ⟨i0, hi, hz0, hz1, hz2⟩ := info_parts Try.infoU32
  obtain ⟨v', w', hr, hq, hk, _⟩ := run_append_que (P := Try.prog) (wx.alloc (.cells #[.int .u32 x] 24)) base 28 28 24 i0 (.int .u32 0) 1 4 Try.underlying28 hi hz0 hz1 hz2 rfl (by decide) v n _ (h.keep0 ((But.refl [] wx).alloc _)) (.slice (some ⟨wx.heap.size, 0, .none⟩) 1 1) 1 [.int .u32 x]
    (Src.ofSlice _ Try.underlying28 ⟨wx.heap.size, 0, .none⟩ 1 1 _ rfl (cell_one_new _ _ _) (one_int _ _)) (by unfold maxLen; omega) (by omega) (by simp; omega)
  obtain ⟨A', c', rfl, _⟩ := hq.form
  exact ⟨A', c', w', hr, hq, ((But.refl _ wx).alloc _).trans hk⟩
theorem but_own {l : List Nat} {u w1 w2 : World} (h : But [] u w1) (k : But l w1 w2) (hl : ∀ i, i ∈ l → u.heap.size ≤ i) : But [] u w2 :=
  ((h.any l).trans k).strike (fun i hi hlt => by have := hl i hi; omega)
end
end Go.Proofs.Ytlpibbbjmmoifaa.Pt
