/-
  Layer 8 (disk): data, writes that wait, disks, plainly; how a disk lies in the machine's memory.
-/
import Derived.Test.YtnjnplepecmfaaaBut
import Derived.Test.YtnjnplepecmfaaaMem
import Derived.Deep.AppendLies
import Derived.Great.BuildSlice
namespace Go.Proofs.Ytnjnplepecmfaaa.Dk
open Go.ChangeShapes Go.WideShapes Go.ChangeAt Go.RowKit
set_option linter.unusedVariables false
set_option maxRecDepth 20000

/-- What a block holds: its bytes by their places. -/
abbrev Dat := Nat → Int
def d0 : Dat := fun _ => 0
/-- A block's cells. -/
def dv (x : Dat) : List Value := (List.range 64).map fun j => Value.int .u8 (x j)
theorem dv_len (x : Dat) : (dv x).length = 64 := by simp [dv]
theorem dv_get (x : Dat) (j : Nat) (h : j < 64) : (dv x)[j]? = some (.int .u8 (x j)) := by simp [dv, h]
theorem dv_one (x : Dat) : ∀ v ∈ dv x, v.oneCell' = true := by
  intro v hv
  simp only [dv, List.mem_map] at hv
  obtain ⟨i, _, rfl⟩ := hv
  rfl
theorem dv_all (x : Dat) : (dv x).toArray.all (·.oneCell') = true := all_oneCell_toArray (dv_one x)
/-- A write: its block, its data. -/
abbrev Wr := Nat × Dat
def w0 : Wr := (0, d0)
def wv (p : Wr) : List Value := Value.int .i64 (p.1 : Int) :: dv p.2
theorem wv_len (p : Wr) : (wv p).length = 65 := by simp [wv, dv_len]
theorem wv_one (p : Wr) : ∀ v ∈ wv p, v.oneCell' = true := by
  intro v hv
  simp only [wv, List.mem_cons] at hv
  rcases hv with rfl | hv
  · rfl
  · exact dv_one _ v hv
theorem wv_all (p : Wr) : (wv p).toArray.all (·.oneCell') = true := all_oneCell_toArray (wv_one p)
/-- The cells of writes, one behind the other. -/
def cat (W : List Wr) : List Value := W.flatMap wv
theorem cat_len (W : List Wr) : (cat W).length = W.length * 65 := by
  induction W with
  | nil => rfl
  | cons e l ih =>
    have : (cat (e :: l)).length = 65 + (cat l).length := by simp [cat, wv_len]
    rw [this, ih, List.length_cons]; omega
theorem cat_get : ∀ (W : List Wr) (i j : Nat), i < W.length → j < 65 → (cat W)[i * 65 + j]? = (wv (W.getD i w0))[j]?
  | e :: l, 0, j, _, hj => by
    show (wv e ++ cat l)[0 * 65 + j]? = (wv e)[j]?
    rw [Nat.zero_mul, Nat.zero_add, List.getElem?_append_left (by rw [wv_len]; exact hj)]
  | e :: l, i + 1, j, hi, hj => by
    show (wv e ++ cat l)[(i + 1) * 65 + j]? = (wv (l.getD i w0))[j]?
    rw [List.getElem?_append_right (by rw [wv_len]; omega), show (i + 1) * 65 + j - (wv e).length = i * 65 + j by rw [wv_len]; omega]
    exact cat_get l i j (by simpa using hi) hj
theorem cat_snoc (W : List Wr) (p : Wr) : cat (W ++ [p]) = cat W ++ wv p := by simp [cat]
theorem cat_one (W : List Wr) : ∀ v ∈ cat W, v.oneCell' = true := by
  intro v hv
  simp only [cat, List.mem_flatMap] at hv
  obtain ⟨e, _, he⟩ := hv
  exact wv_one e v he

/-- One block is another one. -/
def upd (L : Nat → Dat) (k : Nat) (x : Dat) : Nat → Dat := fun j => if j = k then x else L j
/-- Writes last, in order. -/
def setAll (L : Nat → Dat) (W : List Wr) : Nat → Dat := W.foldl (fun L p => upd L p.1 p.2) L
theorem setAll_nil (L : Nat → Dat) : setAll L [] = L := rfl
theorem setAll_snoc (L : Nat → Dat) (W : List Wr) (p : Wr) : setAll L (W ++ [p]) = upd (setAll L W) p.1 p.2 := by simp [setAll]
theorem setAll_app (L : Nat → Dat) (W V : List Wr) : setAll L (W ++ V) = setAll (setAll L W) V := by simp [setAll]
theorem setAll_none (k : Nat) : ∀ (W : List Wr) (L : Nat → Dat), (∀ p ∈ W, p.1 ≠ k) → setAll L W k = L k
  | [], _, _ => rfl
  | p :: W, L, h => by
    show setAll (upd L p.1 p.2) W k = L k
    rw [setAll_none k W _ (fun q hq => h q (by simp [hq]))]
    unfold upd
    rw [if_neg (fun e => h p (by simp) e.symm)]
/-- The last write of a block is what is read. -/
theorem setAll_last (L : Nat → Dat) (W V : List Wr) (p : Wr) (h : ∀ q ∈ V, q.1 ≠ p.1) : setAll L (W ++ p :: V) p.1 = p.2 := by
  rw [show W ++ p :: V = (W ++ [p]) ++ V by simp, setAll_app, setAll_none p.1 V _ h, setAll_snoc]
  simp [upd]
/-- What is read is what lasts, or one of the writes. -/
theorem setAll_or (k : Nat) : ∀ (W : List Wr) (L : Nat → Dat), setAll L W k = L k ∨ ∃ p ∈ W, p.1 = k ∧ setAll L W k = p.2
  | [], _ => .inl rfl
  | p :: W, L => by
    show setAll (upd L p.1 p.2) W k = L k ∨ _
    rcases setAll_or k W (upd L p.1 p.2) with h | ⟨q, hq, h1, h2⟩
    · by_cases e : k = p.1
      · right
        refine ⟨p, by simp, e.symm, ?_⟩
        show setAll (upd L p.1 p.2) W k = _
        rw [h]
        simp [upd, e]
      · left
        rw [h]
        simp [upd, e]
    · exact .inr ⟨q, by simp [hq], h1, h2⟩
theorem take_snoc (l : List Wr) (k : Nat) (hk : k < l.length) : l.take (k + 1) = l.take k ++ [l.getD k w0] := by
  rw [List.take_add_one, List.getElem?_eq_getElem hk]
  simp [List.getD, hk]

theorem getD_mem {W : List Wr} {k : Nat} (hk : k < W.length) : W.getD k w0 ∈ W := by
  rw [List.getD_eq_getElem?_getD, List.getElem?_eq_getElem hk]
  exact List.getElem_mem hk

/-- The slice that begins at A holds these writes, one behind the other. -/
def Ws (w : World) (lo : Nat) (A : Option Addr) (W : List Wr) : Prop :=
  W = [] ∨ ∃ g, A = some ⟨g, 0, none⟩ ∧ lo ≤ g ∧ g < w.heap.size ∧ ∀ i, i < W.length → w.rangeAt g (i * 65) (wv (W.getD i w0))
theorem Ws.keep {l : List Nat} {w w' : World} {lo : Nat} {A : Option Addr} {W : List Wr} (h : Ws w lo A W) (hk : But l w w') (hn : ∀ g, A = some ⟨g, 0, none⟩ → g ∉ l) : Ws w' lo A W := by
  rcases h with h | ⟨g, e, h1, h2, h3⟩
  · exact .inl h
  · exact .inr ⟨g, e, h1, Nat.lt_of_lt_of_le h2 hk.size, fun i hi => range_keep (h3 i hi) hk (hn g e)⟩
theorem Ws.at_ {w : World} {lo : Nat} {A : Option Addr} {W : List Wr} (h : Ws w lo A W) {k : Nat} (hk : k < W.length) :
    ∃ g, A = some ⟨g, 0, none⟩ ∧ lo ≤ g ∧ g < w.heap.size ∧ ∀ i, i < W.length → w.rangeAt g (i * 65) (wv (W.getD i w0)) := by
  rcases h with h | h
  · subst h; simp at hk
  · exact h
/-- A row of the call's own that holds writes: its slice. -/
theorem Ws.of_own {w : World} {base : Nat} {e : TypeId} {v : Value} {W : List Wr} (h : w.ownsRow base e 65 v W.length (cat W)) :
    ∃ A c, v = .slice A W.length c ∧ W.length ≤ c ∧ c ≤ maxLen ∧ Ws w base A W ∧ (∀ g, A = some ⟨g, 0, none⟩ → v.ownBlock = some g) := by
  obtain ⟨hl, h | ⟨g, cap, cur, rfl, hg, hh, hnc, hcm, hsz, htk⟩⟩ := h
  · obtain ⟨rfl, hn⟩ := h
    have : W = [] := List.eq_nil_of_length_eq_zero hn
    subst this
    exact ⟨none, 0, rfl, Nat.le_refl _, Nat.zero_le _, .inl rfl, fun g e => by cases e⟩
  · refine ⟨_, cap, rfl, hnc, hcm, .inr ⟨g, rfl, hg, ?_, fun i hi j v hv => ?_⟩, fun k e => by injection e with e; injection e with e; subst e; rfl⟩
    · rcases Nat.lt_or_ge g w.heap.size with hlt | hge
      · exact hlt
      · rw [Array.getElem?_eq_none hge] at hh; cases hh
    · have hj : j < 65 := by have := (List.getElem?_eq_some_iff.1 hv).1; rwa [wv_len] at this
      have hv2 := cat_get W i j hi hj
      rw [hv, ← htk, List.getElem?_take] at hv2
      split at hv2
      · simp only [World.cell?, hh]
        simpa using hv2
      · cases hv2
theorem own_lt {w : World} {base n size : Nat} {e : TypeId} {v : Value} {xs : List Value} (h : w.ownsRow base e size v n xs) {g : Nat} (hg : v.ownBlock = some g) : base ≤ g ∧ g < w.heap.size := by
  obtain ⟨hl, h | ⟨g', cap, cur, rfl, hb, hh, _⟩⟩ := h
  · obtain ⟨rfl, _⟩ := h
    cases hg
  · obtain rfl : g' = g := by simpa [Value.ownBlock] using hg
    refine ⟨hb, ?_⟩
    rcases Nat.lt_or_ge g' w.heap.size with hlt | hge
    · exact hlt
    · rw [Array.getElem?_eq_none hge] at hh; cases hh
theorem own_keep {l : List Nat} {w w' : World} {base n size : Nat} {e : TypeId} {v : Value} {xs : List Value} (h : w.ownsRow base e size v n xs) (hk : But l w w') (hn : ∀ g, v.ownBlock = some g → g ∉ l) : w'.ownsRow base e size v n xs := by
  have hlt := fun g => own_lt h (g := g)
  obtain ⟨hl, h | ⟨g, cap, cur, rfl, hb, hh, hr⟩⟩ := h
  · exact ⟨hl, .inl h⟩
  · exact ⟨hl, .inr ⟨g, cap, cur, rfl, hb, (hk.block g (hlt g rfl).2 (hn g rfl)).trans hh, hr⟩⟩
theorem own_base {w : World} {B B' n size : Nat} {e : TypeId} {v : Value} {xs : List Value} (h : w.ownsRow B e size v n xs) (hB : B' ≤ B) : w.ownsRow B' e size v n xs := by
  obtain ⟨hl, h | ⟨g, cap, cur, rfl, hg, hr⟩⟩ := h
  · exact ⟨hl, .inl h⟩
  · exact ⟨hl, .inr ⟨g, cap, cur, rfl, Nat.le_trans hB hg, hr⟩⟩

/-- A disk's two cells. -/
def hdF (bl n cl : Nat) (v : Value) : Nat → Value := fun j => if j = 0 then .slice (some ⟨bl, 0, none⟩) n cl else v
/-- The cells of what lasts. -/
def rwF (L : Nat → Dat) : Nat → Value := fun j => .int .u8 (L (j / 64) (j % 64))
/-- Block b is a disk of n blocks: L is what lasts (it lies in block bl), W what waits (the slice v holds it). tw: the type of a write that waits. All its memory lies from lo on. -/
structure DkAt (tw : TypeId) (w : World) (lo b bl cl n : Nat) (v : Value) (L : Nat → Dat) (W : List Wr) : Prop where
  lob : lo ≤ b
  lol : lo ≤ bl
  ne : b ≠ bl
  hd : VB w b 2 (hdF bl n cl v)
  rows : VB w bl (64 * n) (rwF L)
  own : w.ownsRow lo tw 65 v W.length (cat W)
  vne : ∀ g, v.ownBlock = some g → g ≠ b ∧ g ≠ bl
  inn : ∀ p ∈ W, p.1 < n
  pos : 0 < n
  most : n ≤ 512
/-- The blocks of a disk. -/
def fp (b bl : Nat) (v : Value) : List Nat := b :: bl :: v.ownBlock.toList
theorem mem_fp {b bl k : Nat} {v : Value} (h : k ∈ fp b bl v) : k = b ∨ k = bl ∨ v.ownBlock = some k := by
  simp only [fp, List.mem_cons, Option.mem_toList] at h
  exact h
theorem fp_b {b bl : Nat} {v : Value} : b ∈ fp b bl v := by simp [fp]
theorem fp_bl {b bl : Nat} {v : Value} : bl ∈ fp b bl v := by simp [fp]
theorem fp_v {b bl g : Nat} {v : Value} (h : v.ownBlock = some g) : g ∈ fp b bl v := by simp [fp, h]
section
variable {tw : TypeId} {w w' : World} {lo b bl cl n : Nat} {v : Value} {L : Nat → Dat} {W : List Wr}
theorem DkAt.lt (h : DkAt tw w lo b bl cl n v L W) {k : Nat} (hk : k ∈ fp b bl v) : k < w.heap.size := by
  rcases mem_fp hk with rfl | rfl | hv
  · exact h.hd.lt (by omega)
  · exact h.rows.lt (by have := h.pos; omega)
  · exact (own_lt h.own hv).2
theorem DkAt.low (h : DkAt tw w lo b bl cl n v L W) {k : Nat} (hk : k ∈ fp b bl v) : lo ≤ k := by
  rcases mem_fp hk with rfl | rfl | hv
  · exact h.lob
  · exact h.lol
  · exact (own_lt h.own hv).1
theorem DkAt.keep (h : DkAt tw w lo b bl cl n v L W) {l : List Nat} (hk : But l w w') (hn : ∀ k ∈ fp b bl v, k ∉ l) : DkAt tw w' lo b bl cl n v L W :=
  ⟨h.lob, h.lol, h.ne, h.hd.keep hk (hn _ fp_b), h.rows.keep hk (hn _ fp_bl), own_keep h.own hk (fun g hg => hn _ (fp_v hg)), h.vne, h.inn, h.pos, h.most⟩
theorem DkAt.keep0 (h : DkAt tw w lo b bl cl n v L W) (hk : But [] w w') : DkAt tw w' lo b bl cl n v L W := h.keep hk (by simp)
theorem DkAt.c0 (h : DkAt tw w lo b bl cl n v L W) : w.cell? ⟨b, 0, none⟩ = some (.slice (some ⟨bl, 0, none⟩) n cl) := (h.hd 0 (by omega)).1
theorem DkAt.c1 (h : DkAt tw w lo b bl cl n v L W) : w.cell? ⟨b, 1, none⟩ = some v := (h.hd 1 (by omega)).1
theorem DkAt.f0 (h : DkAt tw w lo b bl cl n v L W) : w.frozen? ⟨b, 0, none⟩ = false := (h.hd 0 (by omega)).2
theorem DkAt.f1 (h : DkAt tw w lo b bl cl n v L W) : w.frozen? ⟨b, 1, none⟩ = false := (h.hd 1 (by omega)).2
theorem DkAt.row (h : DkAt tw w lo b bl cl n v L W) {k : Nat} (hk : k < n) : w.rangeAt bl (k * 64) (dv (L k)) :=
  h.rows.range (dv (L k)) (by rw [dv_len]; omega) (fun i hi => by
    rw [dv_len] at hi
    rw [dv_get _ _ hi]
    unfold rwF
    rw [show (k * 64 + i) / 64 = k by omega, show (k * 64 + i) % 64 = i by omega])
theorem DkAt.there (h : DkAt tw w lo b bl cl n v L W) {k : Nat} (hk : k < n) : w.there bl (k * 64) 64 := h.rows.there (by omega)
theorem DkAt.ws (h : DkAt tw w lo b bl cl n v L W) : ∃ A c, v = .slice A W.length c ∧ W.length ≤ c ∧ c ≤ maxLen ∧ Ws w lo A W ∧ (∀ g, A = some ⟨g, 0, none⟩ → v.ownBlock = some g) := Ws.of_own h.own
theorem rows_set (h : VB w bl (64 * n) (rwF L)) {k : Nat} (hk : k < n) (x : Dat) : VB (w.setCells bl (k * 64) (dv x)) bl (64 * n) (rwF (upd L k x)) :=
  VB.congr (h.sets (dv x) (by rw [dv_len]; omega)) (fun j hj => by
    show (if k * 64 ≤ j ∧ j < k * 64 + (dv x).length then (dv x).getD (j - k * 64) undef else rwF L j) = rwF (upd L k x) j
    rw [dv_len]
    by_cases e : k * 64 ≤ j ∧ j < k * 64 + 64
    · rw [if_pos e, List.getD_eq_getElem?_getD, dv_get _ _ (by omega)]
      unfold rwF upd
      rw [show j / 64 = k by omega, if_pos rfl, show j % 64 = j - k * 64 by omega]
      rfl
    · rw [if_neg e]
      unfold rwF upd
      rw [if_neg (by omega)])
/-- One block lasts anew. -/
theorem DkAt.put (h : DkAt tw w lo b bl cl n v L W) {k : Nat} (hk : k < n) (x : Dat) : DkAt tw (w.setCells bl (k * 64) (dv x)) lo b bl cl n v (upd L k x) W :=
  have hB : But [bl] w (w.setCells bl (k * 64) (dv x)) := (But.refl _ _).setCells (by simp) _ _
  ⟨h.lob, h.lol, h.ne, h.hd.keep hB (by simpa using h.ne), rows_set h.rows hk x, own_keep h.own hB (fun g hg => by have := (h.vne g hg).2; simpa using this), h.vne, h.inn, h.pos, h.most⟩
/-- Other writes wait. -/
theorem DkAt.turn (h : DkAt tw w lo b bl cl n v L W) {v' : Value} {W' : List Wr} (ho : w.ownsRow lo tw 65 v' W'.length (cat W')) (hn : ∀ g, v'.ownBlock = some g → g ≠ b ∧ g ≠ bl) (hi : ∀ p ∈ W', p.1 < n) :
    DkAt tw (w.setCell ⟨b, 1, none⟩ v') lo b bl cl n v' L W' :=
  have hB : But [b] w (w.setCell ⟨b, 1, none⟩ v') := (But.refl _ _).setCell (by simp) _
  ⟨h.lob, h.lol, h.ne, VB.congr (h.hd.set (k := 1) v') (fun j hj => by
      show (if j = 1 then v' else hdF bl n cl v j) = hdF bl n cl v' j
      unfold hdF
      have : j = 0 ∨ j = 1 := by omega
      rcases this with rfl | rfl <;> simp), h.rows.keep hB (by simpa using fun e => h.ne e.symm), own_keep ho hB (fun g hg => by have := (hn g hg).1; simpa using this), hn, hi, h.pos, h.most⟩
end
theorem own_nil (w : World) (lo : Nat) (tw : TypeId) : w.ownsRow lo tw 65 (.slice none 0 0) ([] : List Wr).length (cat []) := World.ownsRow_nil w lo tw 65

/-- A block that is laid whole into one that was made just ahead of it. -/
theorem setCells_new (w : World) (z : Array Value) (t : TypeId) (cs : List Value) (hz : z.size = cs.length) : (w.alloc (.cells z t)).setCells w.heap.size 0 cs = w.alloc (.cells cs.toArray t) := by
  have key : ∀ (cs : List Value) (o : Nat) (z : Array Value), o + cs.length ≤ z.size → (w.alloc (.cells z t)).setCells w.heap.size o cs = w.alloc (.cells (z.toList.take o ++ cs ++ z.toList.drop (o + cs.length)).toArray t) := by
    intro cs
    induction cs with
    | nil => intro o z _; simp [World.setCells]
    | cons c cs ih =>
      intro o z hz
      show ((w.alloc (.cells z t)).setCell ⟨w.heap.size, o, none⟩ c).setCells w.heap.size (o + 1) cs = _
      rw [World.setCell_alloc_new, ih (o + 1) _ (by simp at hz ⊢; omega)]
      congr 2
      have hlt : o < z.toList.length := by simp at hz ⊢; omega
      have e1 : (z.toList.set o c).take (o + 1) = z.toList.take o ++ [c] := by
        rw [List.take_add_one, List.getElem?_set_self hlt, List.take_set_of_le (Nat.le_refl _)]
        rfl
      have e2 : (z.toList.set o c).drop (o + 1 + cs.length) = z.toList.drop (o + (c :: cs).length) := by
        rw [List.drop_set_of_lt (by omega)]
        simp [Nat.add_assoc, Nat.add_comm 1]
      rw [Array.toList_setIfInBounds, e1, e2]
      simp
  rw [key cs 0 z (by omega)]
  congr 2
  rw [List.drop_of_length_le (by simp; omega)]
  simp
/-- The store of a whole struct or array into a box that was made just ahead of it. -/
theorem wpList_store_new {P : Program} {ops : Array Oper} {rest : List Oper} {o : Oper} {a : Act} {w : World} {Q : Exit → Act → World → Prop} (hgd : o.guard = none) (ty : TypeId) (x y : Operand) (ho : o.op = .store ty x y)
    (z cs : Array Value) (hx : a.eval x = .pointer (some ⟨w.heap.size, 0, none⟩)) (hy : a.eval y = .agg cs) (hi : (P.info? ty).map (·.size) = some cs.size) (hz : z.size = cs.size) (h1 : cs.all (·.oneCell') = true)
    (h : wpList P ops Q rest (a.put o.dst undef) (w.alloc (.cells cs ty))) : wpList P ops Q (o :: rest) a (w.alloc (.cells z ty)) :=
  wpList_plain hgd fun _ hK => by
    unfold Oper.wp execOp
    simp only [ho, hx, hy, Sem.run_bind, run_storeAt_new w ty z cs hi hz h1, Result.andThen_ok]
    exact hK _ _ h
theorem info_parts {P : Program} {t : TypeId} {z : Value} {s b : Nat} (h : (P.info? t).map (fun i => (i.zero, i.size, i.bytes)) = some (some z, s, b)) : ∃ i, P.info? t = some i ∧ i.zero = some z ∧ i.size = s ∧ i.bytes = b := by
  cases hq : P.info? t with
  | none => simp [hq] at h
  | some i =>
    simp [hq] at h
    exact ⟨i, rfl, h.1, h.2.1, h.2.2⟩
/-- A write is put behind those that wait: in a plain region. -/
theorem push_plain {P : Program} (w : World) {ops : Array Oper} {rest : List Oper} {o : Oper} {a : Act} {Q : Exit → Act → World → Prop} (hgd : o.guard = none) (s x : Operand) (t : TypeId)
    (ho : o.op = .call { callee := .builtin .append, args := #[s, x], argTypes := #[t, t] }) (tw : TypeId) (ht : P.underlying t = some (.slice tw))
    (hinf : (P.info? tw).map (fun i => (i.zero, i.size, i.bytes)) = some (some (.agg (wv w0).toArray), 65, 72)) (lo : Nat) (v : Value) (W : List Wr) (hs : a.eval s = v) (hown : w.ownsRow lo tw 65 v W.length (cat W))
    (B : Nat) (p : Wr) (hx : a.eval x = .slice (some ⟨B, 0, none⟩) 1 1) (hB : w.rangeAt B 0 (wv p)) (hW : W.length ≤ 1000) (hlo : lo ≤ w.heap.size)
    (h : ∀ g cap w', w'.ownsRow lo tw 65 (.slice (some ⟨g, 0, none⟩) (W.length + 1) cap) (W ++ [p]).length (cat (W ++ [p])) → w.grownBy w' v.ownBlock → (v.ownBlock = some g ∨ g = w.heap.size) → wpList P ops Q rest (a.put o.dst (.slice (some ⟨g, 0, none⟩) (W.length + 1) cap)) w') :
    wpList P ops Q (o :: rest) a w := by
  obtain ⟨i, hi, hz, hsz, hby⟩ := info_parts hinf
  refine wpList_append_lies w hgd s x t ho lo tw i _ 65 72 ht hi hz hsz hby (by simp [Value.cells, wv_len]) (by omega) v W.length (cat W) hs hown ⟨B, 0, none⟩ 1 1 (wv p) hx (by rw [wv_len]) (fun j u hu => by rw [Addr.add_mid]; exact hB j u hu) (wv_one p) (by omega) (by unfold maxLen; omega) (by omega) hlo _ rfl ?_
  intro g cap w' h1 h2 h3 h4
  refine h g cap w' ?_ h2 h3
  rw [cat_snoc, List.length_append]
  exact h1
/-- A write is put behind those that wait: at an operation. -/
theorem push_wp {P : Program} (w : World) {o : Oper} {a : Act} {K : Act → World → Prop} {Q : Exit → Act → World → Prop} (s x : Operand) (t : TypeId)
    (ho : o.op = .call { callee := .builtin .append, args := #[s, x], argTypes := #[t, t] }) (d : Option Tmp) (hd : o.dst = d) (tw : TypeId) (ht : P.underlying t = some (.slice tw))
    (hinf : (P.info? tw).map (fun i => (i.zero, i.size, i.bytes)) = some (some (.agg (wv w0).toArray), 65, 72)) (lo : Nat) (v : Value) (W : List Wr) (hs : a.eval s = v) (hown : w.ownsRow lo tw 65 v W.length (cat W))
    (B : Nat) (p : Wr) (hx : a.eval x = .slice (some ⟨B, 0, none⟩) 1 1) (hB : w.rangeAt B 0 (wv p)) (hW : W.length ≤ 1000) (hlo : lo ≤ w.heap.size)
    (h : ∀ g cap w', w'.ownsRow lo tw 65 (.slice (some ⟨g, 0, none⟩) (W.length + 1) cap) (W ++ [p]).length (cat (W ++ [p])) → w.grownBy w' v.ownBlock → (v.ownBlock = some g ∨ g = w.heap.size) → K (a.put d (.slice (some ⟨g, 0, none⟩) (W.length + 1) cap)) w') :
    o.wp P a w K Q := by
  subst hd
  obtain ⟨i, hi, hz, hsz, hby⟩ := info_parts hinf
  refine wp_append_lies w s x t ho lo tw i _ 65 72 ht hi hz hsz hby (by simp [Value.cells, wv_len]) (by omega) v W.length (cat W) hs hown ⟨B, 0, none⟩ 1 1 (wv p) hx (by rw [wv_len]) (fun j u hu => by rw [Addr.add_mid]; exact hB j u hu) (wv_one p) (by omega) (by unfold maxLen; omega) (by omega) hlo _ rfl ?_
  intro g cap w' h1 h2 h3 h4
  refine h g cap w' ?_ h2 h3
  rw [cat_snoc, List.length_append]
  exact h1
/-- The blocks that an append may have turned. -/
theorem But.of_grown {w w' : World} {v : Value} (h : w.grownBy w' v.ownBlock) : But v.ownBlock.toList w w' :=
  (But.refl _ w).grown h (fun k e => .inl (by simp [e]))
/-- In a region that draws: a struct that is built of what is known yields. -/
theorem yieldsIf_build {P : Program} {ops : Array Oper} {S : World → Prop} {op : Oper} {a : Act} (hw : Region.wanted op (yielded ops a.tmps) = true) (t : TypeId) (parts : List (Nat × Operand)) (ho : op.op = .build t parts.toArray)
    (cells : Array Value) (vals : List (Nat × Value)) (hv : (parts.map fun (i, x) => (i, a.eval x)) = vals) (hf : P.built t vals = some cells) : YieldsIf P ops S op (.agg cells) a :=
  .inl ⟨hw, fun w _ => by
    unfold execOp
    have e : (parts.toArray.map fun (i, x) => (i, a.eval x)).toList = parts.map fun (i, x) => (i, a.eval x) := by simp
    have hb := run_build (P := P) w t (parts.toArray.map fun (i, x) => (i, a.eval x)) cells (by rw [e, hv]; exact hf)
    simp only [ho, Sem.run_bind, hb, Result.andThen_ok, Sem.run_pure]⟩
/-- At an operation: a slice literal of one element, whose run is known. -/
theorem wp_lit1 {P : Program} {o : Oper} {a : Act} {w : World} {K : Act → World → Prop} {Q : Exit → Act → World → Prop} (t e : TypeId) (x : Operand) (ho : o.op = .buildSlice t 1 #[(0, x)]) (d : Option Tmp) (hd : o.dst = d) (cs : List Value) (hx : a.eval x = .agg cs.toArray)
    (hr : ∀ w, (Instr.buildSlice t 1 #[(0, .agg cs.toArray)]).run P w = .ok (.slice (some ⟨w.heap.size, 0, none⟩) 1 1) (w.alloc (.cells cs.toArray e)))
    (h : K (a.put d (.slice (some ⟨w.heap.size, 0, none⟩) 1 1)) (w.alloc (.cells cs.toArray e))) : o.wp P a w K Q := by
  subst hd
  unfold Oper.wp execOp
  simp only [ho, Sem.run_bind, List.map_toArray, List.map_cons, List.map_nil, hx, hr w, Result.andThen_ok]
  exact h
theorem wpList_lit1 {P : Program} {ops : Array Oper} {rest : List Oper} {o : Oper} {a : Act} {w : World} {Q : Exit → Act → World → Prop} (hg : o.guard = none) (t e : TypeId) (x : Operand) (ho : o.op = .buildSlice t 1 #[(0, x)]) (cs : List Value) (hx : a.eval x = .agg cs.toArray)
    (hr : ∀ w, (Instr.buildSlice t 1 #[(0, .agg cs.toArray)]).run P w = .ok (.slice (some ⟨w.heap.size, 0, none⟩) 1 1) (w.alloc (.cells cs.toArray e)))
    (h : wpList P ops Q rest (a.put o.dst (.slice (some ⟨w.heap.size, 0, none⟩) 1 1)) (w.alloc (.cells cs.toArray e))) : wpList P ops Q (o :: rest) a w :=
  wpList_plain hg fun _ hK => wp_lit1 t e x ho _ rfl cs hx hr (hK _ _ h)
theorem fold_get (z0 : Nat) : ∀ (cs : List Value) (n : Nat) (z : Array Value), z.size = z0 → (List.foldl (fun cs x => cs.setIfInBounds x.snd x.fst) z (cs.zipIdx n)).size = z0 ∧
    ∀ j, (List.foldl (fun cs x => cs.setIfInBounds x.snd x.fst) z (cs.zipIdx n))[j]? = if n ≤ j ∧ j < n + cs.length ∧ j < z0 then cs[j - n]? else z[j]?
  | [], n, z, hz => ⟨hz, fun j => by rw [if_neg (by simp; omega)]; rfl⟩
  | c :: cs, n, z, hz => by
    obtain ⟨h1, h2⟩ := fold_get z0 cs (n + 1) (z.setIfInBounds n c) (by simpa using hz)
    refine ⟨h1, fun j => ?_⟩
    show (List.foldl (fun cs x => cs.setIfInBounds x.snd x.fst) (z.setIfInBounds n c) (cs.zipIdx (n + 1)))[j]? = _
    rw [h2 j]
    by_cases e : n + 1 ≤ j ∧ j < n + 1 + cs.length ∧ j < z0
    · rw [if_pos e, if_pos (by simp; omega), show j - n = (j - (n + 1)) + 1 by omega]
      rfl
    · rw [if_neg e, Array.getElem?_setIfInBounds]
      by_cases e2 : n = j
      · subst e2
        by_cases e3 : n < z0
        · rw [if_pos rfl, if_pos (by omega), if_pos (by simp; omega)]
          simp
        · rw [if_pos rfl, if_neg (by omega), if_neg (by omega), Array.getElem?_eq_none (by omega)]
      · rw [if_neg e2, if_neg (by simp; simp at e; omega)]
theorem fold_full (cs : List Value) (z : Array Value) (hz : z.size = cs.length) : List.foldl (fun cs x => cs.setIfInBounds x.snd x.fst) z cs.zipIdx = cs.toArray := by
  obtain ⟨h1, h2⟩ := fold_get cs.length cs 0 z hz
  apply Array.ext_getElem?
  intro j
  rw [h2 j]
  by_cases e : j < cs.length
  · rw [if_pos (by omega)]
    simp
  · rw [if_neg (by omega), Array.getElem?_eq_none (by omega)]
    simp
    omega
theorem fold_wr (p : Wr) (z : Array Value) (hz : z.size = 65) : List.foldl (fun cs x => cs.setIfInBounds x.snd x.fst) z (wv p).zipIdx = (wv p).toArray := fold_full _ _ (by rw [wv_len]; exact hz)
theorem fold_build (k : Nat) (x : Dat) : List.foldl (fun cs x => cs.setIfInBounds (1 + x.snd) x.fst) ((wv w0).set 0 (Value.int .i64 ↑k)).toArray (dv x).zipIdx = (wv (k, x)).toArray := by kernel_rfl
theorem wv0_ne : (wv w0 = []) = False := by simp [wv]
theorem wv_parts {w : World} {b o k : Nat} {x : Dat} (h : w.rangeAt b o (wv (k, x))) : w.cell? ⟨b, o, none⟩ = some (.int .i64 k) ∧ w.rangeAt b (o + 1) (dv x) :=
  ⟨h 0 _ rfl, fun j v hv => by
    have := h (j + 1) v (by simpa [wv] using hv)
    rwa [show o + (j + 1) = o + 1 + j by omega] at this⟩
theorem wv_get0 (p : Wr) : (wv p)[0]? = some (.int .i64 p.1) := rfl
attribute [irreducible] dv wv cat
end Go.Proofs.Ytnjnplepecmfaaa.Dk
