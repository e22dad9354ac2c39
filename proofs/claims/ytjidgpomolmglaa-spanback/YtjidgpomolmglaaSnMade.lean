/-
  Layer 10 (span): deeds that came in; contracts of Made and awake, over the translated program.
-/
import Derived.Test.YtjidgpomolmglaaSnSame
import Derived.Test.YtjidgpomolmglaaFlat
import Derived.Test.YtjidgpomolmglaaLast
namespace Go.Proofs.Ytjidgpomolmglaa
open Go.RowKit
set_option linter.unusedVariables false
def ks_flatDeed : List Pk := [.int .i64, .int .i64, .int .i64]
theorem flatDeed : FlatT Try.prog 46 ks_flatDeed :=
  flat_struct (fun _ => [.int .i64]) Try.underlying46 (by kernel_rfl)
    (by
      intro f hf
      simp only [List.mem_cons, List.not_mem_nil, or_false] at hf
      rcases hf with rfl | rfl | rfl
      · exact flat_int Try.underlying3 (by kernel_rfl)
      · exact flat_int Try.underlying3 (by kernel_rfl)
      · exact flat_int Try.underlying3 (by kernel_rfl))
    (by decide)
theorem deed_of {vs : List Value} (h : Fits ks_flatDeed vs) : ∃ K F T : Int, vs = [.int .i64 K, .int .i64 F, .int .i64 T] := by
  obtain ⟨v0, l0, rfl, ⟨K, rfl, _⟩, h0⟩ := fits_cons h
  obtain ⟨v1, l1, rfl, ⟨F, rfl, _⟩, h1⟩ := fits_cons h0
  obtain ⟨v2, l2, rfl, ⟨T, rfl, _⟩, h2⟩ := fits_cons h1
  obtain rfl := fits_nil h2
  exact ⟨K, F, T, rfl⟩
theorem infoDeed : (Try.prog.info? 46).map (·.size) = some 3 := by kernel_rfl
end Go.Proofs.Ytjidgpomolmglaa
namespace Go.Proofs.Ytjidgpomolmglaa.Sn
open Go.ChangeShapes Go.WideShapes Go.ChangeAt Go.RowKit
open Wh
set_option linter.unusedVariables false
set_option maxRecDepth 20000

/-- Two sets laid together, by a kind. -/
def byK (k : Nat) (f g : Nat → Bool) : Nat → Bool := if k = 0 then wi f g else if k = 1 then wo f g else bo f g
theorem rlay_c (k : Nat) (hk : k = 0 ∨ k = 1 ∨ k = 2) (f g : Nat → Bool) (w : World) :
    Calls Try.prog 10 #[.int .i64 k, .agg (bv f).toArray, .agg (bv g).toArray] w fun e w' => e = .returned (.agg (bv (byK k f g)).toArray) ∧ But [] w w' := by
  rcases hk with rfl | rfl | rfl
  · exact rlay0_c f g w
  · exact rlay1_c f g w
  · exact rlay2_c f g w
/-- A set, and the document's. -/
def Both (w : World) (e : Ending) (w' : World) : Prop := ∃ f A n c, e = .returned (.tuple #[.agg #[.slice A n c], .agg (bv f).toArray]) ∧ SetAt w' w.heap.size A n f ∧ But [] w w'
theorem there_set {w : World} {b o n : Nat} (h : w.there b o n) (p : Addr) (v : Value) : (w.setCell p v).there b o n := fun j hj => by
  obtain ⟨h1, h2⟩ := h j hj
  refine ⟨?_, by rw [World.frozen?_setCell]; exact h2⟩
  obtain ⟨u, hu⟩ := Option.isSome_iff_exists.1 h1
  by_cases e : p = ⟨b, o + j, none⟩
  · subst e; rw [World.cell?_setCell_same _ _ _ hu]; rfl
  · rw [World.cell?_setCell_other _ _ _ _ e]; exact h1
/-- What Made has: p2 and p3 hold the set, and the document's. -/
structure Md (w0 : World) (p2 p3 : Nat) (A : Option Addr) (n c : Nat) (f g : Nat → Bool) (wx : World) : Prop where
  s : wx.cell? ⟨p2, 0, .none⟩ = some (.slice A n c)
  x : wx.rangeAt p3 0 (bv g)
  at_ : SetAt wx w0.heap.size A n f
  but : But [p2, p3] w0 wx
  t2 : wx.there p2 0 1
  t3 : wx.there p3 0 1024
theorem Md.fz {w0 : World} {p2 p3 : Nat} {A : Option Addr} {n c : Nat} {f g : Nat → Bool} {wx : World} (h : Md w0 p2 p3 A n c f g wx) : wx.frozen? ⟨p2, 0, .none⟩ = false := (h.t2 0 (by omega)).2
theorem Md.keep {w0 : World} {p2 p3 : Nat} {A : Option Addr} {n c : Nat} {f g : Nat → Bool} {wx wy : World} (h : Md w0 p2 p3 A n c f g wx) (k : But [] wx wy) : Md w0 p2 p3 A n c f g wy :=
  ⟨cell_keep h.s k (by simp), range_keep h.x k (by simp), h.at_.keep0 k, h.but.trans (k.any _), there_keep h.t2 k (lt_of_there h.t2 (by omega)) (by simp), there_keep h.t3 k (lt_of_there h.t3 (by omega)) (by simp)⟩
theorem SetAt.far {w : World} {lo n : Nat} {A : Option Addr} {f : Nat → Bool} (h : SetAt w lo A n f) : ∀ g off, A = some ⟨g, off, .none⟩ → n ≠ 0 → lo ≤ g := fun g off e hn => by
  obtain ⟨g', off', e', h1, _⟩ := h.at_ (k := 0) (by omega)
  rw [e] at e'
  injection e' with e'
  injection e' with e1 e2
  omega
theorem Md.set {w0 : World} {p2 p3 : Nat} {A A' : Option Addr} {n n' c c' : Nat} {f f' g : Nat → Bool} {wx : World} (h : Md w0 p2 p3 A n c f g wx) (hs : SetAt wx w0.heap.size A' n' f') (hp : p2 < w0.heap.size) (hne : p2 ≠ p3) :
    Md w0 p2 p3 A' n' c' f' g (wx.setCell ⟨p2, 0, .none⟩ (.slice A' n' c')) := by
  have hk : But [p2] wx (wx.setCell ⟨p2, 0, .none⟩ (.slice A' n' c')) := (But.refl _ _).setCell (by simp) _
  exact ⟨World.cell?_setCell_same _ _ _ h.s, range_keep h.x hk (by simp; omega), hs.keep hk (fun g off e hn => by have := hs.far g off e hn; simp; omega), h.but.trans (hk.wider (by simp)), there_set h.t2 _ _, there_set h.t3 _ _⟩
theorem Md.doc {w0 : World} {p2 p3 : Nat} {A : Option Addr} {n c : Nat} {f g : Nat → Bool} {wx : World} (h : Md w0 p2 p3 A n c f g wx) (g' : Nat → Bool) (hp : p3 < w0.heap.size) (hne : p2 ≠ p3) :
    Md w0 p2 p3 A n c f g' (wx.setCells p3 0 (bv g')) := by
  have hk : But [p3] wx (wx.setCells p3 0 (bv g')) := (But.refl _ _).setCells (by simp) _ _
  exact ⟨cell_keep h.s hk (by simp; omega), World.rangeAt_setCells_same _ _ _ _ (by rw [bv_len]; exact h.t3), h.at_.keep hk (fun g off e hn => by have := h.at_.far g off e hn; simp; omega), h.but.trans (hk.wider (by simp)), World.there_setCells h.t2 _ _ _, World.there_setCells h.t3 _ _ _⟩
theorem box4 (w : World) (v1 v3 : Value) (t1 t2 t3 t4 : TypeId) :
    ((((w.alloc (.cells #[v1] t1)).alloc (.cells (bv no).toArray t2)).alloc (.cells #[v3] t3)).alloc (.cells (bv no).toArray t4)).there w.heap.size 0 1 ∧
    ((((w.alloc (.cells #[v1] t1)).alloc (.cells (bv no).toArray t2)).alloc (.cells #[v3] t3)).alloc (.cells (bv no).toArray t4)).there (w.heap.size + 1) 0 1024 ∧
    ((((w.alloc (.cells #[v1] t1)).alloc (.cells (bv no).toArray t2)).alloc (.cells #[v3] t3)).alloc (.cells (bv no).toArray t4)).there (w.heap.size + 1 + 1) 0 1 ∧
    ((((w.alloc (.cells #[v1] t1)).alloc (.cells (bv no).toArray t2)).alloc (.cells #[v3] t3)).alloc (.cells (bv no).toArray t4)).there (w.heap.size + 1 + 1 + 1) 0 1024 ∧
    ((((w.alloc (.cells #[v1] t1)).alloc (.cells (bv no).toArray t2)).alloc (.cells #[v3] t3)).alloc (.cells (bv no).toArray t4)).cell? ⟨w.heap.size + 1 + 1, 0, none⟩ = some v3 ∧
    ((((w.alloc (.cells #[v1] t1)).alloc (.cells (bv no).toArray t2)).alloc (.cells #[v3] t3)).alloc (.cells (bv no).toArray t4)).rangeAt (w.heap.size + 1 + 1 + 1) 0 (bv no) ∧
    ((((w.alloc (.cells #[v1] t1)).alloc (.cells (bv no).toArray t2)).alloc (.cells #[v3] t3)).alloc (.cells (bv no).toArray t4)).heap.size = w.heap.size + 4 := by
  have s1 : (w.alloc (.cells #[v1] t1)).heap.size = w.heap.size + 1 := by simp
  have s2 : ((w.alloc (.cells #[v1] t1)).alloc (.cells (bv no).toArray t2)).heap.size = w.heap.size + 1 + 1 := by simp
  have s3 : (((w.alloc (.cells #[v1] t1)).alloc (.cells (bv no).toArray t2)).alloc (.cells #[v3] t3)).heap.size = w.heap.size + 1 + 1 + 1 := by simp
  have h1 := there_new w #[v1] t1 1 rfl
  have h2 := there_new (w.alloc (.cells #[v1] t1)) (bv no).toArray t2 1024 (bvs no)
  have h3 := there_new ((w.alloc (.cells #[v1] t1)).alloc (.cells (bv no).toArray t2)) #[v3] t3 1 rfl
  have h4 := there_new (((w.alloc (.cells #[v1] t1)).alloc (.cells (bv no).toArray t2)).alloc (.cells #[v3] t3)) (bv no).toArray t4 1024 (bvs no)
  have c3 := new_range ((w.alloc (.cells #[v1] t1)).alloc (.cells (bv no).toArray t2)) [v3] t3 0 _ rfl
  have c4 := new_range (((w.alloc (.cells #[v1] t1)).alloc (.cells (bv no).toArray t2)).alloc (.cells #[v3] t3)) (bv no) t4
  rw [s1] at h2
  rw [s2] at h3 c3
  rw [s3] at h4 c4
  exact ⟨there_keep (l := []) h1 ((((But.refl [] _).alloc _).alloc _).alloc _) (by simp) (by simp), there_keep (l := []) h2 (((But.refl [] _).alloc _).alloc _) (by simp) (by simp), there_keep (l := []) h3 ((But.refl [] _).alloc _) (by simp) (by simp), h4, cell_keep (l := []) c3 ((But.refl [] _).alloc _) (by simp), c4, by simp⟩
theorem results_two {P : Program} {fn : Func} {p q : Tmp} {ty tz : TypeId} (h : fn.results = #[.cell p ty, .cell q tz]) (tmps : Array Value) (w : World) (b o b' o' : Nat) (cs ds : List Value) (d d' : TypeDesc)
    (hp : tmps.getD p undef = .pointer (some ⟨b, o, none⟩)) (hc : w.rangeAt b o cs) (hu : P.underlying ty = some d) (hd : d.isRow = true) (hi : (P.info? ty).map (·.size) = some cs.length)
    (hq : tmps.getD q undef = .pointer (some ⟨b', o', none⟩)) (hc' : w.rangeAt b' o' ds) (hu' : P.underlying tz = some d') (hd' : d'.isRow = true) (hi' : (P.info? tz).map (·.size) = some ds.length) :
    (results fn tmps).run P w = .ok (.tuple #[.agg cs.toArray, .agg ds.toArray]) w := by
  have hp' : tmps[p]?.getD undef = .pointer (some ⟨b, o, none⟩) := by simpa using hp
  have hq' : tmps[q]?.getD undef = .pointer (some ⟨b', o', none⟩) := by simpa using hq
  simp [results, h, hp', hq', asAddr, run_loadVar_mid w b o ty cs d hc hu hd hi, run_loadVar_mid w b' o' tz ds d' hc' hu' hd' hi']
theorem k17a {w : World} {p0 p1 p2 p3 m : Nat} {v u : Value} {cs : List Value} {W : World} (hp : p0 ≠ p1 ∧ p0 ≠ p2 ∧ p0 ≠ p3 ∧ p1 ≠ p2 ∧ p1 ≠ p3 ∧ p0 < W.heap.size ∧ p1 < W.heap.size)
    (h : w.cell? ⟨p2, 0, none⟩ = some v ∧ w.rangeAt p3 0 cs ∧ w.there p1 0 m) : (w.setCell ⟨p0, 0, none⟩ u).cell? ⟨p2, 0, none⟩ = some v ∧ (w.setCell ⟨p0, 0, none⟩ u).rangeAt p3 0 cs ∧ (w.setCell ⟨p0, 0, none⟩ u).there p1 0 m := by
  have hk : But [p0] w (w.setCell ⟨p0, 0, none⟩ u) := (But.refl _ _).setCell (by simp) _
  exact ⟨cell_keep h.1 hk (by simp; omega), range_keep h.2.1 hk (by simp; omega), there_set h.2.2 _ _⟩
theorem k17b {w : World} {p0 p1 p2 p3 m : Nat} {v : Value} {cs ds : List Value} {W : World} (hp : p0 ≠ p1 ∧ p0 ≠ p2 ∧ p0 ≠ p3 ∧ p1 ≠ p2 ∧ p1 ≠ p3 ∧ p0 < W.heap.size ∧ p1 < W.heap.size)
    (h : w.cell? ⟨p2, 0, none⟩ = some v ∧ w.rangeAt p3 0 cs ∧ w.there p1 0 m) : (w.setCells p1 0 ds).cell? ⟨p2, 0, none⟩ = some v ∧ (w.setCells p1 0 ds).rangeAt p3 0 cs ∧ (w.setCells p1 0 ds).there p1 0 m := by
  have hk : But [p1] w (w.setCells p1 0 ds) := (But.refl _ _).setCells (by simp) _ _
  exact ⟨cell_keep h.1 hk (by simp; omega), range_keep h.2.1 hk (by simp; omega), World.there_setCells h.2.2 _ _ _⟩
theorem made_out {w w0 wx : World} {p0 p1 p2 p3 n c : Nat} {A : Option Addr} {f : Nat → Bool} (h0 : But [] w w0) (h : Md w0 p2 p3 A n c f f wx) (hp : p0 = w.heap.size ∧ p1 = w.heap.size + 1 ∧ p2 = w.heap.size + 2 ∧ p3 = w.heap.size + 3 ∧ w0.heap.size = w.heap.size + 4) :
    Both w (.returned (.tuple #[.agg #[.slice A n c], .agg (bv f).toArray])) ((wx.setCell ⟨p0, 0, none⟩ (.slice A n c)).setCells p1 0 (bv f)) := by
  have hk : But [p0, p1] wx ((wx.setCell ⟨p0, 0, none⟩ (.slice A n c)).setCells p1 0 (bv f)) := But.setCells (by simp) _ _ ((But.refl _ _).setCell (by simp) _)
  refine ⟨f, A, n, c, rfl, (h.at_.keep hk (fun g off e hn => by have := h.at_.far g off e hn; simp; omega)).wider h0.size, ?_⟩
  exact but_own (but_own h0 h.but (fun i hi => by simp at hi; omega)) hk (fun i hi => by simp at hi; omega)
/-- The only one that may come up: what follows is kept shut. -/
theorem till_one' {P : Program} {ops : Array Oper} {Q : Exit → Act → World → Prop} {md : Region.Mode} {S : World → Prop} (i : Nat) {z : Nat} {oi : Oper} {fuel : Nat} {listed : Array Bool} {a : Act} {w : World} (hi : ops[i]? = some oi) (hr : Region.ready md ops listed = [i]) (hw : Region.wanted oi (yielded ops a.tmps) = true)
    (h : ∀ K' : Act → World → Prop, Shut (∀ a' w', ((i ≠ z → S w') ∧ Till P md ops Q S z fuel (listed.setIfInBounds i true) a' w') → K' a' w') → Oper.wp P oi a w K' Q) : Till P md ops Q S z (fuel + 1) listed a w :=
  till_one i hi hr hw (h _ (fun _ _ h => h))
theorem m_keep {wb wp wc : World} {p q : Nat} {cs : List Value} {v1 v2 : Value} {m : Nat} (k : But [] wp wc) (h : wp.rangeAt p 0 cs ∧ wp.cell? ⟨q, 1, none⟩ = some v1 ∧ wp.cell? ⟨q, 2, none⟩ = some v2 ∧ wp.there p 0 (m + 1) ∧ But [] wb wp) :
    wc.rangeAt p 0 cs ∧ wc.cell? ⟨q, 1, none⟩ = some v1 ∧ wc.cell? ⟨q, 2, none⟩ = some v2 ∧ wc.there p 0 (m + 1) ∧ But [] wb wc :=
  ⟨range_keep h.1 k (by simp), cell_keep h.2.1 k (by simp), cell_keep h.2.2.1 k (by simp), there_keep h.2.2.2.1 k (lt_of_there h.2.2.2.1 (by omega)) (by simp), h.2.2.2.2.trans k⟩
set_option maxHeartbeats 4000000 in
theorem made_c (A0 : Option Addr) (len0 cap0 : Nat) (w : World) (h : RowOf ks_flatDeed w A0 len0 cap0) :
    Calls Try.prog 6 #[.slice A0 len0 cap0] w (Both w) := by
  obtain ⟨hlc, hcm, hrow⟩ := h
  have HR : Hid (len0 = 0 ∨ ∃ b off, A0 = some ⟨b, off, none⟩ ∧ b < w.heap.size ∧ ∀ i, i < len0 → ∃ vs, w.rangeAt b (off + i * 3) vs ∧ Fits ks_flatDeed vs) := hrow
  unfold maxLen at hcm
  clear hrow
  have hz := zSet
  obtain ⟨p0, hp0⟩ : ∃ p0, p0 = w.heap.size := ⟨_, rfl⟩
  obtain ⟨p1, hp1⟩ : ∃ p1, p1 = w.heap.size + 1 := ⟨_, rfl⟩
  obtain ⟨p2, hp2⟩ : ∃ p2, p2 = w.heap.size + 1 + 1 := ⟨_, rfl⟩
  obtain ⟨p3, hp3⟩ : ∃ p3, p3 = w.heap.size + 1 + 1 + 1 := ⟨_, rfl⟩
  obtain ⟨w0, hw0⟩ : ∃ w0, w0 = (((w.alloc (.cells #[.slice none 0 0] 25)).alloc (.cells (bv no).toArray 27)).alloc (.cells #[.slice none 0 0] 25)).alloc (.cells (bv no).toArray 27) := ⟨_, rfl⟩
  have HB0 : Hid (But [] w w0) := by show But _ _ _; rw [hw0]; exact ((((But.refl [] w).alloc _).alloc _).alloc _).alloc _
  obtain ⟨q0, q1, q2, q3, q4, q5, q6⟩ := box4 w (.slice none 0 0) (.slice none 0 0) 25 27 25 27
  rw [← hw0] at q0 q1 q2 q3 q4 q5 q6
  rw [← hp0] at q0
  rw [← hp1] at q1
  rw [← hp2] at q2 q4
  rw [← hp3] at q3 q5
  have HT0 := hid q0
  have HT1 := hid q1
  have HT2 := hid q2
  have HT3 := hid q3
  have HPS : Hid (p0 = w.heap.size ∧ p1 = w.heap.size + 1 ∧ p2 = w.heap.size + 2 ∧ p3 = w.heap.size + 3 ∧ w0.heap.size = w.heap.size + 4) := ⟨hp0, hp1, hp2, hp3, q6⟩
  have HM0 : Hid (Md w0 p2 p3 none 0 0 no no w0) := ⟨q4, q5, SetAt.nil _ _ (fun _ => rfl), But.refl _ _, q2, q3⟩
  clear q0 q1 q2 q3 q4 q5 q6
  go_enter Try.func6, Try.ntmps6
  go_upto_region 3 with (first
    | (refine wpList_build' rfl 27 [] rfl (bv no).toArray ?hb ?_; case hb => exact bSet)
    | (refine wpList_store_newAt rfl 27 _ _ rfl (w.heap.size + 3) (by simp) (bv no).toArray (bv no).toArray rfl rfl (iSet' _) rfl (bv_all _) ?_))
  rw [← hw0, ← hp3, ← hp2, ← hp1, ← hp0]
  clear hw0 hp0 hp1 hp2 hp3 hz
  go_wp2
  go_loopg [6] 21 (fun g0 iv wx => ∃ (i n c : Nat) (A : Option Addr) (f : Nat → Bool), i + g0 = 21 ∧ i ≤ 20 ∧ i ≤ len0 ∧ iv = .int .i64 i ∧ Hid (Md w0 p2 p3 A n c f f wx))
  case atStart => exact ⟨0, 0, 0, none, no, by omega, by omega, by omega, rfl, HM0⟩
  case round =>
    obtain ⟨i, n, c, A, f, hig, hi20, hil, rfl, HM⟩ := hrel
    clear HM0
    by_cases hlt : i < len0 ∧ i < 20
    · obtain ⟨hlt, h20⟩ := hlt
      obtain ⟨bA, off, rfl, hbl, hall⟩ : ∃ bA off, A0 = some ⟨bA, off, none⟩ ∧ bA < w.heap.size ∧ ∀ i, i < len0 → ∃ vs, w.rangeAt bA (off + i * 3) vs ∧ Fits ks_flatDeed vs := by
        rcases HR.out with h | h
        · omega
        · exact h
      obtain ⟨vs, hr, hfit⟩ := hall i hlt
      obtain ⟨K, F, T, rfl⟩ := deed_of hfit
      have HRE : Hid (wr.rangeAt bA (off + i * 3) [.int .i64 K, .int .i64 F, .int .i64 T]) := range_keep (range_keep hr HB0.out (by simp)) HM.out.but (by have := HPS.out; simp; omega)
      clear hall hr hfit
      have hilt : (i : Int) < (len0 : Int) := by omega
      have hi2 : (i : Int) < 20 := by omega
      obtain ⟨q, hq⟩ : ∃ q, q = wr.heap.size := ⟨_, rfl⟩
      have HM1 := hid (HM.out.keep ((But.refl [] wr).alloc (.cells #[.int .i64 K, .int .i64 F, .int .i64 T] 46)))
      have hnr := new_range wr [.int .i64 K, .int .i64 F, .int .i64 T] 46
      rw [← hq] at hnr
      go_upto_region 7 with (first
        | (refine wpList_load_mid rfl 46 _ rfl bA (off + i * 3) rfl [.int .i64 K, .int .i64 F, .int .i64 T] _ HRE.out Try.underlying46 rfl infoDeed ?_))
      rw [← hq]
      generalize wr.alloc (.cells #[.int .i64 K, .int .i64 F, .int .i64 T] 46) = w1 at HM1 hnr ⊢
      have hqK : w1.cell? ⟨q, 0, none⟩ = some (.int .i64 K) := hnr 0 _ rfl
      have hqF : w1.cell? ⟨q, 1, none⟩ = some (.int .i64 F) := hnr 1 _ rfl
      have hqT : w1.cell? ⟨q, 2, none⟩ = some (.int .i64 T) := hnr 2 _ rfl
      have HNR := hid hnr
      have HQN : Hid (w0.heap.size ≤ q) := by have := HM.out.but.size; show _ ≤ q; omega
      clear hq HM HRE hnr
      go_wp2_with fail
      refine (of_c F T _).mono ?_
      rintro e w2 ⟨A1, n1, c1, rfl, hs1, k1⟩
      have HM2 := hid (HM1.out.keep (k1.trans ((But.refl [] w2).alloc (.cells #[.slice A1 n1 c1] 25))))
      have HN2 := hid (range_keep HNR.out (k1.trans ((But.refl [] w2).alloc (.cells #[.slice A1 n1 c1] 25))) (by simp))
      have HS2 := hid (hs1.keep0 ((But.refl [] w2).alloc (.cells #[.slice A1 n1 c1] 25)))
      obtain ⟨q9, hq9⟩ : ∃ q9, q9 = w2.heap.size := ⟨_, rfl⟩
      have hc9 : (w2.alloc (.cells #[.slice A1 n1 c1] 25)).cell? ⟨q9, 0, none⟩ = some (.slice A1 n1 c1) := by rw [hq9]; simp
      have hs0 : w0.heap.size ≤ (w2.alloc (.cells #[.slice A1 n1 c1] 25)).heap.size := HM2.out.but.size
      clear hqK hqF hqT hs1 k1
      go_upto_region 9 with fail
      rw [← hq9]
      generalize w2.alloc (.cells #[.slice A1 n1 c1] 25) = w3 at *
      have HC9 := hid hc9
      clear hc9 hq9 HM1 HNR
      go_upto_block 2 with fail
      go_cut [8] (fun s8 wx => ∃ (kd n' c' : Nat) (A' : Option Addr), s8 = .int .i64 kd ∧ (kd = 0 ∨ kd = 1 ∨ kd = 2) ∧ Hid (Md w0 p2 p3 A' n' c' (byK kd f (one F T)) f wx) ∧ Hid (wx.rangeAt q 0 [.int .i64 K, .int .i64 F, .int .i64 T]))
      case first =>
        have hs3 := HM2.out.s
        have hc9 := HC9.out
        have hqp : q ≠ p2 := by have h1 := lt_of_there HT2.out (by omega); have h2 := HQN.out; omega
        by_cases hK0 : K = 0
        · subst hK0
          go_wp2_with fail
          refine (with_c _ _ _ _ _ _ _ _ _ _ _ HM2.out.at_ HS2.out).mono ?_
          rintro e w4 ⟨A4, n4, c4, rfl, hs4, k4⟩
          have hM4 := HM2.out.keep k4
          have hcs := hM4.s
          have hfz := hM4.fz
          have HM5 : Hid (Md w0 p2 p3 A4 n4 c4 (byK 0 f (one F T)) f (w4.setCell ⟨p2, 0, none⟩ (.slice A4 n4 c4))) := hM4.set (hs4.wider hs0) (by have := HPS.out; omega) (by have := HPS.out; omega)
          have HN5 : Hid ((w4.setCell ⟨p2, 0, none⟩ (.slice A4 n4 c4)).rangeAt q 0 [.int .i64 0, .int .i64 F, .int .i64 T]) := range_keep (range_keep HN2.out k4 (by simp)) ((But.refl [p2] w4).setCell (by simp) _) (by simpa using hqp)
          clear hM4 hs4 k4 hs3 hc9
          go_wp2
          go_meet
          exact ⟨0, n4, c4, A4, rfl, .inl rfl, HM5.out, HN5.out⟩
        · by_cases hK1 : K = 1
          · subst hK1
            go_wp2_with fail
            refine (without_c _ _ _ _ _ _ _ _ _ _ _ HM2.out.at_ HS2.out).mono ?_
            rintro e w4 ⟨A4, n4, c4, rfl, hs4, k4⟩
            have hM4 := HM2.out.keep k4
            have hcs := hM4.s
            have hfz := hM4.fz
            have HM5 : Hid (Md w0 p2 p3 A4 n4 c4 (byK 1 f (one F T)) f (w4.setCell ⟨p2, 0, none⟩ (.slice A4 n4 c4))) := hM4.set (hs4.wider hs0) (by have := HPS.out; omega) (by have := HPS.out; omega)
            have HN5 : Hid ((w4.setCell ⟨p2, 0, none⟩ (.slice A4 n4 c4)).rangeAt q 0 [.int .i64 1, .int .i64 F, .int .i64 T]) := range_keep (range_keep HN2.out k4 (by simp)) ((But.refl [p2] w4).setCell (by simp) _) (by simpa using hqp)
            clear hM4 hs4 k4 hs3 hc9
            go_wp2
            go_meet
            exact ⟨1, n4, c4, A4, rfl, .inr (.inl rfl), HM5.out, HN5.out⟩
          · go_wp2_with fail
            refine (both_c _ _ _ _ _ _ _ _ _ _ _ HM2.out.at_ HS2.out).mono ?_
            rintro e w4 ⟨A4, n4, c4, rfl, hs4, k4⟩
            have hM4 := HM2.out.keep k4
            have hcs := hM4.s
            have hfz := hM4.fz
            have HM5 : Hid (Md w0 p2 p3 A4 n4 c4 (byK 2 f (one F T)) f (w4.setCell ⟨p2, 0, none⟩ (.slice A4 n4 c4))) := hM4.set (hs4.wider hs0) (by have := HPS.out; omega) (by have := HPS.out; omega)
            have HN5 : Hid ((w4.setCell ⟨p2, 0, none⟩ (.slice A4 n4 c4)).rangeAt q 0 [.int .i64 K, .int .i64 F, .int .i64 T]) := range_keep (range_keep HN2.out k4 (by simp)) ((But.refl [p2] w4).setCell (by simp) _) (by simpa using hqp)
            clear hM4 hs4 k4 hs3 hc9
            go_wp2
            go_meet
            exact ⟨2, n4, c4, A4, rfl, .inr (.inr rfl), HM5.out, HN5.out⟩
      case rest =>
        obtain ⟨kd, n4, c4, A4, rfl, hkd, HM5, HN5⟩ := hcut
        clear HM2 HN2 HS2 HC9
        have HS16 : Hid (wc.drew.rangeAt p3 0 (bv f) ∧ wc.drew.cell? ⟨q, 1, none⟩ = some (.int .i64 F) ∧ wc.drew.cell? ⟨q, 2, none⟩ = some (.int .i64 T) ∧ wc.drew.there p3 0 1024 ∧ But [] wc wc.drew) :=
          ⟨(World.rangeAt_drew _ _ _ _).2 HM5.out.x, by have := HN5.out 1 _ rfl; simpa using this, by have := HN5.out 2 _ rfl; simpa using this, there_keep HM5.out.t3 (But.refl [] wc).drew (lt_of_there HM5.out.t3 (by omega)) (by simp), (But.refl [] wc).drew⟩
        have hui := Try.underlying27
        have hsi := iSet f
        have hsi2 := iSet (byK kd f (one F T))
        have hsl := bv_len (byK kd f (one F T))
        have hso := bv_one (byK kd f (one F T))
        have HKD := hid hkd
        go_upto_region 16 with fail
        refine till_begin (fun w' => w'.rangeAt p3 0 (bv f) ∧ w'.cell? ⟨q, 1, none⟩ = some (.int .i64 F) ∧ w'.cell? ⟨q, 2, none⟩ = some (.int .i64 T) ∧ w'.there p3 0 1024 ∧ But [] wc w') 8 (by kernel_rfl) ?_
        have hS0 := HS16.out
        refine till_take 0 (some 46) (.int .i64 kd) rfl rfl (by kernel_rfl) (by kernel_rfl) (by kernel_rfl) (by kernel_rfl) (by decide) (fun _ _ _ h => h) (Or.inl ⟨by rfl, fun w' hw' => by go_simp⟩) hS0 ?_
        simp only [Act.put, List.setIfInBounds_toArray, List.set_cons_zero, List.set_cons_succ]
        refine till_take 1 (some 47) (.agg (bv f).toArray) rfl rfl (by kernel_rfl) (by kernel_rfl) (by kernel_rfl) (by kernel_rfl) (by decide) (fun _ _ _ h => h) (yieldsIf_load_mid (by rfl) _ _ rfl p3 0 rfl (bv f) _ (fun w' h => h.1) Try.underlying27 rfl (iSet f)) hS0 ?_
        simp only [Act.put, List.setIfInBounds_toArray, List.set_cons_zero, List.set_cons_succ]
        refine till_take 2 (some 48) (.pointer (some ⟨q, 1, none⟩)) rfl rfl (by kernel_rfl) (by kernel_rfl) (by kernel_rfl) (by kernel_rfl) (by decide) (fun _ _ _ h => h) (Or.inl ⟨by rfl, fun w' hw' => by go_simp⟩) hS0 ?_
        simp only [Act.put, List.setIfInBounds_toArray, List.set_cons_zero, List.set_cons_succ]
        refine till_take 3 (some 49) (.int .i64 F) rfl rfl (by kernel_rfl) (by kernel_rfl) (by kernel_rfl) (by kernel_rfl) (by decide) (fun _ _ _ h => h) (Or.inl ⟨by rfl, fun w' hw' => by obtain ⟨-, hw1, -⟩ := hw'; go_simp⟩) hS0 ?_
        simp only [Act.put, List.setIfInBounds_toArray, List.set_cons_zero, List.set_cons_succ]
        refine till_take 4 (some 50) (.pointer (some ⟨q, 2, none⟩)) rfl rfl (by kernel_rfl) (by kernel_rfl) (by kernel_rfl) (by kernel_rfl) (by decide) (fun _ _ _ h => h) (Or.inl ⟨by rfl, fun w' hw' => by go_simp⟩) hS0 ?_
        simp only [Act.put, List.setIfInBounds_toArray, List.set_cons_zero, List.set_cons_succ]
        refine till_take 5 (some 51) (.int .i64 T) rfl rfl (by kernel_rfl) (by kernel_rfl) (by kernel_rfl) (by kernel_rfl) (by decide) (fun _ _ _ h => h) (Or.inl ⟨by rfl, fun w' hw' => by obtain ⟨-, -, hw1, -⟩ := hw'; go_simp⟩) hS0 ?_
        simp only [Act.put, List.setIfInBounds_toArray, List.set_cons_zero, List.set_cons_succ]
        refine till_one' 6 rfl (by kernel_rfl) (by rfl) (fun K hK => ?_)
        go_simp
        refine (rof_c F T _).mono ?_
        rintro e w5 ⟨rfl, k5⟩
        go_wp2_with fail
        have hS5 := m_keep k5 hS0
        refine hK.out _ _ ⟨fun _ => hS5, ?_⟩
        clear hK K hS0
        try simp only [Act.put, List.setIfInBounds_toArray, List.set_cons_zero, List.set_cons_succ]
        refine till_one' 7 rfl (by kernel_rfl) (by rfl) (fun K hK => ?_)
        go_simp
        refine (rlay_c kd HKD.out f (one F T) _).mono ?_
        rintro e w6 ⟨rfl, k6⟩
        go_wp2_with fail
        have hS6 := m_keep k6 hS5
        refine hK.out _ _ ⟨fun _ => hS6, ?_⟩
        clear hK K hS5
        try simp only [Act.put, List.setIfInBounds_toArray, List.set_cons_zero, List.set_cons_succ]
        refine till_one' 8 rfl (by kernel_rfl) (by rfl) (fun K hK => ?_)
        refine wp_store_mid _ _ _ rfl p3 0 (bv (byK kd f (one F T))).toArray rfl rfl (by rw [bvs]; exact hS6.2.2.2.1) (iSet' _) (bv_all _) ?_
        refine hK.out _ _ ⟨fun h => absurd rfl h, ?_⟩
        clear hK K
        refine till_done (by kernel_rfl) ?_ _
        have HM7 : Hid (Md w0 p2 p3 A4 n4 c4 (byK kd f (one F T)) (byK kd f (one F T)) (w6.setCells p3 0 (bv (byK kd f (one F T))))) := (HM5.out.keep hS6.2.2.2.2).doc _ (by have := HPS.out; omega) (by have := HPS.out; omega)
        clear hS6 k5 k6 hui hsi hsi2 hsl hso HS16
        simp only [Act.put, List.setIfInBounds_toArray]
        go_wp2
        go_roundg (21 - (i + 1))
        case measure => omega
        case rel => exact ⟨i + 1, n4, c4, A4, _, by omega, by omega, by omega, by go_num, HM7.out⟩
    · by_cases h1 : i < len0
      · obtain rfl : i = 20 := by omega
        have hI : (20 : Int) < (len0 : Int) := by omega
        have hd : decide ((20 : Int) < 20) = false := by decide
        clear HR
        have HPQ : Hid (p0 ≠ p1 ∧ p0 ≠ p2 ∧ p0 ≠ p3 ∧ p1 ≠ p2 ∧ p1 ≠ p3 ∧ p0 < w0.heap.size ∧ p1 < w0.heap.size) := by have := HPS.out; show _ ∧ _; omega
        have h0 : wr.drew.there p0 0 1 := there_keep HT0.out HM.out.but.drew HPQ.out.2.2.2.2.2.1 (by have := HPQ.out; simp; omega)
        have h1 : wr.drew.there p1 0 1024 := there_keep HT1.out HM.out.but.drew HPQ.out.2.2.2.2.2.2 (by have := HPQ.out; simp; omega)
        obtain ⟨v0, hv0⟩ := Option.isSome_iff_exists.1 (h0 0 (by omega)).1
        have hz0 : wr.drew.frozen? ⟨p0, 0, none⟩ = false := (h0 0 (by omega)).2
        have hv0 : wr.drew.cell? ⟨p0, 0, none⟩ = some v0 := hv0
        have HS17 : Hid (wr.drew.cell? ⟨p2, 0, none⟩ = some (.slice A n c) ∧ wr.drew.rangeAt p3 0 (bv f) ∧ wr.drew.there p1 0 1024) := ⟨HM.out.s, (World.rangeAt_drew _ _ _ _).2 HM.out.x, h1⟩
        have HK0 : Hid (wr.drew.cell? ⟨p0, 0, none⟩ = some v0) := hv0
        have hui := Try.underlying27
        have hsi := iSet f
        have hsl := bv_len f
        have hso := bv_one f
        have HM1 : Hid (Md w0 p2 p3 A n c f f wr.drew) := HM.out.keep (But.refl [] wr).drew
        clear h0 h1 HM
        go_upto_region 17 with fail
        go_region_held3 (fun w' => w'.cell? ⟨p2, 0, none⟩ = some (.slice A n c) ∧ w'.rangeAt p3 0 (bv f) ∧ w'.there p1 0 1024)
          (first | exact HS17.out | assumption | exact k17a HPQ.out (by assumption) | exact k17b HPQ.out (by assumption))
          (fail)
        go_wp2
        refine bodyPost_ret (results_two rfl _ _ p0 0 p1 0 [.slice A n c] (bv f) _ _ rfl (range1 (cell_keep (l := [p1]) (World.cell?_setCell_same _ _ _ HK0.out) ((But.refl [p1] _).setCells (by simp) _ _) (by have := HPQ.out; simp; omega))) Try.underlying25 rfl sizeSet rfl (World.rangeAt_setCells_same _ _ _ _ (by rw [bv_len]; exact there_set HS17.out.2.2 _ _)) Try.underlying27 rfl (iSet f)) rfl ?_
        exact made_out HB0.out HM1.out HPS.out
      · obtain rfl : i = len0 := by omega
        have hd : decide ((i : Int) < (i : Int)) = false := by simp
        clear HR
        have HPQ : Hid (p0 ≠ p1 ∧ p0 ≠ p2 ∧ p0 ≠ p3 ∧ p1 ≠ p2 ∧ p1 ≠ p3 ∧ p0 < w0.heap.size ∧ p1 < w0.heap.size) := by have := HPS.out; show _ ∧ _; omega
        have h0 : wr.drew.there p0 0 1 := there_keep HT0.out HM.out.but.drew HPQ.out.2.2.2.2.2.1 (by have := HPQ.out; simp; omega)
        have h1 : wr.drew.there p1 0 1024 := there_keep HT1.out HM.out.but.drew HPQ.out.2.2.2.2.2.2 (by have := HPQ.out; simp; omega)
        obtain ⟨v0, hv0⟩ := Option.isSome_iff_exists.1 (h0 0 (by omega)).1
        have hz0 : wr.drew.frozen? ⟨p0, 0, none⟩ = false := (h0 0 (by omega)).2
        have hv0 : wr.drew.cell? ⟨p0, 0, none⟩ = some v0 := hv0
        have HS17 : Hid (wr.drew.cell? ⟨p2, 0, none⟩ = some (.slice A n c) ∧ wr.drew.rangeAt p3 0 (bv f) ∧ wr.drew.there p1 0 1024) := ⟨HM.out.s, (World.rangeAt_drew _ _ _ _).2 HM.out.x, h1⟩
        have HK0 : Hid (wr.drew.cell? ⟨p0, 0, none⟩ = some v0) := hv0
        have hui := Try.underlying27
        have hsi := iSet f
        have hsl := bv_len f
        have hso := bv_one f
        have HM1 : Hid (Md w0 p2 p3 A n c f f wr.drew) := HM.out.keep (But.refl [] wr).drew
        clear h0 h1 HM
        go_upto_region 17 with fail
        go_region_held3 (fun w' => w'.cell? ⟨p2, 0, none⟩ = some (.slice A n c) ∧ w'.rangeAt p3 0 (bv f) ∧ w'.there p1 0 1024)
          (first | exact HS17.out | assumption | exact k17a HPQ.out (by assumption) | exact k17b HPQ.out (by assumption))
          (fail)
        go_wp2
        refine bodyPost_ret (results_two rfl _ _ p0 0 p1 0 [.slice A n c] (bv f) _ _ rfl (range1 (cell_keep (l := [p1]) (World.cell?_setCell_same _ _ _ HK0.out) ((But.refl [p1] _).setCells (by simp) _ _) (by have := HPQ.out; simp; omega))) Try.underlying25 rfl sizeSet rfl (World.rangeAt_setCells_same _ _ _ _ (by rw [bv_len]; exact there_set HS17.out.2.2 _ _)) Try.underlying27 rfl (iSet f)) rfl ?_
        exact made_out HB0.out HM1.out HPS.out
end Go.Proofs.Ytjidgpomolmglaa.Sn
