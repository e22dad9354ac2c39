/-
  Layer 7 (clock): a clock, a meter, an alarm and the document's state side by side, and a deed's box: what each call and each store makes of them.
-/
import Derived.Test.YtbephnjnlcfapaaClFlat
namespace Go.Proofs.Ytbephnjnlcfapaa.Cl
open Go.ChangeShapes Go.WideShapes Go.ChangeAt Go.RowKit
set_option linter.unusedVariables false
set_option maxRecDepth 20000

def zmt : Array Value := ((List.range 16).map (fun _ => Value.int .i64 0)).toArray
theorem zmt_zero (w : World) : (zeroValue 37).run Try.prog w = .ok (.agg zmt) w := by kernel_rfl
theorem mt_new (w : World) : MtAt (w.alloc (.cells zmt 37)) w.heap.size (fun _ => 0) :=
  VB.new w zmt 37 16 rfl _ (fun j hj => by simp [zmt, hj])
def zst : Array Value := ((List.range 19).map (rf 0 (fun _ => 0) 0 false)).toArray
theorem zst_zero (w : World) : (zeroValue 49).run Try.prog w = .ok (.agg zst) w := by kernel_rfl
theorem st_new (w : World) : RfAt (w.alloc (.cells zst 49)) w.heap.size 0 (fun _ => 0) 0 false :=
  VB.new w zst 49 19 rfl _ (fun j hj => by simp [zst, hj])

/-- Blocks g, bm, ba, bx are a clock, a meter, an alarm, and the document's state (whose numbers may be others: n2, m2, x2, t2); nothing that was there below g has turned since w. -/
structure St (w : World) (g bm ba bx : Nat) (n : Int) (m : Nat → Int) (x : Int) (t : Bool) (n2 : Int) (m2 : Nat → Int) (x2 : Int) (t2 : Bool) (wx : World) : Prop where
  ord : g < bm ∧ bm < ba ∧ ba < bx
  clk : ClkAt wx g n
  mtr : MtAt wx bm m
  alm : Alm wx ba (bx + 1) t x
  ref : RfAt wx bx n2 m2 x2 t2
  bel : Below g w wx
theorem St.size {w : World} {g bm ba bx : Nat} {n x n2 x2 : Int} {m m2 : Nat → Int} {t t2 : Bool} {wx : World} (h : St w g bm ba bx n m x t n2 m2 x2 t2 wx) : bx < wx.heap.size := h.ref.lt
theorem St.keep {w : World} {g bm ba bx : Nat} {n x n2 x2 : Int} {m m2 : Nat → Int} {t t2 : Bool} {wx wy : World} (h : St w g bm ba bx n m x t n2 m2 x2 t2 wx) (k : But [] wx wy) : St w g bm ba bx n m x t n2 m2 x2 t2 wy :=
  ⟨h.ord, h.clk.keep k (by simp), h.mtr.keep k (by simp), h.alm.keep k (by simp), h.ref.keep k (by simp), below_but h.bel k (by simp) (by have := h.clk.lt; omega)⟩
theorem st_first (w : World) : St w w.heap.size (w.heap.size + 1) (w.heap.size + 2) (w.heap.size + 3) 0 (fun _ => 0) 0 false 0 (fun _ => 0) 0 false ((((w.alloc (.cells #[.int .u64 0] 31)).alloc (.cells zmt 37)).alloc (.cells #[.pointer none] 45)).alloc (.cells zst 49)) := by
  have k := fun (u : World) (o : Obj) => (But.refl [] u).alloc o
  refine ⟨by omega, (((clk_new w).keep (k _ _) (by simp)).keep (k _ _) (by simp)).keep (k _ _) (by simp), ?_, ?_, ?_, ?_⟩
  · have := ((mt_new (w.alloc (.cells #[.int .u64 0] 31))).keep (k _ (.cells #[.pointer none] 45)) (by simp)).keep (k _ (.cells zst 49)) (by simp)
    simpa using this
  · have := (alm_new ((w.alloc (.cells #[.int .u64 0] 31)).alloc (.cells zmt 37)) (w.heap.size + 4) (by simp) 0).keep (k _ (.cells zst 49)) (by simp)
    simpa using this
  · have := st_new (((w.alloc (.cells #[.int .u64 0] 31)).alloc (.cells zmt 37)).alloc (.cells #[.pointer none] 45))
    simpa using this
  · exact (((((But.refl [] w).alloc _).alloc _).alloc _).alloc _).below (Nat.le_refl _) (by simp)
/-- A deed's box. -/
structure Bx (q : Nat) (K E N T : Int) (w : World) : Prop where
  k : w.cell? ⟨q, 0, none⟩ = some (.int .i64 K)
  e : w.cell? ⟨q, 1, none⟩ = some (.int .i64 E)
  n : w.cell? ⟨q, 2, none⟩ = some (.int .i64 N)
  t : w.cell? ⟨q, 3, none⟩ = some (.int .u64 T)
theorem Bx.keep {l : List Nat} {q : Nat} {K E N T : Int} {w w' : World} (h : Bx q K E N T w) (k : But l w w') (hn : q ∉ l) : Bx q K E N T w' :=
  ⟨cell_keep h.k k hn, cell_keep h.e k hn, cell_keep h.n k hn, cell_keep h.t k hn⟩
theorem bx_new (w : World) (K E N T : Int) : Bx w.heap.size K E N T (w.alloc (.cells #[.int .i64 K, .int .i64 E, .int .i64 N, .int .u64 T] 51)) := by
  exact ⟨by simp, by simp, by simp, by simp⟩
/-- The four, and a deed's box beside them. -/
structure Sq (w : World) (g bm ba bx q : Nat) (K E N T : Int) (n : Int) (m : Nat → Int) (x : Int) (t : Bool) (n2 : Int) (m2 : Nat → Int) (x2 : Int) (t2 : Bool) (wx : World) : Prop where
  st : St w g bm ba bx n m x t n2 m2 x2 t2 wx
  box : Bx q K E N T wx
  lt : bx < q
  by_ : ∀ s, AlmAt wx ba (some s) → s ≠ q
section
variable {w : World} {g bm ba bx q : Nat} {K E N T n x n2 x2 : Int} {m m2 : Nat → Int} {t t2 : Bool} {wx : World}
theorem sq_new (h : St w g bm ba bx n m x t n2 m2 x2 t2 wx) : Sq w g bm ba bx wx.heap.size K E N T n m x t n2 m2 x2 t2 (wx.alloc (.cells #[.int .i64 K, .int .i64 E, .int .i64 N, .int .u64 T] 51)) :=
  ⟨h.keep ((But.refl [] wx).alloc _), bx_new wx K E N T, h.size, fun s hs => by have := h.alm.by_lt ((But.refl [] wx).alloc _) hs; omega⟩
theorem Sq.keep (h : Sq w g bm ba bx q K E N T n m x t n2 m2 x2 t2 wx) {wy : World} (k : But [] wx wy) : Sq w g bm ba bx q K E N T n m x t n2 m2 x2 t2 wy :=
  ⟨h.st.keep k, h.box.keep k (by simp), h.lt, fun s hs => h.by_ s ((k.block ba h.st.alm.lt (by simp)).symm.trans hs)⟩
theorem Sq.drew (h : Sq w g bm ba bx q K E N T n m x t n2 m2 x2 t2 wx) : Sq w g bm ba bx q K E N T n m x t n2 m2 x2 t2 wx.drew := h.keep ((But.refl [] wx).drew)
theorem Sq.ql (h : Sq w g bm ba bx q K E N T n m x t n2 m2 x2 t2 wx) : q < wx.heap.size := lt_of_cell h.box.k
/-- A block of the four has turned, and is said anew: all else stands. -/
theorem Sq.clk_ (h : Sq w g bm ba bx q K E N T n m x t n2 m2 x2 t2 wx) {wy : World} {n' : Int} (k : But [g] wx wy) (c : ClkAt wy g n') : Sq w g bm ba bx q K E N T n' m x t n2 m2 x2 t2 wy := by
  obtain ⟨o1, o2, o3⟩ := h.st.ord
  have hq := h.lt
  exact ⟨⟨h.st.ord, c, h.st.mtr.keep k (by simp; omega), h.st.alm.keep k (by simp; omega), h.st.ref.keep k (by simp; omega), below_but h.st.bel k (by simp) (by have := h.st.clk.lt; omega)⟩, h.box.keep k (by simp; omega), h.lt, fun s hs => h.by_ s ((k.block ba h.st.alm.lt (by simp; omega)).symm.trans hs)⟩
theorem Sq.mtr_ (h : Sq w g bm ba bx q K E N T n m x t n2 m2 x2 t2 wx) {wy : World} {m' : Nat → Int} (k : But [bm] wx wy) (c : MtAt wy bm m') : Sq w g bm ba bx q K E N T n m' x t n2 m2 x2 t2 wy := by
  obtain ⟨o1, o2, o3⟩ := h.st.ord
  have hq := h.lt
  exact ⟨⟨h.st.ord, h.st.clk.keep k (by simp; omega), c, h.st.alm.keep k (by simp; omega), h.st.ref.keep k (by simp; omega), below_but h.st.bel k (by simp; omega) (by have := h.st.clk.lt; omega)⟩, h.box.keep k (by simp; omega), h.lt, fun s hs => h.by_ s ((k.block ba h.st.alm.lt (by simp; omega)).symm.trans hs)⟩
theorem Sq.ref_ (h : Sq w g bm ba bx q K E N T n m x t n2 m2 x2 t2 wx) {wy : World} {n' x' : Int} {m' : Nat → Int} {t' : Bool} (k : But [bx] wx wy) (c : RfAt wy bx n' m' x' t') : Sq w g bm ba bx q K E N T n m x t n' m' x' t' wy := by
  obtain ⟨o1, o2, o3⟩ := h.st.ord
  have hq := h.lt
  exact ⟨⟨h.st.ord, h.st.clk.keep k (by simp; omega), h.st.mtr.keep k (by simp; omega), h.st.alm.keep k (by simp; omega), c, below_but h.st.bel k (by simp; omega) (by have := h.st.clk.lt; omega)⟩, h.box.keep k (by simp; omega), h.lt, fun s hs => h.by_ s ((k.block ba h.st.alm.lt (by simp; omega)).symm.trans hs)⟩
theorem Sq.set_ (h : Sq w g bm ba bx q K E N T n m x t n2 m2 x2 t2 wx) {wy : World} {x' : Int} {t' : Bool} (k : But [ba] wx wy) (c : Alm wy ba (bx + 1) t' x') (hb : ∀ s, AlmAt wy ba (some s) → wx.heap.size ≤ s) : Sq w g bm ba bx q K E N T n m x' t' n2 m2 x2 t2 wy := by
  obtain ⟨o1, o2, o3⟩ := h.st.ord
  have hq := h.lt
  have hql := h.ql
  exact ⟨⟨h.st.ord, h.st.clk.keep k (by simp; omega), h.st.mtr.keep k (by simp; omega), c, h.st.ref.keep k (by simp; omega), below_but h.st.bel k (by simp; omega) (by have := h.st.clk.lt; omega)⟩, h.box.keep k (by simp; omega), h.lt, fun s hs => by have := hb s hs; omega⟩
theorem Sq.off_ (h : Sq w g bm ba bx q K E N T n m x t n2 m2 x2 t2 wx) {wy : World} {x' : Int} {t' : Bool} {l : List Nat} (hl : ∀ k, k ∈ l → bx + 1 ≤ k ∧ AlmAt wx ba (some k)) (k : But l wx wy) (c : Alm wy ba (bx + 1) t' x') : Sq w g bm ba bx q K E N T n m x' t' n2 m2 x2 t2 wy := by
  obtain ⟨o1, o2, o3⟩ := h.st.ord
  have hq := h.lt
  have hlt : ∀ i, i ≤ bx → i ∉ l := fun i hi hm => by have := (hl i hm).1; omega
  exact ⟨⟨h.st.ord, h.st.clk.keep k (hlt _ (by omega)), h.st.mtr.keep k (hlt _ (by omega)), c, h.st.ref.keep k (hlt _ (by omega)), below_but h.st.bel k (fun i hi => by have := (hl i hi).1; omega) (by have := h.st.clk.lt; omega)⟩, h.box.keep k (fun hm => h.by_ q (hl q hm).2 rfl), h.lt, fun s hs => h.by_ s ((k.block ba h.st.alm.lt (hlt _ (by omega))).symm.trans hs)⟩

/-! ### What the law itself stores into the document's state -/
theorem Sq.putNow (h : Sq w g bm ba bx q K E N T n m x t n2 m2 x2 t2 wx) (v : Int) : Sq w g bm ba bx q K E N T n m x t v m2 x2 t2 (wx.setCell ⟨bx, 0, none⟩ (.int .u64 v)) := h.ref_ ((But.refl _ _).setCell (by simp) _) (h.st.ref.setNow v)
theorem Sq.putOf (h : Sq w g bm ba bx q K E N T n m x t n2 m2 x2 t2 wx) (k : Nat) (hk : k < 16) (v : Int) : Sq w g bm ba bx q K E N T n m x t n2 (upd m2 k v) x2 t2 (wx.setCell ⟨bx, 1 + k, none⟩ (.int .i64 v)) := h.ref_ ((But.refl _ _).setCell (by simp) _) (h.st.ref.setOf k hk v)
theorem Sq.putAt (h : Sq w g bm ba bx q K E N T n m x t n2 m2 x2 t2 wx) (v : Int) : Sq w g bm ba bx q K E N T n m x t n2 m2 v t2 (wx.setCell ⟨bx, 17, none⟩ (.int .u64 v)) := h.ref_ ((But.refl _ _).setCell (by simp) _) (h.st.ref.setAt v)
theorem Sq.putIs (h : Sq w g bm ba bx q K E N T n m x t n2 m2 x2 t2 wx) (v : Bool) : Sq w g bm ba bx q K E N T n m x t n2 m2 x2 v (wx.setCell ⟨bx, 18, none⟩ (.bool v)) := h.ref_ ((But.refl _ _).setCell (by simp) _) (h.st.ref.setIs v)

/-! ### What the regions load -/
theorem s10 (h : Hid (Sq w g bm ba bx q K E N T n m x t n2 m2 x2 t2 wx)) : wx.cell? ⟨q, 3, none⟩ = some (.int .u64 T) ∧ wx.cell? ⟨bx, 0, none⟩ = some (.int .u64 n2) := ⟨h.out.box.t, h.out.st.ref.now.1⟩
theorem s13 (h : Hid (Sq w g bm ba bx q K E N T n m x t n2 m2 x2 t2 wx)) : wx.cell? ⟨q, 1, none⟩ = some (.int .i64 E) ∧ wx.cell? ⟨q, 2, none⟩ = some (.int .i64 N) := ⟨h.out.box.e, h.out.box.n⟩
theorem s16 (h : Hid (Sq w g bm ba bx q K E N T n m x t n2 m2 x2 t2 wx)) : wx.cell? ⟨q, 1, none⟩ = some (.int .i64 E) := h.out.box.e
theorem s25 (h : Hid (Sq w g bm ba bx q K E N T n m x t n2 m2 x2 t2 wx)) : wx.cell? ⟨bx, 18, none⟩ = some (.bool t2) := h.out.st.ref.is.1
theorem s29 (h : Hid (Sq w g bm ba bx q K E N T n m x t n2 m2 x2 t2 wx)) : wx.cell? ⟨q, 3, none⟩ = some (.int .u64 T) := h.out.box.t
theorem s36 (h : Hid (Sq w g bm ba bx q K E N T n m x t n2 m2 x2 t2 wx)) : wx.cell? ⟨q, 1, none⟩ = some (.int .i64 E) ∧ wx.cell? ⟨bx, 0, none⟩ = some (.int .u64 n2) := ⟨h.out.box.e, h.out.st.ref.now.1⟩

/-! ### The calls -/
theorem go_s (v s : Int) (h : Sq w g bm ba bx q K E N T n m x t n2 m2 x2 t2 wx) (hs : IntKind.u64.wrap (n + v) = s) :
    Calls Try.prog 6 #[.pointer (some ⟨g, 0, none⟩), .int .u64 v] wx fun e w' => e = .returned (.int .u64 s) ∧ Hid (Sq w g bm ba bx q K E N T s m x t n2 m2 x2 t2 w') :=
  (go_c g n v s wx h.st.clk hs).mono fun e w' ⟨h1, h2, h3⟩ => ⟨h1, h.clk_ h3 h2⟩
theorem spend_s (k : Nat) (v s : Int) (h : Sq w g bm ba bx q K E N T n m x t n2 m2 x2 t2 wx) (hk : k < 16) (h0 : 0 ≤ v) (h1 : v ≤ 4096) (hs : IntKind.i64.wrap (m k + v) = s) :
    Calls Try.prog 7 #[.pointer (some ⟨bm, 0, none⟩), .int .i64 k, .int .i64 v] wx fun e w' => e = .returned (.bool true) ∧ Hid (Sq w g bm ba bx q K E N T n (upd m k s) x t n2 m2 x2 t2 w') :=
  (spend_c bm m k v s wx h.st.mtr hk h0 h1 hs).mono fun e w' ⟨h1, h2, h3⟩ => ⟨h1, h.mtr_ h3 h2⟩
theorem rspend_s (k : Nat) (v s : Int) (h : Sq w g bm ba bx q K E N T n m x t n2 m2 x2 t2 wx) (hk : k < 16) (h0 : 0 ≤ v) (h1 : v ≤ 4096) (hs : IntKind.i64.wrap (m2 k + v) = s) :
    Calls Try.prog 8 #[.pointer (some ⟨bx, 0, none⟩), .int .i64 k, .int .i64 v] wx fun e w' => e = .returned (.bool true) ∧ Hid (Sq w g bm ba bx q K E N T n m x t n2 (upd m2 k s) x2 t2 w') :=
  (rspend_c bx n2 m2 x2 t2 k v s wx h.st.ref hk h0 h1 hs).mono fun e w' ⟨h1, h2, h3⟩ => ⟨h1, h.ref_ h3 h2⟩
theorem spend_ns (e v : Int) (h : Sq w g bm ba bx q K E N T n m x t n2 m2 x2 t2 wx) (hn : ¬ mayS e v) :
    Calls Try.prog 7 #[.pointer (some ⟨bm, 0, none⟩), .int .i64 e, .int .i64 v] wx fun e w' => e = .returned (.bool false) ∧ Hid (Sq w g bm ba bx q K E N T n m x t n2 m2 x2 t2 w') :=
  (spend_no bm e v wx hn).mono fun e w' ⟨h1, h2⟩ => ⟨h1, h2 ▸ h⟩
theorem rspend_ns (e v : Int) (h : Sq w g bm ba bx q K E N T n m x t n2 m2 x2 t2 wx) (hn : ¬ mayS e v) :
    Calls Try.prog 8 #[.pointer (some ⟨bx, 0, none⟩), .int .i64 e, .int .i64 v] wx fun e w' => e = .returned (.bool false) ∧ Hid (Sq w g bm ba bx q K E N T n m x t n2 m2 x2 t2 w') :=
  (rspend_no bx e v wx hn).mono fun e w' ⟨h1, h2⟩ => ⟨h1, h2 ▸ h⟩
theorem clear_s (k : Nat) (h : Sq w g bm ba bx q K E N T n m x t n2 m2 x2 t2 wx) (hk : k < 16) (v : Int) (hv : spentP m k = v) :
    Calls Try.prog 9 #[.pointer (some ⟨bm, 0, none⟩), .int .i64 k] wx fun e w' => e = .returned (.int .i64 v) ∧ Hid (Sq w g bm ba bx q K E N T n (upd m k 0) x t n2 m2 x2 t2 w') :=
  (clear_c bm m k wx h.st.mtr hk).mono fun e w' ⟨h1, h2, h3⟩ => ⟨by rw [h1, ← hv]; unfold spentP; rw [if_pos (by omega)]; rfl, h.mtr_ h3 h2⟩
theorem clear_ns (e : Int) (h : Sq w g bm ba bx q K E N T n m x t n2 m2 x2 t2 wx) (hn : e < 0 ∨ 16 ≤ e) (v : Int) (hv : spentP m e = v) :
    Calls Try.prog 9 #[.pointer (some ⟨bm, 0, none⟩), .int .i64 e] wx fun r w' => r = .returned (.int .i64 v) ∧ Hid (Sq w g bm ba bx q K E N T n m x t n2 m2 x2 t2 w') :=
  (clear_no bm e wx hn).mono fun r w' ⟨h1, h2⟩ => ⟨by rw [h1, ← hv]; unfold spentP; rw [if_neg (by omega)], h2 ▸ h⟩
theorem rof_s (e : Int) (h : Sq w g bm ba bx q K E N T n m x t n2 m2 x2 t2 wx) (v : Int) (hv : spentP m2 e = v) :
    Calls Try.prog 10 #[.pointer (some ⟨bx, 0, none⟩), .int .i64 e] wx fun r w' => r = .returned (.int .i64 v) ∧ Hid (Sq w g bm ba bx q K E N T n m x t n2 m2 x2 t2 w') :=
  (rof_c bx n2 m2 x2 t2 e wx h.st.ref).mono fun r w' ⟨h1, h2⟩ => ⟨by rw [h1, hv], h2 ▸ h⟩
theorem spent_s (e : Int) (h : Sq w g bm ba bx q K E N T n m x t n2 m2 x2 t2 wx) (v : Int) (hv : spentP m e = v) :
    Calls Try.prog 16 #[.pointer (some ⟨bm, 0, none⟩), .int .i64 e] wx fun r w' => r = .returned (.int .i64 v) ∧ Hid (Sq w g bm ba bx q K E N T n m x t n2 m2 x2 t2 w') :=
  (spent_c bm m e wx h.st.mtr).mono fun r w' ⟨h1, h2⟩ => ⟨by rw [h1, hv], h2 ▸ h⟩
theorem all_s (h : Sq w g bm ba bx q K E N T n m x t n2 m2 x2 t2 wx) (v : Int) (hv : sumW m 16 = v) :
    Calls Try.prog 17 #[.pointer (some ⟨bm, 0, none⟩)] wx fun r w' => r = .returned (.int .i64 v) ∧ Hid (Sq w g bm ba bx q K E N T n m x t n2 m2 x2 t2 w') :=
  (all_c bm m wx h.st.mtr).mono fun r w' ⟨h1, h2⟩ => ⟨by rw [h1, hv], h2 ▸ h⟩
theorem now_s (h : Sq w g bm ba bx q K E N T n m x t n2 m2 x2 t2 wx) :
    Calls Try.prog 15 #[.pointer (some ⟨g, 0, none⟩)] wx fun r w' => r = .returned (.int .u64 n) ∧ Hid (Sq w g bm ba bx q K E N T n m x t n2 m2 x2 t2 w') :=
  (now_c g n wx h.st.clk).mono fun r w' ⟨h1, h2⟩ => ⟨h1, h2 ▸ h⟩
theorem set_s (v : Int) (h : Sq w g bm ba bx q K E N T n m x t n2 m2 x2 t2 wx) :
    Calls Try.prog 11 #[.pointer (some ⟨ba, 0, none⟩), .int .u64 v] wx fun r w' => r = .returned (.tuple #[]) ∧ Hid (Sq w g bm ba bx q K E N T n m v true n2 m2 x2 t2 w') :=
  (set_c ba (bx + 1) t x v wx h.st.alm h.st.size).mono fun r w' ⟨h1, h2, h3, h4⟩ => ⟨h1, h.set_ h3 h2 h4⟩
theorem off_s (h : Sq w g bm ba bx q K E N T n m x t n2 m2 x2 t2 wx) :
    Calls Try.prog 12 #[.pointer (some ⟨ba, 0, none⟩)] wx fun r w' => r = .returned (.bool t) ∧ Hid (Sq w g bm ba bx q K E N T n m x false n2 m2 x2 t2 w') :=
  (off_c ba (bx + 1) t x wx h.st.alm).mono fun r w' ⟨h1, h2, l, h3, h4⟩ => ⟨h1, h.off_ h3 h4 h2⟩
theorem due_s (v : Int) (h : Sq w g bm ba bx q K E N T n m x t n2 m2 x2 t2 wx) (r d : Bool) (hr : (t && decide (x ≤ v)) = r) (hd : (t && !decide (x ≤ v)) = d) :
    Calls Try.prog 13 #[.pointer (some ⟨ba, 0, none⟩), .int .u64 v] wx fun e w' => e = .returned (.bool r) ∧ Hid (Sq w g bm ba bx q K E N T n m x d n2 m2 x2 t2 w') :=
  (due_c ba (bx + 1) t x v wx h.st.alm).mono fun e w' ⟨h1, h2, l, h3, h4⟩ => ⟨by rw [h1, hr], h.off_ h3 h4 (by rw [← hd]; exact h2)⟩
theorem rdue_s (v : Int) (h : Sq w g bm ba bx q K E N T n m x t n2 m2 x2 t2 wx) (r d : Bool) (hr : (t2 && decide (x2 ≤ v)) = r) (hd : (t2 && !decide (x2 ≤ v)) = d) :
    Calls Try.prog 14 #[.pointer (some ⟨bx, 0, none⟩), .int .u64 v] wx fun e w' => e = .returned (.bool r) ∧ Hid (Sq w g bm ba bx q K E N T n m x t n2 m2 x2 d w') :=
  (rdue_c bx n2 m2 x2 t2 v wx h.st.ref).mono fun e w' ⟨h1, h2, h3⟩ => ⟨by rw [h1, hr], h.ref_ h3 (by rw [← hd]; exact h2)⟩
end
end Go.Proofs.Ytbephnjnlcfapaa.Cl
