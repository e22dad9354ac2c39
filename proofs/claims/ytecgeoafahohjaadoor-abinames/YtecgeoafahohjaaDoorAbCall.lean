/-
  Layer 14 (abi): how a call lies in the machine's memory; calls, Words and programs compared, over the translated program.
-/
import Derived.Test.YtecgeoafahohjaaDoorAbBase
import Derived.Test.YtecgeoafahohjaaDoorWhole
import Derived.ChangeKeysEq
namespace Go.Proofs.YtecgeoafahohjaaDoor.Ab
open Go.ChangeShapes Go.WideShapes Go.ChangeAt Go.RowKit
open Wh
set_option linter.unusedVariables false
set_option maxRecDepth 20000

/-- Numbers of 32 bits as cells. -/
def uv (r : List Int) : List Value := r.map (Value.int .u32)
theorem uv_len (r : List Int) : (uv r).length = r.length := by simp [uv]
theorem uv_get (r : List Int) (j : Nat) (h : j < r.length) : (uv r)[j]? = some (.int .u32 (r.getD j 0)) := by simp [uv, List.getD, h]
theorem uv_one (r : List Int) : ∀ v ∈ uv r, v.oneCell' = true := by
  intro v hv
  simp only [uv, List.mem_map] at hv
  obtain ⟨i, _, rfl⟩ := hv
  rfl
/-- Four numbers. -/
def av (g : Nat → Int) : List Value := [.int .i64 (g 0), .int .i64 (g 1), .int .i64 (g 2), .int .i64 (g 3)]
/-- A call's cells: its Op, its numbers, its Words and its Program. -/
def cv (x : Int) (g : Nat → Int) (r : List Int) : List Value := .int .i64 x :: (av g ++ uv r)
def cf (x : Int) (g : Nat → Int) (r : List Int) (j : Nat) : Value := if j = 0 then .int .i64 x else if j < 5 then .int .i64 (g (j - 1)) else .int .u32 (r.getD (j - 5) 0)
theorem cv_len (x : Int) (g : Nat → Int) {r : List Int} (h : r.length = 33) : (cv x g r).length = 38 := by simp [cv, av, uv, h]
theorem four_cases {j : Nat} (h : j < 4) : j = 0 ∨ j = 1 ∨ j = 2 ∨ j = 3 := by omega
theorem av_get (g : Nat → Int) (j : Nat) (h : j < 4) : (av g)[j]? = some (.int .i64 (g j)) := by
  rcases four_cases h with rfl | rfl | rfl | rfl <;> rfl
theorem cv_get (x : Int) (g : Nat → Int) {r : List Int} (h : r.length = 33) (j : Nat) (hj : j < 38) : (cv x g r)[j]? = some (cf x g r j) := by
  unfold cv cf
  rcases Nat.eq_zero_or_pos j with rfl | h0
  · rfl
  · obtain ⟨i, rfl⟩ : ∃ i, j = i + 1 := ⟨j - 1, by omega⟩
    rw [List.getElem?_cons_succ, if_neg (by omega)]
    by_cases h5 : i + 1 < 5
    · rw [if_pos h5, List.getElem?_append_left (by simp [av]; omega), av_get g i (by omega)]
      rfl
    · rw [if_neg h5, List.getElem?_append_right (by simp [av]; omega), uv_get _ _ (by simp [av]; omega)]
      rfl
theorem cv_one (x : Int) (g : Nat → Int) (r : List Int) : ∀ v ∈ cv x g r, v.oneCell' = true := by
  intro v hv
  unfold cv at hv
  rcases List.mem_cons.1 hv with rfl | hv
  · rfl
  · rcases List.mem_append.1 hv with hv | hv
    · simp only [av, List.mem_cons, List.not_mem_nil, or_false] at hv
      rcases hv with rfl | rfl | rfl | rfl <;> rfl
    · exact uv_one r v hv
theorem cv_congr (x : Int) (g h : Nat → Int) (r : List Int) (e : ∀ j, j < 4 → g j = h j) : cv x g r = cv x h r := by
  unfold cv av
  rw [e 0 (by omega), e 1 (by omega), e 2 (by omega), e 3 (by omega)]
theorem szCall : (Tryd.prog.info? 29).map (·.size) = some 38 := by kernel_rfl
theorem szWords : (Tryd.prog.info? 25).map (·.size) = some 16 := by kernel_rfl
theorem szProg : (Tryd.prog.info? 27).map (·.size) = some 17 := by kernel_rfl
theorem szFour : (Tryd.prog.info? 22).map (·.size) = some 4 := by kernel_rfl
theorem iCall (x : Int) (g : Nat → Int) {r : List Int} (h : r.length = 33) : (Tryd.prog.info? 29).map (·.size) = some (cv x g r).length := by rw [cv_len x g h]; exact szCall
theorem iCall' (x : Int) (g : Nat → Int) {r : List Int} (h : r.length = 33) : (Tryd.prog.info? 29).map (·.size) = some (cv x g r).toArray.size := by rw [show (cv x g r).toArray.size = 38 by simp [cv_len x g h]]; exact szCall
/-- The Words, the Program. -/
def wv (r : List Int) : List Value := uv (r.take 16)
def pv (r : List Int) : List Value := uv (r.drop 16)
theorem wv_len {r : List Int} (h : r.length = 33) : (wv r).length = 16 := by simp [wv, uv_len, h]
theorem pv_len {r : List Int} (h : r.length = 33) : (pv r).length = 17 := by simp [pv, uv_len, h]
theorem wv_get {r : List Int} (h : r.length = 33) (j : Nat) (hj : j < 16) : (wv r)[j]? = some (.int .u32 (r.getD j 0)) := by
  unfold wv
  rw [uv_get _ _ (by simp [h]; omega)]
  simp [List.getD_eq_getElem?_getD, hj]
theorem pv_get {r : List Int} (h : r.length = 33) (j : Nat) (hj : j < 17) : (pv r)[j]? = some (.int .u32 (r.getD (16 + j) 0)) := by
  unfold pv
  rw [uv_get _ _ (by simp [h]; omega)]
  simp [List.getD_eq_getElem?_getD]
theorem iWords {r : List Int} (h : r.length = 33) : (Tryd.prog.info? 25).map (·.size) = some (wv r).length := by rw [wv_len h]; exact szWords
theorem iProg {r : List Int} (h : r.length = 33) : (Tryd.prog.info? 27).map (·.size) = some (pv r).length := by rw [pv_len h]; exact szProg

/-- Block b is a call. -/
structure CallAt (w : World) (b : Nat) (x : Int) (g : Nat → Int) (r : List Int) : Prop where
  vb : VB w b 38 (cf x g r)
  len : r.length = 33
section
variable {w : World} {b : Nat} {x : Int} {g : Nat → Int} {r : List Int}
theorem CallAt.lt (h : CallAt w b x g r) : b < w.heap.size := VB.lt h.vb (by omega)
theorem CallAt.keep {l : List Nat} {w' : World} (h : CallAt w b x g r) (k : But l w w') (hn : b ∉ l) : CallAt w' b x g r := ⟨h.vb.keep k hn, h.len⟩
theorem CallAt.keep0 {w' : World} (h : CallAt w b x g r) (k : But [] w w') : CallAt w' b x g r := h.keep k (by simp)
theorem CallAt.op (h : CallAt w b x g r) : w.cell? ⟨b, 0, none⟩ = some (.int .i64 x) := (h.vb 0 (by omega)).1
theorem CallAt.arg (h : CallAt w b x g r) (j : Nat) (hj : j < 4) : w.cell? ⟨b, 1 + j, none⟩ = some (.int .i64 (g j)) ∧ w.frozen? ⟨b, 1 + j, none⟩ = false := by
  have := h.vb (1 + j) (by omega)
  unfold cf at this
  rwa [if_neg (by omega), if_pos (by omega), show 1 + j - 1 = j by omega] at this
theorem CallAt.all (h : CallAt w b x g r) : w.rangeAt b 0 (cv x g r) := h.vb.range _ (by rw [cv_len x g h.len]; omega) fun i hi => by
  rw [cv_len x g h.len] at hi
  rw [cv_get x g h.len i hi, Nat.zero_add]
theorem CallAt.args (h : CallAt w b x g r) : w.rangeAt b 1 (av g) := fun j v hv => by
  have hj : j < 4 := (List.getElem?_eq_some_iff.1 hv).1
  rw [av_get g j hj] at hv
  injection hv with hv
  subst hv
  exact (h.arg j hj).1
theorem CallAt.words (h : CallAt w b x g r) : w.rangeAt b 5 (wv r) := fun j v hv => by
  have hj : j < 16 := by have := (List.getElem?_eq_some_iff.1 hv).1; rwa [wv_len h.len] at this
  rw [wv_get h.len j hj] at hv
  injection hv with hv
  subst hv
  have := (h.vb (5 + j) (by omega)).1
  unfold cf at this
  rwa [if_neg (by omega), if_neg (by omega), show 5 + j - 5 = j by omega] at this
theorem CallAt.prog (h : CallAt w b x g r) : w.rangeAt b 21 (pv r) := fun j v hv => by
  have hj : j < 17 := by have := (List.getElem?_eq_some_iff.1 hv).1; rwa [pv_len h.len] at this
  rw [pv_get h.len j hj] at hv
  injection hv with hv
  subst hv
  have := (h.vb (21 + j) (by omega)).1
  unfold cf at this
  rwa [if_neg (by omega), if_neg (by omega), show 21 + j - 5 = 16 + j by omega] at this
theorem CallAt.there (h : CallAt w b x g r) : w.there b 0 38 := VB.there h.vb (by omega)
theorem CallAt.set (h : CallAt w b x g r) (j : Nat) (hj : j < 4) (v : Int) : CallAt (w.setCell ⟨b, 1 + j, none⟩ (.int .i64 v)) b x (upd g j v) r :=
  ⟨(h.vb.set (k := 1 + j) (.int .i64 v)).congr fun i hi => by
    show (if i = 1 + j then _ else cf x g r i) = cf x (upd g j v) r i
    unfold cf upd
    by_cases e : i = 1 + j
    · rw [if_pos e, if_neg (by omega), if_pos (by omega), if_pos (by omega)]
    · rw [if_neg e]
      by_cases e0 : i = 0
      · rw [if_pos e0, if_pos e0]
      · rw [if_neg e0, if_neg e0]
        by_cases e5 : i < 5
        · rw [if_pos e5, if_pos e5, if_neg (by omega)]
        · rw [if_neg e5, if_neg e5], h.len⟩
theorem CallAt.sets {w' : World} (h : w'.there b 0 38) (hl : r.length = 33) : CallAt (w'.setCells b 0 (cv x g r)) b x g r :=
  ⟨fun j hj => by
    have hR := World.rangeAt_setCells_same w' b 0 (cv x g r) (by rw [cv_len x g hl]; exact h)
    have hT := World.there_setCells h b 0 (cv x g r)
    refine ⟨?_, ?_⟩
    · have := hR j _ (cv_get x g hl j hj); rwa [Nat.zero_add] at this
    · have := (hT j hj).2; rwa [Nat.zero_add] at this, hl⟩
theorem CallAt.drew (h : CallAt w b x g r) : CallAt w.drew b x g r := h.keep0 (But.refl [] w).drew
theorem CallAt.congr {g' : Nat → Int} (h : CallAt w b x g r) (e : ∀ j, j < 4 → g j = g' j) : CallAt w b x g' r :=
  ⟨h.vb.congr fun j hj => by
    unfold cf
    by_cases e0 : j = 0
    · rw [if_pos e0, if_pos e0]
    · rw [if_neg e0, if_neg e0]
      by_cases e5 : j < 5
      · rw [if_pos e5, if_pos e5, e (j - 1) (by omega)]
      · rw [if_neg e5, if_neg e5], h.len⟩
end
theorem call_new (w : World) (x : Int) (g : Nat → Int) {r : List Int} (h : r.length = 33) (t : TypeId) : CallAt (w.alloc (.cells (cv x g r).toArray t)) w.heap.size x g r :=
  ⟨VB.new w _ t 38 (by rw [List.size_toArray, cv_len x g h]) _ fun j hj => by rw [List.getElem?_toArray]; exact cv_get x g h j hj, h⟩

theorem run_eqItems_k {P : Program} {w : World} {e : TypeId} (k : IntKind) (hu : P.underlying e = some (.int k)) (hp : P.plainKey e = true) (X Y : Array Value) (f g : Nat → Int) (d : Nat) : ∀ (is : List Nat), (∀ i ∈ is, X[i * 1]? = some (.int k (f i))) → (∀ i ∈ is, Y[i * 1]? = some (.int k (g i))) →
    (Op.eqItems (d + 1) e 1 X Y is).run P w = .ok (decide (∀ i ∈ is, f i = g i)) w
  | [], _, _ => by simp [Op.eqItems]
  | i :: is, hX, hY => by
    have ih := run_eqItems_k k hu hp X Y f g d is (fun j hj => hX j (by simp [hj])) (fun j hj => hY j (by simp [hj])) (w := w)
    simp only [Op.eqItems, Sem.run_bind, run_part_plain w hp (hX i (by simp)), run_part_plain w hp (hY i (by simp)), Result.andThen_ok, run_equalIn_int w d e k k (f i) (g i) hu]
    by_cases hfg : f i = g i
    · simp [hfg, ih]
    · simp [hfg]
theorem plainU32 : Tryd.prog.plainKey 23 = true := by kernel_rfl
theorem cellsU32 : Tryd.prog.cellsOf 23 = 1 := by kernel_rfl
theorem plainInt : Tryd.prog.plainKey 3 = true := by kernel_rfl
theorem cellsInt : Tryd.prog.cellsOf 3 = 1 := by kernel_rfl
/-- Noughts. -/
def zs : Nat → List Int := fun n => List.replicate n 0
theorem zs_get (n j : Nat) : (zs n).getD j 0 = 0 := by
  rw [List.getD_eq_getElem?_getD, zs, List.getElem?_replicate]
  split <;> rfl
/-- Rows of numbers of 32 bits, compared. -/
theorem eqArr (t : TypeId) (n d : Nat) (ht : Tryd.prog.underlying t = some (.array n 23)) (X Y : Array Value) (f g : Nat → Int) (hX : ∀ i, i < n → X[i]? = some (.int .u32 (f i))) (hY : ∀ i, i < n → Y[i]? = some (.int .u32 (g i))) (w : World) :
    (Op.equalIn (d + 1 + 1) t (.agg X) (.agg Y)).run Tryd.prog w = .ok (decide (∀ i ∈ List.range n, f i = g i)) w := by
  obtain ⟨i0, hi⟩ : ∃ i0, Tryd.prog.info? 23 = some i0 := Option.isSome_iff_exists.1 (by kernel_rfl)
  rw [run_equalIn_array w (d + 1) X Y ht hi, cellsU32]
  exact run_eqItems_k .u32 Tryd.underlying23 plainU32 _ _ f g d (List.range n)
    (fun i hi => by rw [Nat.mul_one]; exact hX i (List.mem_range.1 hi)) (fun i hi => by rw [Nat.mul_one]; exact hY i (List.mem_range.1 hi))
theorem eqWords {r s : List Int} (hr : r.length = 33) (hs : s.length = 33) (d : Nat) (w : World) :
    (Op.equalIn (d + 1 + 1) 25 (.agg (wv r).toArray) (.agg (wv s).toArray)).run Tryd.prog w = .ok (decide (∀ i ∈ List.range 16, r.getD i 0 = s.getD i 0)) w :=
  eqArr _ 16 d Tryd.underlying25 _ _ _ _ (fun i hi => by rw [List.getElem?_toArray]; exact wv_get hr i hi) (fun i hi => by rw [List.getElem?_toArray]; exact wv_get hs i hi) w
/-- A part of the cells that is an array; one that is a struct. -/
theorem part_arr (t e : TypeId) (n m o : Nat) (X : Array Value) (ht : Tryd.prog.underlying t = some (.array m e)) (hs : (Tryd.prog.info? t).map (·.size) = some n) (w : World) : (part t X o).run Tryd.prog w = .ok (.agg (X.extract o (o + n))) w := by
  obtain ⟨i0, hi, hs'⟩ : ∃ i0, Tryd.prog.info? t = some i0 ∧ i0.size = n := by
    cases h : Tryd.prog.info? t with
    | none => rw [h] at hs; simp at hs
    | some i0 => rw [h] at hs; exact ⟨i0, rfl, by simpa using hs⟩
  simp [part, isAgg, run_underlying ht, sizeOf, typeInfo, hi, hs']
theorem part_str (t : TypeId) (fs : Array Field) (n o : Nat) (X : Array Value) (ht : Tryd.prog.underlying t = some (.struct fs)) (hs : (Tryd.prog.info? t).map (·.size) = some n) (w : World) : (part t X o).run Tryd.prog w = .ok (.agg (X.extract o (o + n))) w := by
  obtain ⟨i0, hi, hs'⟩ : ∃ i0, Tryd.prog.info? t = some i0 ∧ i0.size = n := by
    cases h : Tryd.prog.info? t with
    | none => rw [h] at hs; simp at hs
    | some i0 => rw [h] at hs; exact ⟨i0, rfl, by simpa using hs⟩
  simp [part, isAgg, run_underlying ht, sizeOf, typeInfo, hi, hs']
theorem ctxFields : ∃ f1 f2, (Tryd.prog.fieldsOf 27).toList = [f1, f2] ∧ (f1.type = 24 ∧ f1.offset = 0 ∧ (f1.name == "_") = false) ∧ (f2.type = 23 ∧ f2.offset = 16 ∧ (f2.name == "_") = false) :=
  ⟨(Tryd.prog.fieldsOf 27)[0]!, (Tryd.prog.fieldsOf 27)[1]!, by kernel_rfl, ⟨by kernel_rfl, by kernel_rfl, by kernel_rfl⟩, ⟨by kernel_rfl, by kernel_rfl, by kernel_rfl⟩⟩
/-- Programs are compared register by register. -/
def eqR (f g : Nat → Int) : Bool := decide (∀ i ∈ List.range 16, f i = g i) && decide (f 16 = g 16)
theorem eqCtx (X Y : Array Value) (f g : Nat → Int) (d : Nat) (hX : ∀ i, i < 17 → X[i]? = some (.int .u32 (f i))) (hY : ∀ i, i < 17 → Y[i]? = some (.int .u32 (g i))) (w : World) :
    (Op.equalIn (d + 1 + 1 + 1) 27 (.agg X) (.agg Y)).run Tryd.prog w = .ok (eqR f g) w := by
  obtain ⟨f1, f2, hf, ⟨t1, o1, n1⟩, ⟨t2, o2, n2⟩⟩ := ctxFields
  have n1' : f1.name ≠ "_" := by simpa using n1
  have n2' : f2.name ≠ "_" := by simpa using n2
  have h16 : (Tryd.prog.info? 24).map (·.size) = some 16 := by kernel_rfl
  have ha := eqArr 24 16 d Tryd.underlying24 (X.extract 0 (0 + 16)) (Y.extract 0 (0 + 16)) f g
    (fun i hi => by rw [Array.getElem?_extract]; simp; exact ⟨by have := (Array.getElem?_eq_some_iff.1 (hX 16 (by omega))).1; omega, hX i (by omega)⟩)
    (fun i hi => by rw [Array.getElem?_extract]; simp; exact ⟨by have := (Array.getElem?_eq_some_iff.1 (hY 16 (by omega))).1; omega, hY i (by omega)⟩) w
  have h1 := part_arr 24 _ 16 16 0 X Tryd.underlying24 h16 w
  have h2 := part_arr 24 _ 16 16 0 Y Tryd.underlying24 h16 w
  have h3 := run_part_plain w plainU32 (hX 16 (by omega))
  have h4 := run_part_plain w plainU32 (hY 16 (by omega))
  have h5 := run_equalIn_int w (d + 1) 23 .u32 .u32 (f 16) (g 16) Tryd.underlying23
  unfold eqR
  generalize decide (∀ i ∈ List.range 16, f i = g i) = q at ha ⊢
  have k1 : Tryd.prog.underlying 27 = some (.struct (Tryd.prog.fieldsOf 27)) := by kernel_rfl
  have k2 : Tryd.prog.stoodInHeld 27 = false := by kernel_rfl
  rw [run_equalIn_struct w (d + 1 + 1) 27 _ _ k1 k2, hf]
  clear k1 k2 hf hX hY
  unfold Op.eqFields
  rw [if_pos n1', t1, o1]
  rw [Sem.run_bind]
  rw [h1]
  rw [Result.andThen_ok, Sem.run_bind, h2, Result.andThen_ok]
  rw [Sem.run_bind]
  rw [ha]
  rw [Result.andThen_ok]
  cases q
  · rw [if_pos (by decide), Sem.run_pure, Bool.false_and]
  · rw [if_neg (by decide)]
    unfold Op.eqFields
    rw [if_pos n2', t2, o2, Sem.run_bind, h3, Result.andThen_ok, Sem.run_bind, h4, Result.andThen_ok, Sem.run_bind, h5, Result.andThen_ok, Bool.true_and]
    unfold Op.eqFields
    by_cases h : f 16 = g 16
    · rw [if_neg (by simp [h]), Sem.run_pure, decide_eq_true h]
    · rw [if_pos (by simp [h]), Sem.run_pure, decide_eq_false h]
theorem zs_len (n : Nat) : (zs n).length = n := by simp [zs]
/-- Noughts made: Words, a Program, a call. -/
def z0 : Nat → Int := fun _ => 0
theorem bWords : Tryd.prog.built 25 [] = some (wv (zs 33)).toArray := by kernel_rfl
theorem bProg : Tryd.prog.built 27 [] = some (pv (zs 33)).toArray := by kernel_rfl
theorem bCall : Tryd.prog.built 29 [] = some (cv 0 z0 (zs 33)).toArray := by kernel_rfl
theorem zCall (w : World) : (zeroValue 29).run Tryd.prog w = .ok (.agg (cv 0 z0 (zs 33)).toArray) w := by kernel_rfl
theorem neqWords {r : List Int} (h : r.length = 33) (w : World) : (binOp .neq 25 (.agg (wv r).toArray) (.agg (wv (zs 33)).toArray)).run Tryd.prog w = .ok (.bool (!wzB r)) w := by
  have e := eqWords h (zs_len 33) 9998 w
  simp only [zs_get] at e
  change (Op.equalIn 10000 _ _ _).run _ _ = .ok (wzB r) w at e
  simp [binOp, Op.equal, Op.maxDepth, e]
theorem eqP {r : List Int} (h : r.length = 33) (w : World) : (Op.equalIn 10000 27 (.agg (pv r).toArray) (.agg (pv (zs 33)).toArray)).run Tryd.prog w = .ok (pzB r) w := by
  have e := eqCtx (pv r).toArray (pv (zs 33)).toArray (fun j => r.getD (16 + j) 0) (fun j => (zs 33).getD (16 + j) 0) 9997
    (fun i hi => by rw [List.getElem?_toArray]; exact pv_get h i hi) (fun i hi => by rw [List.getElem?_toArray]; exact pv_get (zs_len 33) i hi) w
  simp only [zs_get] at e
  exact e
theorem neqProg {r : List Int} (h : r.length = 33) (w : World) : (binOp .neq 27 (.agg (pv r).toArray) (.agg (pv (zs 33)).toArray)).run Tryd.prog w = .ok (.bool (!pzB r)) w := by
  simp [binOp, Op.equal, Op.maxDepth, eqP h]
theorem eqlProg {r : List Int} (h : r.length = 33) (w : World) : (binOp .eql 27 (.agg (pv r).toArray) (.agg (pv (zs 33)).toArray)).run Tryd.prog w = .ok (.bool (pzB r)) w := by
  simp [binOp, Op.equal, Op.maxDepth, eqP h]
theorem callFields : ∃ f1 f2 f3 f4, (Tryd.prog.fieldsOf 29).toList = [f1, f2, f3, f4] ∧ (f1.type = 3 ∧ f1.offset = 0 ∧ (f1.name == "_") = false) ∧ (f2.type = 22 ∧ f2.offset = 1 ∧ (f2.name == "_") = false) ∧ (f3.type = 25 ∧ f3.offset = 5 ∧ (f3.name == "_") = false) ∧ (f4.type = 27 ∧ f4.offset = 21 ∧ (f4.name == "_") = false) :=
  ⟨(Tryd.prog.fieldsOf 29)[0]!, (Tryd.prog.fieldsOf 29)[1]!, (Tryd.prog.fieldsOf 29)[2]!, (Tryd.prog.fieldsOf 29)[3]!, by kernel_rfl, ⟨by kernel_rfl, by kernel_rfl, by kernel_rfl⟩, ⟨by kernel_rfl, by kernel_rfl, by kernel_rfl⟩, ⟨by kernel_rfl, by kernel_rfl, by kernel_rfl⟩, ⟨by kernel_rfl, by kernel_rfl, by kernel_rfl⟩⟩
theorem not_us {f : Field} (h : (f.name == "_") = false) : f.name ≠ "_" := by simpa using h
/-- A call is itself. -/
theorem eqCall (x : Int) (g : Nat → Int) {r : List Int} (h : r.length = 33) (d : Nat) (w : World) : (Op.equalIn (d + 1 + 1 + 1 + 1) 29 (.agg (cv x g r).toArray) (.agg (cv x g r).toArray)).run Tryd.prog w = .ok true w := by
  obtain ⟨f1, f2, f3, f4, hf, ⟨t1, o1, n1⟩, ⟨t2, o2, n2⟩, ⟨t3, o3, n3⟩, ⟨t4, o4, n4⟩⟩ := callFields
  have k1 : Tryd.prog.underlying 29 = some (.struct (Tryd.prog.fieldsOf 29)) := by kernel_rfl
  have k2 : Tryd.prog.stoodInHeld 29 = false := by kernel_rfl
  have hg : ∀ j, j < 38 → (cv x g r).toArray[j]? = some (cf x g r j) := fun j hj => by rw [List.getElem?_toArray]; exact cv_get x g h j hj
  have hz : (cv x g r).toArray.size = 38 := by rw [List.size_toArray, cv_len x g h]
  rw [run_equalIn_struct w (d + 1 + 1 + 1) 29 _ _ k1 k2, hf]
  clear k1 k2 hf
  generalize (cv x g r).toArray = X at *
  -- the Op
  have h1 : (part 3 X 0).run Tryd.prog w = .ok (.int .i64 x) w := run_part_plain w plainInt (hg 0 (by omega))
  have e1 := run_equalIn_int w (d + 1 + 1) 3 .i64 .i64 x x Tryd.underlying3
  -- the numbers
  have h2 := part_arr 22 _ 4 4 1 X Tryd.underlying22 szFour w
  have ha : ∀ i, i < 4 → (X.extract 1 (1 + 4))[i]? = some (.int .i64 (g i)) := fun i hi => by
    have h1 := hg (1 + i) (by omega)
    unfold cf at h1
    rw [if_neg (by omega), if_pos (by omega), show 1 + i - 1 = i by omega] at h1
    rw [Array.getElem?_extract, if_pos (by omega)]
    exact h1
  have e2 : (Op.equalIn (d + 1 + 1 + 1) 22 (.agg (X.extract 1 (1 + 4))) (.agg (X.extract 1 (1 + 4)))).run Tryd.prog w = .ok (decide (∀ i ∈ List.range 4, g i = g i)) w := by
    obtain ⟨i0, hi⟩ : ∃ i0, Tryd.prog.info? 3 = some i0 := Option.isSome_iff_exists.1 (by kernel_rfl)
    rw [run_equalIn_array w (d + 1 + 1) _ _ Tryd.underlying22 hi, cellsInt]
    exact run_eqItems_k .i64 Tryd.underlying3 plainInt _ _ g g (d + 1) (List.range 4) (fun i hi => by rw [Nat.mul_one]; exact ha i (List.mem_range.1 hi)) (fun i hi => by rw [Nat.mul_one]; exact ha i (List.mem_range.1 hi))
  rw [decide_eq_true (fun _ _ => rfl)] at e2
  -- the Words
  have h3 := part_arr 25 _ 16 16 5 X Tryd.underlying25 szWords w
  have hw : ∀ i, i < 16 → (X.extract 5 (5 + 16))[i]? = some (.int .u32 (r.getD i 0)) := fun i hi => by
    have h1 := hg (5 + i) (by omega)
    unfold cf at h1
    rw [if_neg (by omega), if_neg (by omega), show 5 + i - 5 = i by omega] at h1
    rw [Array.getElem?_extract, if_pos (by omega)]
    exact h1
  have e3 := eqArr 25 16 (d + 1) Tryd.underlying25 _ _ _ _ hw hw w
  rw [decide_eq_true (fun _ _ => rfl)] at e3
  -- the Program
  have h4 := part_str 27 _ 17 21 X Tryd.underlying27 szProg w
  have hp : ∀ i, i < 17 → (X.extract 21 (21 + 17))[i]? = some (.int .u32 (r.getD (16 + i) 0)) := fun i hi => by
    have h1 := hg (21 + i) (by omega)
    unfold cf at h1
    rw [if_neg (by omega), if_neg (by omega), show 21 + i - 5 = 16 + i by omega] at h1
    rw [Array.getElem?_extract, if_pos (by omega)]
    exact h1
  have e4 := eqCtx _ _ _ _ d hp hp w
  unfold eqR at e4
  rw [decide_eq_true (fun _ _ => rfl), decide_eq_true rfl, Bool.and_true] at e4
  clear ha hw hp hg hz
  unfold Op.eqFields
  rw [if_pos (not_us n1), t1, o1, Sem.run_bind, h1, Result.andThen_ok, Sem.run_bind, h1, Result.andThen_ok, Sem.run_bind, e1, Result.andThen_ok, if_neg (by simp)]
  unfold Op.eqFields
  rw [if_pos (not_us n2), t2, o2, Sem.run_bind, h2, Result.andThen_ok, Sem.run_bind, h2, Result.andThen_ok, Sem.run_bind, e2, Result.andThen_ok, if_neg (by simp)]
  unfold Op.eqFields
  rw [if_pos (not_us n3), t3, o3, Sem.run_bind, h3, Result.andThen_ok, Sem.run_bind, h3, Result.andThen_ok, Sem.run_bind, e3, Result.andThen_ok, if_neg (by simp)]
  unfold Op.eqFields
  rw [if_pos (not_us n4), t4, o4, Sem.run_bind, h4, Result.andThen_ok, Sem.run_bind, h4, Result.andThen_ok, Sem.run_bind, e4, Result.andThen_ok, if_neg (by simp)]
  unfold Op.eqFields
  rw [Sem.run_pure]
theorem eqlCall (x : Int) (g : Nat → Int) {r : List Int} (h : r.length = 33) (w : World) : (binOp .eql 29 (.agg (cv x g r).toArray) (.agg (cv x g r).toArray)).run Tryd.prog w = .ok (.bool true) w := by
  have e := eqCall x g h 9996 w
  change (Op.equalIn 10000 _ _ _).run _ _ = _ at e
  simp [binOp, Op.equal, Op.maxDepth, e]
theorem neqCall (x : Int) (g : Nat → Int) {r : List Int} (h : r.length = 33) (w : World) : (binOp .neq 29 (.agg (cv x g r).toArray) (.agg (cv x g r).toArray)).run Tryd.prog w = .ok (.bool false) w := by
  have e := eqCall x g h 9996 w
  change (Op.equalIn 10000 _ _ _).run _ _ = _ at e
  simp [binOp, Op.equal, Op.maxDepth, e]
end Go.Proofs.YtecgeoafahohjaaDoor.Ab
