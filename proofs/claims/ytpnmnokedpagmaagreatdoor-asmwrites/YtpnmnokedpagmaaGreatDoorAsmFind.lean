/-
  Package asm's findLabels: all labels, or the place of the first line whose label may not be.
-/
import Derived.Test.YtpnmnokedpagmaaGreatDoorAsmSeq
import Derived.Test.YtpnmnokedpagmaaGreatDoorAsmImm
import Derived.Maps.OwnIn
import Derived.Maps.OwnSet
import Derived.RangeFuncBox
namespace Go.Proofs.YtpnmnokedpagmaaGreatDoor
open Go.RowKit Go.Shelf
set_option linter.unusedVariables false
set_option linter.unusedSimpArgs false
set_option maxRecDepth 20000

/-- From block N on all lies as it lay. -/
structure Hi (N : Nat) (W W' : World) : Prop where
  size : W.heap.size ≤ W'.heap.size
  block : ∀ k, N ≤ k → k < W.heap.size → W'.heap[k]? = W.heap[k]?
theorem Hi.refl (N : Nat) (W : World) : Hi N W W := ⟨Nat.le_refl _, fun _ _ _ => rfl⟩
theorem Hi.trans {N : Nat} {U V W : World} (h : Hi N U V) (k : Hi N V W) : Hi N U W := ⟨Nat.le_trans h.size k.size, fun i h1 h2 => (k.block i h1 (Nat.lt_of_lt_of_le h2 h.size)).trans (h.block i h1 h2)⟩
theorem Hi.set {N : Nat} {U W : World} (h : Hi N U W) {b j : Nat} (hb : b < N) (v : Value) : Hi N U (W.setCell ⟨b, j, none⟩ v) :=
  h.trans ⟨by simp [World.setCell], fun k h1 h2 => Below.heap_setCell _ _ _ _ (by show k ≠ b; omega)⟩
theorem Hi.below {N : Nat} {U W W' : World} (h : Hi N U W) (k : Below W.heap.size W W') : Hi N U W' := h.trans ⟨k.size, fun i _ h2 => k.block i h2⟩
theorem Hi.grown {N : Nat} {U W W' : World} (h : Hi N U W) {m : Nat} (hm : m < N) (k : W.grownBy W' (some m)) : Hi N U W' :=
  h.trans ⟨k.size, fun i h1 h2 => k.block i h2 (fun e => by injection e; omega)⟩
theorem Hi.drew {N : Nat} {U W : World} (h : Hi N U W) : Hi N U W.drew := ⟨h.size, h.block⟩
theorem Hi.keeps {N B : Nat} {W W' : World} (h : Hi N W W') (hB : N ≤ B) : KeepsFrom B W W' := ⟨h.size, fun k o h1 h2 _ => (h.block k (by omega) (Array.getElem?_eq_some_iff.1 h2).1).trans h2⟩
theorem Hi.stands {N s m : Nat} {W W' : World} (h : Hi N W W') (h1 : N ≤ s) (h2 : s + m ≤ W.heap.size) : Stands s m W W' := fun k h3 h4 => h.block k (by omega) (by omega)
theorem grown_below {W W' : World} (k : Below W.heap.size W W') : W.grownBy W' none := ⟨k.os, k.tape, k.output, k.size, fun i hi _ => k.block i hi⟩

theorem alloc_at (w : World) (o : Obj) (k : Nat) : (w.alloc o).heap[k]? = if k = w.heap.size then some o else w.heap[k]? := by
  unfold World.alloc
  simp [Array.getElem?_push]
theorem at_new (w : World) (o : Obj) (k : Nat) (h : k = w.heap.size) : (w.alloc o).heap[k]? = some o := by rw [alloc_at, if_pos h]
theorem at_old (w : World) (o : Obj) (k : Nat) (h : k ≠ w.heap.size) : (w.alloc o).heap[k]? = w.heap[k]? := by rw [alloc_at, if_neg h]
theorem map_made {W : World} {P : Program} {k : TypeId} {R : Value → Option (DataW Unit × List MemPlace)} {m : Nat} (h : W.heap[m]? = some (.map #[] 0)) : W.ownsMap P k R m 0 (.map []) := by
  obtain ⟨es, clock, hb, F, hs, hD⟩ := World.ownsMap_made (H := Unit) W P k R
  rw [World.alloc_heap_new] at hb
  injection hb with hb
  injection hb with h1 h2
  subst h1; subst h2
  exact ⟨#[], 0, h, F, hs, hD⟩
theorem lines_count : ∀ (t : Bs), (linesOf t).length ≤ t.length + 1
  | [] => by simp [linesOf]
  | c :: t => by
    have := lines_count t
    unfold linesOf
    split
    · simp; omega
    · split
      · simp
      · rename_i e; rw [e] at this; simp at this ⊢; omega

/-- In the midst of the lines: where the boxes lie, and what they hold. -/
structure FindM (w : World) (a : Int) (k n : Nat) (D : DataW Unit) (W : World) : Prop where
  r0 : Boxed W w.heap.size 61 (.map none)
  r1 : Boxed W (w.heap.size + 1) 3 (.int .i64 0)
  r2 : Boxed W (w.heap.size + 2) 24 (.int .i64 0)
  own : W.ownsMap Tryz.prog 9 (plainElem Tryz.prog 3) (w.heap.size + 3) n D
  lab : Boxed W (w.heap.size + 4) 61 (.map (some (w.heap.size + 3)))
  at_ : Boxed W (w.heap.size + 5) 3 (.int .i64 a)
  wd : Boxed W (w.heap.size + 6) 3 (.int .i64 k)
  bel : Below w.heap.size w W
theorem FindM.kept {w : World} {a : Int} {k n : Nat} {D : DataW Unit} {W W' : World} {row : Option Nat} (h : FindM w a k n D W) (hg : W.grownBy W' row) (hr : ∀ r, row = some r → w.heap.size + 7 ≤ r) : FindM w a k n D W' :=
  have ne : ∀ i, i < w.heap.size + 7 → some i ≠ row := fun i hi e => by have := hr i e.symm; omega
  ⟨h.r0.kept hg (ne _ (by omega)), h.r1.kept hg (ne _ (by omega)), h.r2.kept hg (ne _ (by omega)), h.own.kept hg (ne _ (by omega)), h.lab.kept hg (ne _ (by omega)), h.at_.kept hg (ne _ (by omega)), h.wd.kept hg (ne _ (by omega)),
    h.bel.grown hg h.bel.size (fun r e => by have := hr r e; omega)⟩
theorem FindM.below {w : World} {a : Int} {k n : Nat} {D : DataW Unit} {W W' : World} (h : FindM w a k n D W) (hb : Below W.heap.size W W') : FindM w a k n D W' := h.kept (grown_below hb) (fun r e => by cases e)
theorem FindM.setAt {w : World} {a : Int} {k n : Nat} {D : DataW Unit} {W : World} (h : FindM w a k n D W) (a' : Int) : FindM w a' k n D (W.setCell ⟨w.heap.size + 5, 0, none⟩ (.int .i64 a')) :=
  have hg := grownBy_setCell' W (w.heap.size + 5) (.int .i64 a')
  ⟨h.r0.kept hg (by simp), h.r1.kept hg (by simp), h.r2.kept hg (by simp), h.own.kept hg (by simp), h.lab.kept hg (by simp), h.at_.set _, h.wd.kept hg (by simp), h.bel.setCell (p := ⟨w.heap.size + 5, 0, none⟩) (Nat.le_add_right _ _) _⟩
theorem FindM.setWd {w : World} {a : Int} {k n : Nat} {D : DataW Unit} {W : World} (h : FindM w a k n D W) (k' : Nat) : FindM w a k' n D (W.setCell ⟨w.heap.size + 6, 0, none⟩ (.int .i64 k')) :=
  have hg := grownBy_setCell' W (w.heap.size + 6) (.int .i64 k')
  ⟨h.r0.kept hg (by simp), h.r1.kept hg (by simp), h.r2.kept hg (by simp), h.own.kept hg (by simp), h.lab.kept hg (by simp), h.at_.kept hg (by simp), h.wd.set _, h.bel.setCell (p := ⟨w.heap.size + 6, 0, none⟩) (Nat.le_add_right _ _) _⟩
theorem FindM.put {w : World} {a : Int} {k n : Nat} {D D' : DataW Unit} {W W' : World} (h : FindM w a k n D W) (hg : W.grownBy W' (some (w.heap.size + 3))) (ho : W'.ownsMap Tryz.prog 9 (plainElem Tryz.prog 3) (w.heap.size + 3) (n + 1) D') : FindM w a k (n + 1) D' W' :=
  ⟨h.r0.kept hg (by simp), h.r1.kept hg (by simp), h.r2.kept hg (by simp), ho, h.lab.kept hg (by simp), h.at_.kept hg (by simp), h.wd.kept hg (by simp), h.bel.grown hg h.bel.size (fun r e => by injection e; omega)⟩
theorem FindM.more {w : World} {a : Int} {k n : Nat} {D : DataW Unit} {W : World} (h : FindM w a k n D W) : FindM w a k (n + 1) D W := ⟨h.r0, h.r1, h.r2, h.own.mono (by omega), h.lab, h.at_, h.wd, h.bel⟩

/-- Between two lines; and where one has stopped. -/
def FindI (w : World) (pre : List Bs) (W : World) : Prop := ∃ L k D, labsTo ([], 0) pre = some (L, k) ∧ k ≤ pre.length ∧ LabOk L D ∧ FindM w pre.length k pre.length D W
structure FindX (w : World) (c : Code) (pre : List Bs) (W : World) : Prop where
  code : c = .ret
  st : ∃ pre0 x st, pre = pre0 ++ [x] ∧ labsTo ([], 0) pre0 = some st ∧ labStep st x = none
  r0 : Boxed W w.heap.size 61 (.map none)
  r1 : Boxed W (w.heap.size + 1) 3 (.int .i64 pre.length)
  r2 : Boxed W (w.heap.size + 2) 24 (.int .i64 19)
  bel : Below w.heap.size w W
theorem FindI.kept {w : World} {pre : List Bs} {W W' : World} {row : Option Nat} (h : FindI w pre W) (hg : W.grownBy W' row) (hr : ∀ r, row = some r → w.heap.size + 7 ≤ r) : FindI w pre W' := by
  obtain ⟨L, k, D, h1, h2, h3, h4⟩ := h
  exact ⟨L, k, D, h1, h2, h3, h4.kept hg hr⟩
theorem FindX.kept {w : World} {c : Code} {pre : List Bs} {W W' : World} {row : Option Nat} (h : FindX w c pre W) (hg : W.grownBy W' row) (hr : ∀ r, row = some r → w.heap.size + 7 ≤ r) : FindX w c pre W' :=
  have ne : ∀ i, i < w.heap.size + 7 → some i ≠ row := fun i hi e => by have := hr i e.symm; omega
  ⟨h.code, h.st, h.r0.kept hg (ne _ (by omega)), h.r1.kept hg (ne _ (by omega)), h.r2.kept hg (ne _ (by omega)), h.bel.grown hg h.bel.size (fun r e => by have := hr r e; omega)⟩

theorem lines_mem : ∀ (t : Bs), ∀ x ∈ linesOf t, x.length ≤ t.length ∧ ∀ c ∈ x, c ∈ t
  | [], x, h => by simp [linesOf] at h; subst h; simp
  | c :: t, x, h => by
    unfold linesOf at h
    split at h
    · rcases List.mem_cons.1 h with h | h
      · subst h; simp
      · obtain ⟨h1, h2⟩ := lines_mem t x h
        exact ⟨by simp; omega, fun d hd => List.mem_cons_of_mem _ (h2 d hd)⟩
    · split at h
      · simp at h; subst h; simp
      · rename_i h' r e
        rcases List.mem_cons.1 h with h | h
        · obtain ⟨h1, h2⟩ := lines_mem t h' (by rw [e]; exact List.mem_cons_self ..)
          subst h
          refine ⟨by simp; omega, fun d hd => ?_⟩
          rcases List.mem_cons.1 hd with hd | hd
          · subst hd; exact List.mem_cons_self ..
          · exact List.mem_cons_of_mem _ (h2 d hd)
        · obtain ⟨h1, h2⟩ := lines_mem t x (by rw [e]; exact List.mem_cons_of_mem _ h)
          exact ⟨by simp; omega, fun d hd => List.mem_cons_of_mem _ (h2 d hd)⟩
theorem strs_len {n0 : Nat} {w : World} {v : Value} {ps : List Bs} (h : Strs n0 w v ps) : ∃ a c, v = .slice a ps.length c := by
  rcases h with ⟨rfl, a, c, h⟩ | ⟨bk, o, c, _, h, _⟩
  · exact ⟨a, c, h⟩
  · exact ⟨_, c, h⟩

theorem lab_len {x y : Bs} (h : (lineOf x).1 = some y) : y.length ≤ x.length := by
  unfold lineOf at h
  split at h
  · cases h
  · rename_i p ps hp
    split at h
    · injection h with h
      subst h
      have h1 := fieldsFrom_len (saidOf x) [] p (by have : partsOf x = p :: ps := hp; unfold partsOf at this; rw [this]; exact List.mem_cons_self ..)
      have h2 := said_len x
      have h3 := Lib.trimSuffix_le p [58]
      simp at h1; omega
    · cases h
theorem find_step {w : World} {pre : List Bs} {x : Bs} {L L' : Labs} {k k' n : Nat} {D' : DataW Unit} {W' : World} (h1 : labsTo ([], 0) pre = some (L, k)) (h2 : labStep (L, k) x = some (L', k')) (h3 : k' ≤ pre.length + 1) (h4 : LabOk L' D')
    (h5 : FindM w ((pre.length : Int) + 1) k' n D' W') (h6 : n ≤ pre.length + 1) : FindI w (pre ++ [x]) W' := by
  refine ⟨L', k', D', ?_, by simpa using h3, h4, ?_⟩
  · rw [labsTo_snoc, h1]; exact h2
  · have e : ((pre ++ [x]).length : Int) = (pre.length : Int) + 1 := by simp
    rw [show (pre ++ [x]).length = pre.length + 1 by simp]
    exact ⟨h5.r0, h5.r1, h5.r2, h5.own.mono h6, h5.lab, by simpa using h5.at_, h5.wd, h5.bel⟩

theorem find_stop {w : World} {pre : List Bs} {x : Bs} {st : Labs × Nat} {k n : Nat} {D : DataW Unit} {W : World} (h1 : labsTo ([], 0) pre = some st) (h2 : labStep st x = none) (h5 : FindM w ((pre.length : Int) + 1) k n D W) :
    FindX w .ret (pre ++ [x]) (((W.setCell ⟨w.heap.size, 0, none⟩ (.map none)).setCell ⟨w.heap.size + 1, 0, none⟩ (.int .i64 ((pre.length : Int) + 1))).setCell ⟨w.heap.size + 2, 0, none⟩ (.int .i64 19)).drew :=
  have a0 := ((h5.r0.set (.map none)).kept (grownBy_setCell' _ (w.heap.size + 1) (.int .i64 ((pre.length : Int) + 1))) (by simp)).kept (grownBy_setCell' _ (w.heap.size + 2) (.int .i64 19)) (by simp)
  have a1 := ((h5.r1.kept (grownBy_setCell' _ w.heap.size (.map none)) (by simp)).set (.int .i64 ((pre.length : Int) + 1))).kept (grownBy_setCell' _ (w.heap.size + 2) (.int .i64 19)) (by simp)
  have a2 := ((h5.r2.kept (grownBy_setCell' _ w.heap.size (.map none)) (by simp)).kept (grownBy_setCell' _ (w.heap.size + 1) (.int .i64 ((pre.length : Int) + 1))) (by simp)).set (.int .i64 19)
  ⟨rfl, ⟨pre, x, st, rfl, h1, h2⟩, a0, by rw [show ((pre ++ [x]).length : Int) = (pre.length : Int) + 1 by simp]; exact a1, a2,
    (((h5.bel.setCell (p := ⟨w.heap.size, 0, none⟩) (Nat.le_refl _) _).setCell (p := ⟨w.heap.size + 1, 0, none⟩) (Nat.le_add_right _ _) _).setCell (p := ⟨w.heap.size + 2, 0, none⟩) (Nat.le_add_right _ _) _).drew⟩

section
attribute [local go_sem] Oper.semAt_some
set_option maxHeartbeats 2000000 in
theorem find_c (txt : Bs) (ha : AsciiL txt) (hl : txt.length ≤ 4294967290) (w : World) :
    Calls Tryz.prog 14 #[.string (BA txt)] w fun e w' => Below w.heap.size w w' ∧
      ((∃ L D n M, findFrom ([], 0) 0 (linesOf txt) = .inl L ∧ LabOk L D ∧ e = .returned (.tuple #[.map (some M), .int .i64 0, .int .i64 0]) ∧ w'.ownsMap Tryz.prog 9 (plainElem Tryz.prog 3) M n D ∧ w.heap.size ≤ M) ∨
       (∃ k, findFrom ([], 0) 0 (linesOf txt) = .inr k ∧ e = .returned (.tuple #[.map none, .int .i64 (k + 1 : Nat), .int .i64 19]))) := by
  have hmm := @run_makeMap Tryz.prog
  refine (callsIn_wide (n := 3)).1 ?_
  refine callsIn_of_wp_marks Tryz.func14 rfl trivial ?_ rfl
  simp only [Tryz.ntmps14, List.size_toArray, List.length_cons, List.length_nil, Nat.reduceAdd, Nat.reduceSub, Array.replicate_succ, Array.replicate_zero, List.push_toArray, List.append_toArray, List.nil_append, List.cons_append]
  gi_wp2_with (refine ⟨trivial, ?_⟩; gi_at_call 15; refine (callsIn_wide.2 (seqMake_c txt _)).mono ?_; rintro e w' ⟨rfl, rfl⟩)
  simp only [Nat.add_assoc, Nat.reduceAdd]
  obtain ⟨W0, hW0⟩ : ∃ W0, W0 = ((((((((((w.alloc (.cells #[.map none] 61)).alloc (.cells #[.int .i64 0] 3)).alloc (.cells #[.int .i64 0] 24)).alloc (.map #[] 0)).alloc (.cells #[.map (some (w.heap.size + 3))] 61)).alloc (.cells #[.int .i64 0] 3)).alloc (.cells #[.int .i64 0] 3)).alloc (.cells #[.string (BA txt)] 9)).alloc (.cells #[.string ⟨#[10]⟩] 9)).alloc (.cells #[.int .i64 0] 3)) := ⟨_, rfl⟩
  rw [← hW0]
  have hs0 : W0.heap.size = w.heap.size + 10 := by rw [hW0]; simp
  have b7 : Boxed W0 (w.heap.size + 7) 9 (.string (BA txt)) := by rw [hW0]; unfold Boxed; repeat (first | (refine at_new _ _ _ ?_; first | rfl | (simp only [World.size_alloc] <;> omega)) | (refine (at_old _ _ _ ?_).trans ?_; (simp only [World.size_alloc] <;> omega)))
  have b8 : Boxed W0 (w.heap.size + 8) 9 (.string ⟨#[10]⟩) := by rw [hW0]; unfold Boxed; repeat (first | (refine at_new _ _ _ ?_; first | rfl | (simp only [World.size_alloc] <;> omega)) | (refine (at_old _ _ _ ?_).trans ?_; (simp only [World.size_alloc] <;> omega)))
  have b9 : Boxed W0 (w.heap.size + 9) 3 (.int .i64 0) := by rw [hW0]; unfold Boxed; repeat (first | (refine at_new _ _ _ ?_; first | rfl | (simp only [World.size_alloc] <;> omega)) | (refine (at_old _ _ _ ?_).trans ?_; (simp only [World.size_alloc] <;> omega)))
  have m0 : FindM w 0 0 0 (.map []) W0 := by
    refine ⟨?_, ?_, ?_, ?_, ?_, ?_, ?_, ?_⟩
    · rw [hW0]; unfold Boxed; repeat (first | (refine at_new _ _ _ ?_; first | rfl | (simp only [World.size_alloc] <;> omega)) | (refine (at_old _ _ _ ?_).trans ?_; (simp only [World.size_alloc] <;> omega)))
    · rw [hW0]; unfold Boxed; repeat (first | (refine at_new _ _ _ ?_; first | rfl | (simp only [World.size_alloc] <;> omega)) | (refine (at_old _ _ _ ?_).trans ?_; (simp only [World.size_alloc] <;> omega)))
    · rw [hW0]; unfold Boxed; repeat (first | (refine at_new _ _ _ ?_; first | rfl | (simp only [World.size_alloc] <;> omega)) | (refine (at_old _ _ _ ?_).trans ?_; (simp only [World.size_alloc] <;> omega)))
    · have hM : W0.heap[w.heap.size + 3]? = some (.map #[] 0) := by rw [hW0]; repeat (first | (refine at_new _ _ _ ?_; first | rfl | (simp only [World.size_alloc] <;> omega)) | (refine (at_old _ _ _ ?_).trans ?_; (simp only [World.size_alloc] <;> omega)))
      exact map_made hM
    · rw [hW0]; unfold Boxed; repeat (first | (refine at_new _ _ _ ?_; first | rfl | (simp only [World.size_alloc] <;> omega)) | (refine (at_old _ _ _ ?_).trans ?_; (simp only [World.size_alloc] <;> omega)))
    · rw [hW0]; unfold Boxed; repeat (first | (refine at_new _ _ _ ?_; first | rfl | (simp only [World.size_alloc] <;> omega)) | (refine (at_old _ _ _ ?_).trans ?_; (simp only [World.size_alloc] <;> omega)))
    · rw [hW0]; unfold Boxed; repeat (first | (refine at_new _ _ _ ?_; first | rfl | (simp only [World.size_alloc] <;> omega)) | (refine (at_old _ _ _ ?_).trans ?_; (simp only [World.size_alloc] <;> omega)))
    · rw [hW0]; exact ((((((((((Below.refl _ w).alloc (Nat.le_refl _) _).alloc (by simp) _).alloc (by simp; omega) _).alloc (by simp; omega) _).alloc (by simp; omega) _).alloc (by simp; omega) _).alloc (by simp; omega) _).alloc (by simp; omega) _).alloc (by simp; omega) _).alloc (by simp; omega) _
  clear hW0 hmm
  have hlen : (linesOf txt).length ≤ txt.length + 1 := lines_count txt
  refine wpIn_rangeOwn rfl (by omega) (gf := 41) (lb := #[.pointer (some ⟨w.heap.size + 8, 0, none⟩), .pointer (some ⟨w.heap.size + 7, 0, none⟩), .pointer (some ⟨w.heap.size + 9, 0, none⟩)]) rfl trivial (enters_of Tryz.func41 (by kernel_rfl) rfl)
    (lines_own (3 - 1) (w.heap.size + 7) txt (by omega) W0 b7.cell b7.frozen b8.cell b9.cell (by omega)) (by omega) (by omega) (fun _ => rfl)
    (FindI w) (FindX w) (fun t A B row hs hg hr => hs.kept hg (fun r e => by have := (hr r e).1; omega)) (fun c t A B row hs hg hr => hs.kept hg (fun r e => by have := (hr r e).1; omega))
    (fun t A B hs hg => hs.kept hg (fun r e => by injection e; omega)) (fun c t A B hs hg => hs.kept hg (fun r e => by injection e; omega))
    ⟨[], 0, .map [], rfl, Nat.le_refl _, LabOk.nil, m0⟩
    (fun x => { tmps := #[.string (BA txt), undef, .pointer (some ⟨w.heap.size, 0, none⟩), .pointer (some ⟨w.heap.size + 1, 0, none⟩), .pointer (some ⟨w.heap.size + 2, 0, none⟩), .pointer (some ⟨w.heap.size + 4, 0, none⟩), .pointer (some ⟨w.heap.size + 5, 0, none⟩), .pointer (some ⟨w.heap.size + 6, 0, none⟩), .string (BA x), undef, undef, undef, undef, undef, .map (some (w.heap.size + 3)), .string (BA txt), .func (.func 41) #[] #[.pointer (some ⟨w.heap.size + 8, 0, none⟩), .pointer (some ⟨w.heap.size + 7, 0, none⟩), .pointer (some ⟨w.heap.size + 9, 0, none⟩)], .string (BA x), undef, undef, undef, undef, undef, undef, undef, undef, undef, undef, undef, undef, undef, undef, undef, undef, undef, undef, undef, undef, undef, undef, undef, undef, undef, undef, undef, undef, undef, undef], defers := [] }) ?assign ?body ?done ?stop
  case assign =>
    intro l x W K hK
    gi_wp2
    exact hK
  case body =>
    rintro l pre x rest W hx ⟨L, k, D, hst, hk, hL, FM⟩ hlt
    have hmem := lines_mem txt x (by rw [hx]; simp)
    have hax : AsciiL x := fun c hc => ha c (hmem.2 c hc)
    have hxl : x.length ≤ 4294967296 := by omega
    have hpl : pre.length + 1 ≤ txt.length + 1 := by rw [hx] at hlen; simp at hlen; omega
    have hsp := split_c x hax hxl
    obtain ⟨np, hnp⟩ : ∃ np, np = (lineOf x).2.length := ⟨_, rfl⟩
    have HNP : Hid _ := hnp
    have c5 := FM.at_.cell
    have z5 := FM.at_.frozen
    have FM1 := FM.setAt ((pre.length : Int) + 1)
    have H1 : Hi (w.heap.size + 7) W (W.setCell ⟨w.heap.size + 5, 0, none⟩ (.int .i64 ((pre.length : Int) + 1))) := (Hi.refl _ W).set (by omega) _
    have HFM1 : Hid _ := FM1
    have HH1 : Hid _ := H1
    have HST : Hid _ := hst
    have HX : Hid _ := hx
    clear FM FM1 H1 hst hx hmem
    cases hlab : (lineOf x).1 with
    | none =>
      rw [hlab] at hsp
      have HL1 : Hid (labStep (L, k) x = some (L, k + (if np = 0 then 0 else 1))) := by show labStep (L, k) x = _; unfold labStep; rw [hlab, HNP.out]
      by_cases hn0 : np = 0
      · gi_wp2_with (refine ⟨trivial, ?_⟩; gi_at_call 27; refine (CallsIn.inRound l (callsIn_wide.2 (hsp _))).mono ?_; clear hsp; rintro e w1 ⟨v, rfl, hss, hb1⟩; obtain ⟨a1, c1, rfl⟩ := strs_len hss; clear hss; rw [← hnp]; have FM2 := HFM1.out.below hb1; have H2 := HH1.out.below hb1; have c6 := FM2.wd.cell; have z6 := FM2.wd.frozen; have c4 := FM2.lab.cell; have HFM2 : Hid _ := FM2; have HH2 : Hid _ := H2; clear FM2 H2 hb1; rw [hn0])
        exact ⟨HH2.out.keeps (by omega), HH2.out.stands (by omega) (by omega), find_step HST.out HL1.out (by rw [if_pos hn0]; omega) hL (by rw [if_pos hn0]; exact HFM2.out) (by omega)⟩
      · have hn1 : (0 : Int) < (np : Int) := by omega
        gi_wp2_with (refine ⟨trivial, ?_⟩; gi_at_call 27; refine (CallsIn.inRound l (callsIn_wide.2 (hsp _))).mono ?_; clear hsp; rintro e w1 ⟨v, rfl, hss, hb1⟩; obtain ⟨a1, c1, rfl⟩ := strs_len hss; clear hss; rw [← hnp]; have FM2 := HFM1.out.below hb1; have H2 := HH1.out.below hb1; have c6 := FM2.wd.cell; have z6 := FM2.wd.frozen; have c4 := FM2.lab.cell; have HFM2 : Hid _ := FM2; have HH2 : Hid _ := H2; clear FM2 H2 hb1)
        exact ⟨(HH2.out.set (by omega) _).keeps (by omega), (HH2.out.set (by omega) _).stands (by omega) (by omega), find_step HST.out HL1.out (by rw [if_neg hn0]; omega) hL (by rw [if_neg hn0]; exact HFM2.out.setWd (k + 1)) (by omega)⟩
    | some y =>
      rw [hlab] at hsp
      have hyl : y.length ≤ 4294967296 := by
        have := lab_len hlab
        omega
      cases hlk : L.lookup y with
      | some a =>
        have HHAS : Hid (Maps.has D (.string y) = true) := (hL.has y).trans (by rw [hlk]; rfl)
        have HL1 : Hid (labStep (L, k) x = none) := by show labStep (L, k) x = none; unfold labStep; rw [hlab]; simp [hlk]
        gi_wp2_with (first
          | (refine ⟨trivial, ?_⟩; gi_at_call 27; refine (CallsIn.inRound l (callsIn_wide.2 (hsp _))).mono ?_; clear hsp; rintro e w1 ⟨v, rfl, hss, hb1⟩; obtain ⟨a1, c1, rfl⟩ := strs_len hss; clear hss; rw [← hnp]; have FM2 := HFM1.out.below hb1; have H2 := HH1.out.below hb1; have c6 := FM2.wd.cell; have z6 := FM2.wd.frozen; have c4 := FM2.lab.cell; have HFM2 : Hid _ := FM2; have HH2 : Hid _ := H2; clear FM2 H2 hb1; have c5' := HFM2.out.at_.cell; have q0 := HFM2.out.r0.cell; have q1 := HFM2.out.r1.cell; have q2 := HFM2.out.r2.cell; have y0 := HFM2.out.r0.frozen; have y1 := HFM2.out.r1.frozen; have y2 := HFM2.out.r2.frozen)
          | (gi_at_lookup; refine wpListIn_lookup_own_ok_int _ rfl _ _ 61 rfl 9 3 .i64 (Maps.string_keyed Tryz.underlying9) Tryz.underlying61 Tryz.underlying3 (Tryz.zeroValue3 _) (w.heap.size + 3) pre.length D rfl HFM2.out.own _ _ rfl (key_str y hyl) ?_; intro c hat hwc; rw [HHAS.out]))
        gi_region
        all_goals gi_wp2
        all_goals exact ⟨(((((HH2.out.set (by omega) _).set (by omega) _).set (by omega) _)).drew).keeps (by omega), find_stop HST.out HL1.out HFM2.out⟩
      | none =>
        have HHAS : Hid (Maps.has D (.string y) = false) := (hL.has y).trans (by rw [hlk]; rfl)
        by_cases hy : y = []
        · subst hy
          have hye : (BA (labOf (some []))).toList.isEmpty = true := by rw [Lib.toList_data]; rfl
          have HL1 : Hid (labStep (L, k) x = none) := by show labStep (L, k) x = none; unfold labStep; rw [hlab]; simp
          gi_wp2_with (first
            | (refine ⟨trivial, ?_⟩; gi_at_call 27; refine (CallsIn.inRound l (callsIn_wide.2 (hsp _))).mono ?_; clear hsp; rintro e w1 ⟨v, rfl, hss, hb1⟩; obtain ⟨a1, c1, rfl⟩ := strs_len hss; clear hss; rw [← hnp]; have FM2 := HFM1.out.below hb1; have H2 := HH1.out.below hb1; have c6 := FM2.wd.cell; have z6 := FM2.wd.frozen; have c4 := FM2.lab.cell; have HFM2 : Hid _ := FM2; have HH2 : Hid _ := H2; clear FM2 H2 hb1; have c5' := HFM2.out.at_.cell; have q0 := HFM2.out.r0.cell; have q1 := HFM2.out.r1.cell; have q2 := HFM2.out.r2.cell; have y0 := HFM2.out.r0.frozen; have y1 := HFM2.out.r1.frozen; have y2 := HFM2.out.r2.frozen)
            | (gi_at_lookup; refine wpListIn_lookup_own_ok_int _ rfl _ _ 61 rfl 9 3 .i64 (Maps.string_keyed Tryz.underlying9) Tryz.underlying61 Tryz.underlying3 (Tryz.zeroValue3 _) (w.heap.size + 3) pre.length D rfl HFM2.out.own _ _ rfl (key_str [] hyl) ?_; intro c hat hwc; rw [HHAS.out]))
          gi_region
          all_goals gi_wp2
          all_goals exact ⟨(((((HH2.out.set (by omega) _).set (by omega) _).set (by omega) _)).drew).keeps (by omega), find_stop HST.out HL1.out HFM2.out⟩
        · have hye : (BA (labOf (some y))).toList.isEmpty = false := by rw [Lib.toList_data]; cases y; exact absurd rfl hy; rfl
          have HL1 : Hid (labStep (L, k) x = some (L ++ [(y, k)], k + (if np = 0 then 0 else 1))) := by show labStep (L, k) x = _; unfold labStep; rw [hlab, HNP.out]; simp [hlk, hy]
          have hLn := hL.snoc y k hlk (by omega)
          by_cases hn0 : np = 0
          · gi_wp2_with (first
              | (refine ⟨trivial, ?_⟩; gi_at_call 27; refine (CallsIn.inRound l (callsIn_wide.2 (hsp _))).mono ?_; clear hsp; rintro e w1 ⟨v, rfl, hss, hb1⟩; obtain ⟨a1, c1, rfl⟩ := strs_len hss; clear hss; rw [← hnp]; have FM2 := HFM1.out.below hb1; have H2 := HH1.out.below hb1; have c6 := FM2.wd.cell; have z6 := FM2.wd.frozen; have c4 := FM2.lab.cell; have HFM2 : Hid _ := FM2; have HH2 : Hid _ := H2; clear FM2 H2 hb1; rw [hn0])
              | (gi_at_lookup; refine wpListIn_lookup_own_ok_int _ rfl _ _ 61 rfl 9 3 .i64 (Maps.string_keyed Tryz.underlying9) Tryz.underlying61 Tryz.underlying3 (Tryz.zeroValue3 _) (w.heap.size + 3) pre.length D rfl HFM2.out.own _ _ rfl (key_str y hyl) ?_; intro c hat hwc; rw [HHAS.out])
              | (gi_at_mapUpdate; refine wpListIn_mapUpdate_own _ rfl _ _ _ 61 rfl 9 3 (Maps.string_keyed Tryz.underlying9) Tryz.underlying61 _ (w.heap.size + 3) pre.length D rfl HFM2.out.own (by unfold maxLen; omega) _ _ _ rfl rfl (key_str y hyl) _ [] (plainElem_int Tryz.underlying3 (WalkArith.wf_i64 (by omega))) ?_; intro w2 hown2 hgrow2; have FM3 := HFM2.out.put hgrow2 hown2; have H3 := HH2.out.grown (by omega) hgrow2; have d6 := FM3.wd.cell; have y6 := FM3.wd.frozen; have HFM3 : Hid _ := FM3; have HH3 : Hid _ := H3; clear FM3 H3 hown2 hgrow2 c6 z6 c4))
            exact ⟨HH3.out.keeps (by omega), HH3.out.stands (by omega) (by omega), find_step HST.out HL1.out (by rw [if_pos hn0]; omega) hLn (by rw [if_pos hn0]; exact HFM3.out) (by omega)⟩
          · have hn1 : (0 : Int) < (np : Int) := by omega
            gi_wp2_with (first
              | (refine ⟨trivial, ?_⟩; gi_at_call 27; refine (CallsIn.inRound l (callsIn_wide.2 (hsp _))).mono ?_; clear hsp; rintro e w1 ⟨v, rfl, hss, hb1⟩; obtain ⟨a1, c1, rfl⟩ := strs_len hss; clear hss; rw [← hnp]; have FM2 := HFM1.out.below hb1; have H2 := HH1.out.below hb1; have c6 := FM2.wd.cell; have z6 := FM2.wd.frozen; have c4 := FM2.lab.cell; have HFM2 : Hid _ := FM2; have HH2 : Hid _ := H2; clear FM2 H2 hb1)
              | (gi_at_lookup; refine wpListIn_lookup_own_ok_int _ rfl _ _ 61 rfl 9 3 .i64 (Maps.string_keyed Tryz.underlying9) Tryz.underlying61 Tryz.underlying3 (Tryz.zeroValue3 _) (w.heap.size + 3) pre.length D rfl HFM2.out.own _ _ rfl (key_str y hyl) ?_; intro c hat hwc; rw [HHAS.out])
              | (gi_at_mapUpdate; refine wpListIn_mapUpdate_own _ rfl _ _ _ 61 rfl 9 3 (Maps.string_keyed Tryz.underlying9) Tryz.underlying61 _ (w.heap.size + 3) pre.length D rfl HFM2.out.own (by unfold maxLen; omega) _ _ _ rfl rfl (key_str y hyl) _ [] (plainElem_int Tryz.underlying3 (WalkArith.wf_i64 (by omega))) ?_; intro w2 hown2 hgrow2; have FM3 := HFM2.out.put hgrow2 hown2; have H3 := HH2.out.grown (by omega) hgrow2; have d6 := FM3.wd.cell; have y6 := FM3.wd.frozen; have HFM3 : Hid _ := FM3; have HH3 : Hid _ := H3; clear FM3 H3 hown2 hgrow2 c6 z6 c4))
            exact ⟨(HH3.out.set (by omega) _).keeps (by omega), (HH3.out.set (by omega) _).stands (by omega) (by omega), find_step HST.out HL1.out (by rw [if_neg hn0]; omega) hLn (by rw [if_neg hn0]; exact HFM3.out.setWd (k + 1)) (by omega)⟩
  case done =>
    rintro DD W hD ⟨L, k, D, hst, hk, hL, FM⟩ hK
    have c4 := FM.lab.cell
    have q0 := FM.r0.cell
    have q1 := FM.r1.cell
    have q2 := FM.r2.cell
    have y0 := FM.r0.frozen
    have y1 := FM.r1.frozen
    have y2 := FM.r2.frozen
    gi_wp2
    have hK3 : (((W.setCell ⟨w.heap.size, 0, none⟩ (.map (some (w.heap.size + 3)))).setCell ⟨w.heap.size + 1, 0, none⟩ (.int .i64 0)).setCell ⟨w.heap.size + 2, 0, none⟩ (.int .i64 0)).heap[DD]? = some (.deferred (some [])) :=
      (Below.heap_setCell _ _ _ _ (by show DD ≠ w.heap.size + 2; omega)).trans ((Below.heap_setCell _ _ _ _ (by show DD ≠ w.heap.size + 1; omega)).trans ((Below.heap_setCell _ _ _ _ (by show DD ≠ w.heap.size; omega)).trans hK))
    refine ⟨by simp, .inl ⟨_, _, rfl, run_takeDeferred hK3, ?_⟩⟩
    have e0 := ((FM.r0.set (.map (some (w.heap.size + 3)))).kept (grownBy_setCell' _ (w.heap.size + 1) (.int .i64 0)) (by simp)).kept (grownBy_setCell' _ (w.heap.size + 2) (.int .i64 0)) (by simp)
    have e1 := ((FM.r1.kept (grownBy_setCell' _ w.heap.size (.map (some (w.heap.size + 3)))) (by simp)).set (.int .i64 0)).kept (grownBy_setCell' _ (w.heap.size + 2) (.int .i64 0)) (by simp)
    have e2 := ((FM.r2.kept (grownBy_setCell' _ w.heap.size (.map (some (w.heap.size + 3)))) (by simp)).kept (grownBy_setCell' _ (w.heap.size + 1) (.int .i64 0)) (by simp)).set (.int .i64 0)
    have em := ((FM.own.kept (grownBy_setCell' _ w.heap.size (.map (some (w.heap.size + 3)))) (by simp)).kept (grownBy_setCell' _ (w.heap.size + 1) (.int .i64 0)) (by simp)).kept (grownBy_setCell' _ (w.heap.size + 2) (.int .i64 0)) (by simp)
    have eb := (((FM.bel.setCell (p := ⟨w.heap.size, 0, none⟩) (Nat.le_refl _) (.map (some (w.heap.size + 3)))).setCell (p := ⟨w.heap.size + 1, 0, none⟩) (Nat.le_add_right _ _) (.int .i64 0)).setCell (p := ⟨w.heap.size + 2, 0, none⟩) (Nat.le_add_right _ _) (.int .i64 0))
    obtain ⟨W3, hW3⟩ : ∃ W3, W3 = ((W.setCell ⟨w.heap.size, 0, none⟩ (.map (some (w.heap.size + 3)))).setCell ⟨w.heap.size + 1, 0, none⟩ (.int .i64 0)).setCell ⟨w.heap.size + 2, 0, none⟩ (.int .i64 0) := ⟨_, rfl⟩
    rw [← hW3] at e0 e1 e2 em eb ⊢
    have hpg := grownBy_putObj' W3 DD (.deferred none)
    have k0 := (e0.kept hpg (by simp; omega)).cell
    have k1 := (e1.kept hpg (by simp; omega)).cell
    have k2 := (e2.kept hpg (by simp; omega)).cell
    refine ⟨.tuple #[.map (some (w.heap.size + 3)), .int .i64 0, .int .i64 0], by simp [results, Tryz.results14, go_sem, k0, k1, k2], eb.grown hpg eb.size (fun r e => by injection e; omega), .inl ⟨L, D, _, w.heap.size + 3, findFrom_all _ _ _ _ hst, hL, rfl, em.kept hpg (by simp; omega), by omega⟩⟩
  case stop =>
    rintro DD c pre x rest W hD hx FX hK
    obtain rfl := FX.code
    gi_wp2
    refine ⟨by simp, .inl ⟨_, _, rfl, run_takeDeferred hK, ?_⟩⟩
    have FX' := FX.kept (grownBy_putObj' W DD (.deferred none)) (fun r e => by injection e; omega)
    obtain ⟨pre0, x0, st, he, h1, h2⟩ := FX'.st
    obtain ⟨rfl, hx0⟩ := List.append_inj' he rfl
    injection hx0 with hx0
    subst hx0
    have k0 := FX'.r0.cell
    have k1 := FX'.r1.cell
    have k2 := FX'.r2.cell
    rw [show ((pre ++ [x]).length : Int) = ((pre.length + 1 : Nat) : Int) by simp] at k1
    refine ⟨.tuple #[.map none, .int .i64 (pre.length + 1 : Nat), .int .i64 19], by simp [results, Tryz.results14, go_sem, k0, k1, k2], FX'.bel, .inr ⟨pre.length, ?_, rfl⟩⟩
    rw [hx, findFrom_stop pre x rest _ _ 0 h1 h2, Nat.zero_add]
end
end Go.Proofs.YtpnmnokedpagmaaGreatDoor
