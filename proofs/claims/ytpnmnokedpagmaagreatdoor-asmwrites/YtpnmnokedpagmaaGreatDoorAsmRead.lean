/-
  Package asm's Read, whole.
-/
import Derived.Test.YtpnmnokedpagmaaGreatDoorAsmFind
import Derived.Test.YtpnmnokedpagmaaGreatDoorAsmLine
import Derived.Deep.WholeRow
namespace Go.Proofs.YtpnmnokedpagmaaGreatDoor
open Go.RowKit Go.Shelf
set_option linter.unusedVariables false
set_option linter.unusedSimpArgs false
set_option maxRecDepth 20000

/-- A reader's cells: the table, the labels, the words. -/
def ztR : Array Value := #[.int .u32 0, .int .i32 0, .int .u32 0] ++ Array.replicate 100 (.bool false)
def zrdr0 : Array Value := ztR ++ #[.map none, .slice none 0 0]
def zrdr (M : Nat) : Array Value := ztR ++ #[.map (some M), .slice none 0 0]
theorem zrdr_zero (w : World) : Sem.run Tryz.prog (zeroValue 65) w = .ok (.agg zrdr0) w := by kernel_rfl
theorem zrdr_build (M : Nat) (w : World) : (Instr.build 65 #[(1, .map (some M))]).run Tryz.prog w = .ok (.agg (zrdr M)) w := run_build w _ _ _ (by kernel_rfl)
theorem zrdr_store (M : Nat) (w : World) : (storeCells ⟨w.heap.size, 0, none⟩ (zrdr M).toList 0).run Tryz.prog (w.alloc (.cells zrdr0 65)) = .ok () (w.alloc (.cells (zrdr M) 65)) :=
  run_storeCells_new w _ _ _ (by kernel_rfl) (by kernel_rfl) (by kernel_rfl)
theorem zrdr_list (M : Nat) : (zrdr M).toList = zrdr0.toList.set 103 (.map (some M)) := by kernel_rfl
theorem zrdr_size : zrdr0.size = 105 := by kernel_rfl
theorem zrdr_storeAt (M : Nat) (w : World) : (Instr.storeAt 65 (.pointer (some ⟨w.heap.size, 0, none⟩)) (.agg (zrdr M))).run Tryz.prog (w.alloc (.cells zrdr0 65)) = .ok () (w.alloc (.cells (zrdr M) 65)) :=
  run_storeAt_new w _ _ _ (by kernel_rfl) (by kernel_rfl) (by kernel_rfl)

/-- In the midst of the lines: the results' boxes, the line's number, the reader. -/
structure RdM (w : World) (A B b M n : Nat) (L : Labs) (D : DataW Unit) (a : Int) (ws : List Int) (v : Value) (W : World) : Prop where
  r0 : Boxed W w.heap.size 22 (.slice none 0 0)
  r1 : Boxed W (w.heap.size + 1) 3 (.int .i64 0)
  r2 : Boxed W (w.heap.size + 2) 24 (.int .i64 0)
  at_ : Boxed W A 3 (.int .i64 a)
  rdr : RdrW W B b M n L D ws v
  bel : Below w.heap.size w W
theorem RdrW.blocks {w w' : World} {B b M n : Nat} {L : Labs} {D : DataW Unit} {ws : List Int} {v : Value} (h : RdrW w B b M n L D ws v) (hs : w.heap.size ≤ w'.heap.size) (hk : ∀ k, (k ≤ 6 ∨ k = M ∨ k = b) → w'.heap[k]? = w.heap[k]?)
    (hr : ∀ g, v.ownBlock = some g → w'.heap[g]? = w.heap[g]?) : RdrW w' B b M n L D ws v := by
  obtain ⟨a0, c0, hv, hr1⟩ := h.rdr
  exact ⟨⟨a0, c0, hv, hr1.blocks hk⟩, row_keep h.row (fun g hg _ => hr g hg), h.ne, (World.frozen?_of_block (w := w) (a := ⟨b, 104, none⟩) (hk b (by simp))).trans h.wz, Nat.le_trans h.base hs, h.lim, h.hB⟩
theorem RdM.blocks {w : World} {A B b M n : Nat} {L : Labs} {D : DataW Unit} {a : Int} {ws : List Int} {v : Value} {W W' : World} (h : RdM w A B b M n L D a ws v W) (hc : w.heap.size + 3 ≤ M ∧ M < A ∧ A < b) (h6 : 6 < w.heap.size)
    (ho : W'.os = W.os) (ht : W'.tape = W.tape) (hp : W'.output = W.output) (hs : W.heap.size ≤ W'.heap.size) (hk : ∀ k, k ≤ b → W'.heap[k]? = W.heap[k]?) (hr : ∀ g, v.ownBlock = some g → W'.heap[g]? = W.heap[g]?) : RdM w A B b M n L D a ws v W' := by
  obtain ⟨c1, c2, c3⟩ := hc
  exact ⟨(hk _ (by omega)).trans h.r0, (hk _ (by omega)).trans h.r1, (hk _ (by omega)).trans h.r2, (hk _ (by omega)).trans h.at_, h.rdr.blocks hs (fun k e => hk k (by rcases e with e | e | e <;> omega)) hr,
    ⟨ho.trans h.bel.os, ht.trans h.bel.tape, hp.trans h.bel.output, Nat.le_trans h.bel.size hs, fun k hk' => (hk k (by omega)).trans (h.bel.block k hk')⟩⟩
theorem RdM.kept {w : World} {A B b M n : Nat} {L : Labs} {D : DataW Unit} {a : Int} {ws : List Int} {v : Value} {W W' : World} {row : Option Nat} (h : RdM w A B b M n L D a ws v W) (hc : w.heap.size + 3 ≤ M ∧ M < A ∧ A < b) (h6 : 6 < w.heap.size) (hg : W.grownBy W' row)
    (hr : ∀ r, row = some r → b < r ∧ (r < B ∨ ∃ o : Obj, W.heap[r]? = some o ∧ o.isCells = false)) : RdM w A B b M n L D a ws v W' := by
  have hbl : b < W.heap.size := by obtain ⟨_, _, _, hh⟩ := h.rdr.rdr; exact hh.tab.home
  refine h.blocks hc h6 hg.os hg.tape hg.output hg.size (fun k hk => hg.block k (by omega) (fun e => by have := (hr k e.symm).1; omega)) (fun g hg' => ?_)
  obtain ⟨h1, cur, h2⟩ := row_own h.rdr.row hg'
  refine hg.block g (Array.getElem?_eq_some_iff.1 h2).1 (fun e => ?_)
  rcases (hr g e.symm).2 with h3 | ⟨o, h3, h4⟩
  · omega
  · rw [h2] at h3; injection h3 with h3; subst h3; cases h4

theorem RdM.setAt {w : World} {A B b M n : Nat} {L : Labs} {D : DataW Unit} {a : Int} {ws : List Int} {v : Value} {W : World} (h : RdM w A B b M n L D a ws v W) (hc : w.heap.size + 3 ≤ M ∧ M < A ∧ A < b ∧ b < B) (h6 : 6 < w.heap.size) (a' : Int) :
    RdM w A B b M n L D a' ws v (W.setCell ⟨A, 0, none⟩ (.int .i64 a')) := by
  obtain ⟨c1, c2, c3, c4⟩ := hc
  have hg := grownBy_setCell' W A (.int .i64 a')
  refine ⟨h.r0.kept hg (by simp; omega), h.r1.kept hg (by simp; omega), h.r2.kept hg (by simp; omega), h.at_.set _, h.rdr.blocks hg.size (fun k e => Below.heap_setCell _ _ _ _ (by show k ≠ A; rcases e with e | e | e <;> omega)) (fun g e => Below.heap_setCell _ _ _ _ (by show g ≠ A; have := (row_own h.rdr.row e).1; omega)), h.bel.setCell (p := ⟨A, 0, none⟩) (by show w.heap.size ≤ A; omega) _⟩
theorem RdM.fr {w : World} {A B b M n : Nat} {L : Labs} {D : DataW Unit} {a : Int} {ws : List Int} {v : Value} {W W' : World} (h : RdM w A B b M n L D a ws v W) (hc : w.heap.size + 3 ≤ M ∧ M < A ∧ A < b ∧ b < B) (F : Fr b v.ownBlock W W') :
    Boxed W' w.heap.size 22 (.slice none 0 0) ∧ Boxed W' (w.heap.size + 1) 3 (.int .i64 0) ∧ Boxed W' (w.heap.size + 2) 24 (.int .i64 0) ∧ Boxed W' A 3 (.int .i64 a) ∧ Below w.heap.size w W' := by
  obtain ⟨c1, c2, c3, c4⟩ := hc
  have hb : b < W.heap.size := by obtain ⟨_, _, _, hh⟩ := h.rdr.rdr; exact hh.tab.home
  have e : ∀ k, k < b → W'.heap[k]? = W.heap[k]? := fun k hk => F.block k (by omega) (by omega) (fun e => by have := (row_own h.rdr.row e.symm).1; omega)
  exact ⟨(e _ (by omega)).trans h.r0, (e _ (by omega)).trans h.r1, (e _ (by omega)).trans h.r2, (e _ (by omega)).trans h.at_,
    ⟨F.os.trans h.bel.os, F.tape.trans h.bel.tape, F.output.trans h.bel.output, Nat.le_trans h.bel.size F.size, fun k hk => (e k (by omega)).trans (h.bel.block k hk)⟩⟩
theorem RdM.frHi {w : World} {A B b M n : Nat} {L : Labs} {D : DataW Unit} {a : Int} {ws : List Int} {v : Value} {W W' : World} (h : RdM w A B b M n L D a ws v W) (hc : w.heap.size + 3 ≤ M ∧ M < A ∧ A < b ∧ b < B) (F : Fr b v.ownBlock W W') :
    KeepsFrom B W W' ∧ ∀ k, b < k → k < B → k < W.heap.size → W'.heap[k]? = W.heap[k]? := by
  obtain ⟨c1, c2, c3, c4⟩ := hc
  refine ⟨⟨F.size, fun k o h1 h2 h3 => (F.block k (Array.getElem?_eq_some_iff.1 h2).1 (by omega) (fun e => ?_)).trans h2⟩, fun k h1 h2 h3 => F.block k h3 (by omega) (fun e => by have := (row_own h.rdr.row e.symm).1; omega)⟩
  obtain ⟨_, cur, h4⟩ := row_own h.rdr.row e.symm
  rw [h2] at h4; injection h4 with h4; subst h4; cases h3
theorem rdr_start {W : World} {b M : Nat} {t : TypeId} (h : W.heap[b]? = some (.cells (zrdr M) t)) : TabOk W b 0 ∧ W.cell? ⟨b, 103, none⟩ = some (.map (some M)) ∧ W.cell? ⟨b, 104, none⟩ = some (.slice none 0 0) ∧ W.frozen? ⟨b, 104, none⟩ = false := by
  have hc : ∀ j, W.cell? ⟨b, j, none⟩ = (zrdr M)[j]? := fun j => by unfold World.cell?; rw [h]; rfl
  have hz : ∀ j, W.frozen? ⟨b, j, none⟩ = false := fun j => by unfold World.frozen?; rw [h]; simp
  refine ⟨.inl ⟨(hc _).trans rfl, (hc _).trans rfl, hz _, hz _, fun k hk => ⟨(hc _).trans ?_, hz _⟩⟩, (hc _).trans rfl, (hc _).trans rfl, hz _⟩
  unfold zrdr ztR
  rw [Array.getElem?_append_left (by simp; omega), Array.getElem?_append_right (by simp), Array.getElem?_replicate, if_pos (by simp; omega)]

def RdI (w : World) (A B b M n : Nat) (L : Labs) (D : DataW Unit) (pre : List Bs) (W : World) : Prop := ∃ ws v, rdTo L [] pre = some ws ∧ RdM w A B b M n L D pre.length ws v W
structure RdX (w : World) (L : Labs) (c : Code) (pre : List Bs) (W : World) : Prop where
  code : c = .ret
  st : ∃ pre0 x ws er, pre = pre0 ++ [x] ∧ rdTo L [] pre0 = some ws ∧ rdStep L ws x = .error er ∧ Boxed W (w.heap.size + 2) 24 (.int .i64 er)
  r0 : Boxed W w.heap.size 22 (.slice none 0 0)
  r1 : Boxed W (w.heap.size + 1) 3 (.int .i64 pre.length)
  bel : Below w.heap.size w W
theorem RdX.kept {w : World} {L : Labs} {c : Code} {pre : List Bs} {W W' : World} {row : Option Nat} (h : RdX w L c pre W) (hg : W.grownBy W' row) (hr : ∀ r, row = some r → w.heap.size + 3 ≤ r) : RdX w L c pre W' := by
  have ne : ∀ i, i < w.heap.size + 3 → some i ≠ row := fun i hi e => by have := hr i e.symm; omega
  obtain ⟨pre0, x, ws, er, h1, h2, h3, h4⟩ := h.st
  exact ⟨h.code, ⟨pre0, x, ws, er, h1, h2, h3, h4.kept hg (ne _ (by omega))⟩, h.r0.kept hg (ne _ (by omega)), h.r1.kept hg (ne _ (by omega)), h.bel.grown hg h.bel.size (fun r e => by have := hr r e; omega)⟩

theorem rd_stop {w W : World} {L : Labs} {pre : List Bs} {x : Bs} {ws : List Int} {er : Int} (h1 : rdTo L [] pre = some ws) (h2 : rdStep L ws x = .error er)
    (F0 : Boxed W w.heap.size 22 (.slice none 0 0)) (F1 : Boxed W (w.heap.size + 1) 3 (.int .i64 0)) (F2 : Boxed W (w.heap.size + 2) 24 (.int .i64 0)) (F4 : Below w.heap.size w W) :
    RdX w L .ret (pre ++ [x]) (((W.setCell ⟨w.heap.size, 0, none⟩ (.slice none 0 0)).setCell ⟨w.heap.size + 1, 0, none⟩ (.int .i64 ((pre.length : Int) + 1))).setCell ⟨w.heap.size + 2, 0, none⟩ (.int .i64 er)).drew :=
  have a0 := ((F0.set (.slice none 0 0)).kept (grownBy_setCell' _ (w.heap.size + 1) (.int .i64 ((pre.length : Int) + 1))) (by simp)).kept (grownBy_setCell' _ (w.heap.size + 2) (.int .i64 er)) (by simp)
  have a1 := ((F1.kept (grownBy_setCell' _ w.heap.size (.slice none 0 0)) (by simp)).set (.int .i64 ((pre.length : Int) + 1))).kept (grownBy_setCell' _ (w.heap.size + 2) (.int .i64 er)) (by simp)
  have a2 := ((F2.kept (grownBy_setCell' _ w.heap.size (.slice none 0 0)) (by simp)).kept (grownBy_setCell' _ (w.heap.size + 1) (.int .i64 ((pre.length : Int) + 1))) (by simp)).set (.int .i64 er)
  ⟨rfl, ⟨pre, x, ws, er, rfl, h1, h2, a2⟩, a0, by rw [show ((pre ++ [x]).length : Int) = (pre.length : Int) + 1 by simp]; exact a1,
    (((F4.setCell (p := ⟨w.heap.size, 0, none⟩) (Nat.le_refl _) _).setCell (p := ⟨w.heap.size + 1, 0, none⟩) (Nat.le_add_right _ _) _).setCell (p := ⟨w.heap.size + 2, 0, none⟩) (Nat.le_add_right _ _) _).drew⟩
theorem row_base {w : World} {B B' : Nat} {e : TypeId} {v : Value} {n : Nat} {xs : List Value} (h : w.ownsRow B e 1 v n xs) (hB : B' ≤ B) : w.ownsRow B' e 1 v n xs := by
  obtain ⟨hl, h | ⟨g, cap, cur, rfl, hg, hh, hnc, hcm, hsz, htk⟩⟩ := h
  · exact ⟨hl, .inl h⟩
  · exact ⟨hl, .inr ⟨g, cap, cur, rfl, Nat.le_trans hB hg, hh, hnc, hcm, hsz, htk⟩⟩

/-- What Read hands back and leaves. -/
def GotR (txt : Bs) (w : World) (e : Ending) (w' : World) : Prop :=
  Below w.heap.size w w' ∧ ∃ v, e = .returned (.tuple #[v, .int .i64 ((rdOf txt).2.1 : Nat), .int .i64 (rdOf txt).2.2]) ∧ w'.ownsRow w.heap.size 33 1 v (rdOf txt).1.length ((rdOf txt).1.map (Value.int .u32))

theorem start3 {w w1 : World} (hb : Below (((w.alloc (.cells #[.slice none 0 0] 22)).alloc (.cells #[.int .i64 0] 3)).alloc (.cells #[.int .i64 0] 24)).heap.size (((w.alloc (.cells #[.slice none 0 0] 22)).alloc (.cells #[.int .i64 0] 3)).alloc (.cells #[.int .i64 0] 24)) w1) :
    Boxed w1 w.heap.size 22 (.slice none 0 0) ∧ Boxed w1 (w.heap.size + 1) 3 (.int .i64 0) ∧ Boxed w1 (w.heap.size + 2) 24 (.int .i64 0) ∧ Below w.heap.size w w1 ∧ w.heap.size + 3 ≤ w1.heap.size := by
  have hs := hb.size
  simp only [World.size_alloc] at hs
  refine ⟨(hb.block w.heap.size (by simp only [World.size_alloc]; omega)).trans ?_, (hb.block (w.heap.size + 1) (by simp only [World.size_alloc]; omega)).trans ?_, (hb.block (w.heap.size + 2) (by simp only [World.size_alloc]; omega)).trans ?_, ?_, by omega⟩
  · repeat (first | (refine at_new _ _ _ ?_; first | rfl | (simp only [World.size_alloc] <;> omega)) | (refine (at_old _ _ _ ?_).trans ?_; (simp only [World.size_alloc] <;> omega)))
  · repeat (first | (refine at_new _ _ _ ?_; first | rfl | (simp only [World.size_alloc] <;> omega)) | (refine (at_old _ _ _ ?_).trans ?_; (simp only [World.size_alloc] <;> omega)))
  · repeat (first | (refine at_new _ _ _ ?_; first | rfl | (simp only [World.size_alloc] <;> omega)) | (refine (at_old _ _ _ ?_).trans ?_; (simp only [World.size_alloc] <;> omega)))
  · exact ((((Below.refl _ w).alloc (Nat.le_refl _) _).alloc (by simp) _).alloc (by simp; omega) _).trans (hb.mono (by simp only [World.size_alloc]; omega))

section
attribute [local go_sem] Oper.semAt_some
set_option maxHeartbeats 2000000 in
theorem read_c (txt : Bs) (ha : AsciiL txt) (hl : txt.length ≤ 4294967290) (w : World) (hN : NamesOk w) (hE : ErrsOk w) : Calls Tryz.prog 5 #[.string (BA txt)] w (GotR txt w) := by
  have h6 : 6 < w.heap.size := by obtain ⟨-, e, h, -⟩ := hE; exact lt_of_cell h
  have hfc := find_c txt ha hl
  refine (callsIn_wide (n := 3)).1 ?_
  refine callsIn_of_wp_marks Tryz.func5 rfl trivial ?_ rfl
  simp only [Tryz.ntmps5, List.size_toArray, List.length_cons, List.length_nil, Nat.reduceAdd, Nat.reduceSub, Array.replicate_succ, Array.replicate_zero, List.push_toArray, List.append_toArray, List.nil_append, List.cons_append]
  gi_wp2_with (refine ⟨trivial, ?_⟩; gi_at_call 14; refine (callsIn_wide.2 (hfc _)).mono ?_; clear hfc; rintro e w1 ⟨hb1, ⟨L, D, n, M, hfind, hL, rfl, hown, hM⟩ | ⟨k, hfind, rfl⟩⟩ <;> refine Hid.out ?_)
  · refine Lib.hid ?_
    obtain ⟨B0, B1, B2, hb, hs1⟩ := start3 hb1
    have hM' : w.heap.size + 3 ≤ M := by simp only [World.size_alloc] at hM; omega
    have hMl := hown.lt
    clear hb1 hM
    have hz := zrdr_zero
    have hz5 := zrdr_size
    have hst := zrdr_store M (w1.alloc (.cells #[.int .i64 0] 3))
    rw [World.size_alloc, zrdr_list] at hst
    simp only [Nat.add_assoc, Nat.reduceAdd]
    gi_wp2_with (refine ⟨trivial, ?_⟩; gi_at_call 15; refine (callsIn_wide.2 (seqMake_c txt _)).mono ?_; rintro e w' ⟨rfl, rfl⟩)
    simp only [Nat.add_assoc, Nat.reduceAdd]
    obtain ⟨W0, hW0⟩ : ∃ W0, W0 = (((((w1.alloc (.cells #[.int .i64 0] 3)).alloc (.cells (zrdr M) 65)).alloc (.cells #[.string (BA txt)] 9)).alloc (.cells #[.string ⟨#[10]⟩] 9)).alloc (.cells #[.int .i64 0] 3)) := ⟨_, rfl⟩
    rw [← hW0]
    have hs0 : W0.heap.size = w1.heap.size + 5 := by rw [hW0]; simp
    have bA : Boxed W0 w1.heap.size 3 (.int .i64 0) := by rw [hW0]; unfold Boxed; repeat (first | (refine at_new _ _ _ ?_; first | rfl | (simp only [World.size_alloc] <;> omega)) | (refine (at_old _ _ _ ?_).trans ?_; (simp only [World.size_alloc] <;> omega)))
    have bb : W0.heap[w1.heap.size + 1]? = some (.cells (zrdr M) 65) := by rw [hW0]; repeat (first | (refine at_new _ _ _ ?_; first | rfl | (simp only [World.size_alloc] <;> omega)) | (refine (at_old _ _ _ ?_).trans ?_; (simp only [World.size_alloc] <;> omega)))
    have b7 : Boxed W0 (w1.heap.size + 2) 9 (.string (BA txt)) := by rw [hW0]; unfold Boxed; repeat (first | (refine at_new _ _ _ ?_; first | rfl | (simp only [World.size_alloc] <;> omega)) | (refine (at_old _ _ _ ?_).trans ?_; (simp only [World.size_alloc] <;> omega)))
    have b8 : Boxed W0 (w1.heap.size + 3) 9 (.string ⟨#[10]⟩) := by rw [hW0]; unfold Boxed; repeat (first | (refine at_new _ _ _ ?_; first | rfl | (simp only [World.size_alloc] <;> omega)) | (refine (at_old _ _ _ ?_).trans ?_; (simp only [World.size_alloc] <;> omega)))
    have b9 : Boxed W0 (w1.heap.size + 4) 3 (.int .i64 0) := by rw [hW0]; unfold Boxed; repeat (first | (refine at_new _ _ _ ?_; first | rfl | (simp only [World.size_alloc] <;> omega)) | (refine (at_old _ _ _ ?_).trans ?_; (simp only [World.size_alloc] <;> omega)))
    have hbW : Below w1.heap.size w1 W0 := by rw [hW0]; exact (((((Below.refl _ w1).alloc (Nat.le_refl _) _).alloc (by simp) _).alloc (by simp; omega) _).alloc (by simp; omega) _).alloc (by simp; omega) _
    clear hW0 hz hz5 hst
    have hgW := grown_below hbW
    obtain ⟨S1, S2, S3, S4⟩ := rdr_start bb
    have hbel : Below w.heap.size w W0 := hb.trans (hbW.mono (by omega))
    have m0 : RdM w w1.heap.size W0.heap.size (w1.heap.size + 1) M n L D 0 [] (.slice none 0 0) W0 :=
      ⟨B0.kept hgW (by simp), B1.kept hgW (by simp), B2.kept hgW (by simp), bA,
        ⟨⟨none, 0, rfl, ⟨S1, S2, S3, hown.kept hgW (by simp), hL, hE.below hbel h6, hN.below hbel (by omega), Nat.zero_le _, by omega, by omega⟩⟩, World.ownsRow_nil _ _ _ _, (fun g e => by cases e), S4, Nat.le_refl _, Nat.zero_le _, by omega⟩, hbel⟩
    have hcs : w.heap.size + 3 ≤ M ∧ M < w1.heap.size ∧ w1.heap.size < w1.heap.size + 1 ∧ w1.heap.size + 1 < W0.heap.size := by omega
    have hcs3 : w.heap.size + 3 ≤ M ∧ M < w1.heap.size ∧ w1.heap.size < w1.heap.size + 1 := by omega
    have hlen : (linesOf txt).length ≤ txt.length + 1 := lines_count txt
    refine wpIn_rangeOwn rfl (by omega) (gf := 41) (lb := #[.pointer (some ⟨w1.heap.size + 3, 0, none⟩), .pointer (some ⟨w1.heap.size + 2, 0, none⟩), .pointer (some ⟨w1.heap.size + 4, 0, none⟩)]) rfl trivial (enters_of Tryz.func41 (by kernel_rfl) rfl)
      (lines_own (3 - 1) (w1.heap.size + 2) txt (by omega) W0 b7.cell b7.frozen b8.cell b9.cell (by omega)) (by omega) (by omega) (fun _ => rfl)
      (RdI w w1.heap.size W0.heap.size (w1.heap.size + 1) M n L D) (RdX w L)
      (fun t A B row hs hg hr => by
        obtain ⟨ws, v, h1, h2⟩ := hs
        exact ⟨ws, v, h1, h2.kept hcs3 h6 hg (fun r e => ⟨by have := (hr r e).1; omega, .inr (hr r e).2⟩)⟩)
      (fun c t A B row hs hg hr => hs.kept hg (fun r e => by have := (hr r e).1; omega))
      (fun t A B hs hg => by
        obtain ⟨ws, v, h1, h2⟩ := hs
        exact ⟨ws, v, h1, h2.kept hcs3 h6 hg (fun r e => by injection e with e; subst e; exact ⟨by omega, .inl (by omega)⟩)⟩)
      (fun c t A B hs hg => hs.kept hg (fun r e => by injection e; omega))
      ⟨[], .slice none 0 0, rfl, m0⟩
      (fun x => { tmps := #[.string (BA txt), undef, .pointer (some ⟨w.heap.size, 0, none⟩), .pointer (some ⟨w.heap.size + 1, 0, none⟩), .pointer (some ⟨w.heap.size + 2, 0, none⟩), .map (some M), .pointer (some ⟨w1.heap.size, 0, none⟩), .int .i64 0, .pointer (some ⟨w1.heap.size + 1, 0, none⟩), .string (BA x), undef, .tuple #[.map (some M), .int .i64 0, .int .i64 0], .string (BA txt), .tuple #[.map (some M), .int .i64 0, .int .i64 0], .map (some M), .int .i64 0, .int .i64 0, .int .i64 0, .bool false, undef, undef, .map (some M), .agg (zrdr0.setIfInBounds 103 (.map (some M))), .string (BA txt), .func (.func 41) #[] #[.pointer (some ⟨w1.heap.size + 3, 0, none⟩), .pointer (some ⟨w1.heap.size + 2, 0, none⟩), .pointer (some ⟨w1.heap.size + 4, 0, none⟩)], .string (BA x), undef, undef, undef, undef, undef, undef, undef, undef, undef, undef], defers := [] }) ?assign ?body ?done ?stop
    case assign =>
      intro l x W K hK
      gi_wp2
      exact hK
    case body =>
      rintro l pre x rest W hx ⟨ws, v, hst, FM⟩ hlt
      have hmem := lines_mem txt x (by rw [hx]; simp)
      have hax : AsciiL x := fun c hc => ha c (hmem.2 c hc)
      have hxl : x.length ≤ 4294967296 := by omega
      have hpl : pre.length + 1 ≤ txt.length + 1 := by rw [hx] at hlen; simp at hlen; omega
      have c5 := FM.at_.cell
      have z5 := FM.at_.frozen
      have FM1 := FM.setAt hcs h6 ((pre.length : Int) + 1)
      have hline := line_c W0.heap.size (w1.heap.size + 1) M n L D ws v x hax hxl _ FM1.rdr
      have H1 : Hi (w1.heap.size + 1) W (W.setCell ⟨w1.heap.size, 0, none⟩ (.int .i64 ((pre.length : Int) + 1))) := (Hi.refl _ W).set (by omega) _
      have HFM1 : Hid _ := FM1
      have HH1 : Hid _ := H1
      have HST : Hid _ := hst
      clear FM FM1 H1 hst hx hmem
      gi_wp2_with (refine ⟨trivial, ?_⟩; gi_at_call 16; refine (CallsIn.inRound l (callsIn_wide.2 hline)).mono ?_; clear hline; rintro e w2 ⟨hF, ⟨ws', v', hstep, rfl, hR2, hv'⟩ | ⟨er, hstep, rfl, her⟩⟩ <;> refine Hid.out ?_)
      · refine Lib.hid ?_
        obtain ⟨F0, F1, F2, F3, F4⟩ := HFM1.out.fr hcs hF
        obtain ⟨G1, G2⟩ := HFM1.out.frHi hcs hF
        gi_wp2
        refine ⟨(HH1.out.keeps (by omega)).trans G1, fun k h1 h2 => (G2 k (by omega) (by omega) (by have := HH1.out.size; omega)).trans (HH1.out.block k (by omega) (by omega)), ws', v', ?_, ?_⟩
        · rw [rdTo_snoc L pre x [] ws HST.out, hstep]
        · rw [show ((pre ++ [x]).length : Int) = (pre.length : Int) + 1 by simp]
          exact ⟨F0, F1, F2, F3, hR2, F4⟩
      · refine Lib.hid ?_
        obtain ⟨F0, F1, F2, F3, F4⟩ := HFM1.out.fr hcs hF
        obtain ⟨G1, G2⟩ := HFM1.out.frHi hcs hF
        have her' : (er != 0) = true := by simpa using her
        have k0 := F0.cell
        have k1 := F1.cell
        have k2 := F2.cell
        have k3 := F3.cell
        have y0 := F0.frozen
        have y1 := F1.frozen
        have y2 := F2.frozen
        gi_wp2
        gi_region
        all_goals gi_wp2
        all_goals exact ⟨((HH1.out.keeps (by omega)).trans G1).trans ((((((Hi.refl (w1.heap.size + 1) w2).set (by omega) _).set (by omega) _).set (by omega) _).drew).keeps (by omega)), rd_stop HST.out hstep F0 F1 F2 F4⟩
    case done =>
      rintro DD W hD ⟨ws, v, hst, FM⟩ hK
      have k0 := FM.r0.cell
      have k1 := FM.r1.cell
      have k2 := FM.r2.cell
      have y0 := FM.r0.frozen
      have y1 := FM.r1.frozen
      have y2 := FM.r2.frozen
      obtain ⟨a0, c0, rfl, hr⟩ := FM.rdr.rdr
      have k4 := hr.words
      have hK3 : (((W.setCell ⟨w.heap.size, 0, none⟩ (.slice a0 ws.length c0)).setCell ⟨w.heap.size + 1, 0, none⟩ (.int .i64 0)).setCell ⟨w.heap.size + 2, 0, none⟩ (.int .i64 0)).heap[DD]? = some (.deferred (some [])) :=
        (Below.heap_setCell _ _ _ _ (by show DD ≠ w.heap.size + 2; omega)).trans ((Below.heap_setCell _ _ _ _ (by show DD ≠ w.heap.size + 1; omega)).trans ((Below.heap_setCell _ _ _ _ (by show DD ≠ w.heap.size; omega)).trans hK))
      have e0 := ((FM.r0.set (.slice a0 ws.length c0)).kept (grownBy_setCell' _ (w.heap.size + 1) (.int .i64 0)) (by simp)).kept (grownBy_setCell' _ (w.heap.size + 2) (.int .i64 0)) (by simp)
      have e1 := ((FM.r1.kept (grownBy_setCell' _ w.heap.size (.slice a0 ws.length c0)) (by simp)).set (.int .i64 0)).kept (grownBy_setCell' _ (w.heap.size + 2) (.int .i64 0)) (by simp)
      have e2 := ((FM.r2.kept (grownBy_setCell' _ w.heap.size (.slice a0 ws.length c0)) (by simp)).kept (grownBy_setCell' _ (w.heap.size + 1) (.int .i64 0)) (by simp)).set (.int .i64 0)
      have eb := (((FM.bel.setCell (p := ⟨w.heap.size, 0, none⟩) (Nat.le_refl _) (.slice a0 ws.length c0)).setCell (p := ⟨w.heap.size + 1, 0, none⟩) (Nat.le_add_right _ _) (.int .i64 0)).setCell (p := ⟨w.heap.size + 2, 0, none⟩) (Nat.le_add_right _ _) (.int .i64 0))
      have er : (((W.setCell ⟨w.heap.size, 0, none⟩ (.slice a0 ws.length c0)).setCell ⟨w.heap.size + 1, 0, none⟩ (.int .i64 0)).setCell ⟨w.heap.size + 2, 0, none⟩ (.int .i64 0)).ownsRow W0.heap.size 33 1 (.slice a0 ws.length c0) ws.length (ws.map (Value.int .u32)) :=
        row_keep FM.rdr.row (fun g hg _ => by
          have := (row_own FM.rdr.row hg).1
          exact (Below.heap_setCell _ _ _ _ (by show g ≠ w.heap.size + 2; omega)).trans ((Below.heap_setCell _ _ _ _ (by show g ≠ w.heap.size + 1; omega)).trans (Below.heap_setCell _ _ _ _ (by show g ≠ w.heap.size; omega))))
      have HK3 : Hid _ := hK3
      have HE0 : Hid _ := e0
      have HE1 : Hid _ := e1
      have HE2 : Hid _ := e2
      have HEB : Hid _ := eb
      have HER : Hid _ := er
      clear hK3 e0 e1 e2 eb er
      gi_wp2
      refine ⟨by simp, .inl ⟨_, _, rfl, run_takeDeferred HK3.out, ?_⟩⟩
      obtain ⟨W3, hW3⟩ : ∃ W3, W3 = ((W.setCell ⟨w.heap.size, 0, none⟩ (.slice a0 ws.length c0)).setCell ⟨w.heap.size + 1, 0, none⟩ (.int .i64 0)).setCell ⟨w.heap.size + 2, 0, none⟩ (.int .i64 0) := ⟨_, rfl⟩
      have e0 : Boxed W3 w.heap.size 22 (.slice a0 ws.length c0) := by rw [hW3]; exact HE0.out
      have e1 : Boxed W3 (w.heap.size + 1) 3 (.int .i64 0) := by rw [hW3]; exact HE1.out
      have e2 : Boxed W3 (w.heap.size + 2) 24 (.int .i64 0) := by rw [hW3]; exact HE2.out
      have eb : Below w.heap.size w W3 := by rw [hW3]; exact HEB.out
      have er : W3.ownsRow W0.heap.size 33 1 (.slice a0 ws.length c0) ws.length (ws.map (Value.int .u32)) := by rw [hW3]; exact HER.out
      have hK3 : W3.heap[DD]? = some (.deferred (some [])) := by rw [hW3]; exact HK3.out
      rw [← hW3]
      have hpg := grownBy_putObj' W3 DD (.deferred none)
      have j0 := (e0.kept hpg (by simp; omega)).cell
      have j1 := (e1.kept hpg (by simp; omega)).cell
      have j2 := (e2.kept hpg (by simp; omega)).cell
      have hrd : rdOf txt = (ws, 0, 0) := by unfold rdOf; rw [hfind]; exact rdFrom_all L _ _ _ _ hst
      refine ⟨.tuple #[.slice a0 ws.length c0, .int .i64 0, .int .i64 0], by simp [results, Tryz.results5, go_sem, j0, j1, j2], eb.grown hpg eb.size (fun r e => by injection e; omega), .slice a0 ws.length c0, by rw [hrd]; rfl, ?_⟩
      rw [hrd]
      refine row_base (row_keep er (fun g hg hl => World.putObj_heap_other (fun e => ?_))) (by omega)
      obtain ⟨_, cur, h2⟩ := row_own er hg
      subst e
      rw [hK3] at h2
      cases h2
    case stop =>
      rintro DD c pre x rest W hD hx FX hK
      obtain rfl := FX.code
      gi_wp2
      refine ⟨by simp, .inl ⟨_, _, rfl, run_takeDeferred hK, ?_⟩⟩
      have FX' := FX.kept (grownBy_putObj' W DD (.deferred none)) (fun r e => by injection e; omega)
      obtain ⟨pre0, x0, ws, er, he, h1, h2, h3⟩ := FX'.st
      obtain ⟨rfl, hx0⟩ := List.append_inj' he rfl
      injection hx0 with hx0
      subst hx0
      have j0 := FX'.r0.cell
      have j1 := FX'.r1.cell
      have j2 := h3.cell
      rw [show ((pre ++ [x]).length : Int) = ((pre.length + 1 : Nat) : Int) by simp] at j1
      have hrd : rdOf txt = ([], pre.length + 1, er) := by unfold rdOf; rw [hfind]; show rdFrom L [] 0 (linesOf txt) = _; rw [hx, rdFrom_stop L pre x rest [] ws 0 er h1 h2, Nat.zero_add]
      refine ⟨.tuple #[.slice none 0 0, .int .i64 (pre.length + 1 : Nat), .int .i64 er], by simp [results, Tryz.results5, go_sem, j0, j1, j2], FX'.bel, .slice none 0 0, by rw [hrd], ?_⟩
      rw [hrd]; exact World.ownsRow_nil _ _ _ _
  · refine Lib.hid ?_
    obtain ⟨B0, B1, B2, hb, hs1⟩ := start3 hb1
    clear hb1
    have q0 := B0.cell
    have q1 := B1.cell
    have q2 := B2.cell
    have y0 := B0.frozen
    have y1 := B1.frozen
    have y2 := B2.frozen
    have l0 : w.heap.size < w1.heap.size := by omega
    have l1 : w.heap.size + 1 < w1.heap.size := by omega
    have l2 : w.heap.size + 2 < w1.heap.size := by omega
    simp only [Nat.add_assoc, Nat.reduceAdd]
    gi_wp2
    gi_region
    all_goals gi_wp2
    all_goals
      have a0 := (((B0.set (.slice none 0 0)).kept (grownBy_setCell' _ (w.heap.size + 1) (.int .i64 ((k : Int) + 1))) (by simp)).kept (grownBy_setCell' _ (w.heap.size + 2) (.int .i64 19)) (by simp)).alloc (.cells #[.int .i64 ((k : Int) + 1)] 3)
      have a1 := (((B1.kept (grownBy_setCell' _ w.heap.size (.slice none 0 0)) (by simp)).set (.int .i64 ((k : Int) + 1))).kept (grownBy_setCell' _ (w.heap.size + 2) (.int .i64 19)) (by simp)).alloc (.cells #[.int .i64 ((k : Int) + 1)] 3)
      have a2 := (((B2.kept (grownBy_setCell' _ w.heap.size (.slice none 0 0)) (by simp)).kept (grownBy_setCell' _ (w.heap.size + 1) (.int .i64 ((k : Int) + 1))) (by simp)).set (.int .i64 19)).alloc (.cells #[.int .i64 ((k : Int) + 1)] 3)
      have ab := (((hb.setCell (p := ⟨w.heap.size, 0, none⟩) (Nat.le_refl _) (.slice none 0 0)).setCell (p := ⟨w.heap.size + 1, 0, none⟩) (Nat.le_add_right _ _) (.int .i64 ((k : Int) + 1))).setCell (p := ⟨w.heap.size + 2, 0, none⟩) (Nat.le_add_right _ _) (.int .i64 19)).alloc (by simp; omega) (.cells #[.int .i64 ((k : Int) + 1)] 3)
      have hrd : rdOf txt = ([], k + 1, 19) := by unfold rdOf; rw [hfind]
      have j0 := a0.cell
      have j1 := a1.cell
      have j2 := a2.cell
      refine ⟨.tuple #[.slice none 0 0, .int .i64 ((k : Int) + 1), .int .i64 19], by simp [results, Tryz.results5, go_sem, j0, j1, j2], ab.drew, .slice none 0 0, by rw [hrd]; rfl, ?_⟩
      rw [hrd]; exact World.ownsRow_nil _ _ _ _
end
end Go.Proofs.YtpnmnokedpagmaaGreatDoor
