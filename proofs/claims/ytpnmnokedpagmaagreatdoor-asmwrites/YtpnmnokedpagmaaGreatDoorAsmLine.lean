/-
  Package asm's reader: a line.
-/
import Derived.Test.YtpnmnokedpagmaaGreatDoorAsmWord
import Derived.Maps.AppendAt
import Derived.RangeFuncBox
namespace Go.Proofs.YtpnmnokedpagmaaGreatDoor
open Go.RowKit
set_option linter.unusedVariables false
set_option linter.unusedSimpArgs false
set_option maxRecDepth 20000

/-- Of what there was in w, blocks b and o alone may have turned. -/
structure Fr (b : Nat) (o : Option Nat) (w w' : World) : Prop where
  os : w'.os = w.os
  tape : w'.tape = w.tape
  output : w'.output = w.output
  size : w.heap.size ≤ w'.heap.size
  block : ∀ k, k < w.heap.size → k ≠ b → some k ≠ o → w'.heap[k]? = w.heap[k]?
theorem Fr.of_below {b : Nat} {o : Option Nat} {w w' : World} (k : Below w.heap.size w w') : Fr b o w w' := ⟨k.os, k.tape, k.output, k.size, fun i hi _ _ => k.block i hi⟩
theorem Fr.of_keep {b lo hi : Nat} {o : Option Nat} {w w' : World} (k : Keep b lo hi w w') : Fr b o w w' := ⟨k.os, k.tape, k.output, k.size, fun i hi hn _ => k.block i hi hn⟩
theorem Fr.of_grown {b : Nat} {o : Option Nat} {w w' : World} (k : w.grownBy w' o) : Fr b o w w' := ⟨k.os, k.tape, k.output, k.size, fun i hi _ hn => k.block i hi hn⟩
theorem Fr.trans {b : Nat} {o : Option Nat} {u v w : World} (h : Fr b o u v) (k : Fr b o v w) : Fr b o u w :=
  ⟨k.os.trans h.os, k.tape.trans h.tape, k.output.trans h.output, Nat.le_trans h.size k.size, fun i hi h1 h2 => (k.block i (Nat.lt_of_lt_of_le hi h.size) h1 h2).trans (h.block i hi h1 h2)⟩

theorem RdrAt.below {w w' : World} {b M n here : Nat} {a0 : Option Addr} {c0 : Nat} {L : Labs} {D : DataW Unit} (h : RdrAt w b M n here a0 c0 L D) (k : Below w.heap.size w w') : RdrAt w' b M n here a0 c0 L D :=
  h.keep ((Keep.refl 0 103 h.tab.home).below k) (h.tab.below k)
/-- The reader between two lines: the words that were read stand in a row of its own. -/
structure RdrW (w : World) (B b M n : Nat) (L : Labs) (D : DataW Unit) (ws : List Int) (v : Value) : Prop where
  rdr : ∃ a0 c0, v = .slice a0 ws.length c0 ∧ RdrAt w b M n ws.length a0 c0 L D
  row : w.ownsRow B 33 1 v ws.length (ws.map (Value.int .u32))
  ne : ∀ g, v.ownBlock = some g → g ≠ b
  wz : w.frozen? ⟨b, 104, none⟩ = false
  base : B ≤ w.heap.size
  lim : ws.length ≤ 512
  hB : 6 < B
theorem row_keep {w w' : World} {B : Nat} {e : TypeId} {v : Value} {n : Nat} {xs : List Value} (h : w.ownsRow B e 1 v n xs) (hk : ∀ g, v.ownBlock = some g → g < w.heap.size → w'.heap[g]? = w.heap[g]?) : w'.ownsRow B e 1 v n xs := by
  obtain ⟨hl, h | ⟨g, cap, cur, rfl, hg, hh, hnc, hcm, hsz, htk⟩⟩ := h
  · exact ⟨hl, .inl h⟩
  · exact ⟨hl, .inr ⟨g, cap, cur, rfl, hg, (hk g rfl (Array.getElem?_eq_some_iff.1 hh).1).trans hh, hnc, hcm, hsz, htk⟩⟩
theorem RdrW.below {w w' : World} {B b M n : Nat} {L : Labs} {D : DataW Unit} {ws : List Int} {v : Value} (h : RdrW w B b M n L D ws v) (k : Below w.heap.size w w') : RdrW w' B b M n L D ws v := by
  obtain ⟨a0, c0, hv, hr⟩ := h.rdr
  exact ⟨⟨a0, c0, hv, hr.below k⟩, row_keep h.row (fun g _ hg => k.block g hg), h.ne, (k.frozen (p := ⟨b, 104, none⟩) hr.tab.home).trans h.wz, Nat.le_trans h.base k.size, h.lim, h.hB⟩
theorem RdrW.keep {w w' : World} {B b M n : Nat} {L : Labs} {D : DataW Unit} {ws : List Int} {v : Value} (h : RdrW w B b M n L D ws v) (k : Keep b 0 103 w w') (t : TabOk w' b 0) : RdrW w' B b M n L D ws v := by
  obtain ⟨a0, c0, hv, hr⟩ := h.rdr
  exact ⟨⟨a0, c0, hv, hr.keep k t⟩, row_keep h.row (fun g hg hgl => k.block g hgl (h.ne g hg)), h.ne, (k.frozen 104).trans h.wz, Nat.le_trans h.base k.size, h.lim, h.hB⟩

theorem row_own {w : World} {B : Nat} {e : TypeId} {v : Value} {n : Nat} {xs : List Value} (h : w.ownsRow B e 1 v n xs) {g : Nat} (hg : v.ownBlock = some g) : B ≤ g ∧ ∃ cur, w.heap[g]? = some (.cells cur e (0, 0)) := by
  obtain ⟨hl, ⟨rfl, _⟩ | ⟨g', cap, cur, rfl, hB, hh, _⟩⟩ := h
  · cases hg
  · injection hg with hg; subst hg; exact ⟨hB, cur, hh⟩
theorem TabOk.of_block {w w' : World} {b off : Nat} (h : TabOk w b off) (e : w'.heap[b]? = w.heap[b]?) : TabOk w' b off := by
  have hc : ∀ j, w'.cell? ⟨b, j, none⟩ = w.cell? ⟨b, j, none⟩ := fun j => World.cell?_of_block (w := w) e
  have hf : ∀ j, w'.frozen? ⟨b, j, none⟩ = w.frozen? ⟨b, j, none⟩ := fun j => World.frozen?_of_block (w := w) e
  rcases h with h | h
  · exact .inl ⟨(hc _).trans h.done, (hc _).trans h.state, (hf _).trans h.z0, (hf _).trans h.z1, fun k hk => ⟨(hc _).trans (h.rows k hk).1, (hf _).trans (h.rows k hk).2⟩⟩
  · exact .inr ⟨(hc _).trans h.done, (hc _).trans h.state, (hf _).trans h.z0, (hf _).trans h.z1, fun k hk => ⟨(hc _).trans (h.rows k hk).1, (hf _).trans (h.rows k hk).2⟩⟩
theorem TabOk.set104 {w : World} {b : Nat} (h : TabOk w b 0) (v : Value) : TabOk (w.setCell ⟨b, 104, none⟩ v) b 0 := by
  have hc : ∀ j, j < 104 → (w.setCell ⟨b, 104, none⟩ v).cell? ⟨b, j, none⟩ = w.cell? ⟨b, j, none⟩ := fun j hj => World.cell?_setCell_other _ _ _ _ (addr_ne (by omega))
  have hf : ∀ j, (w.setCell ⟨b, 104, none⟩ v).frozen? ⟨b, j, none⟩ = w.frozen? ⟨b, j, none⟩ := fun j => frozen_setCell _ _ _ _
  rcases h with h | h
  · exact .inl ⟨(hc _ (by omega)).trans h.done, (hc _ (by omega)).trans h.state, (hf _).trans h.z0, (hf _).trans h.z1, fun k hk => ⟨(hc _ (by omega)).trans (h.rows k hk).1, (hf _).trans (h.rows k hk).2⟩⟩
  · exact .inr ⟨(hc _ (by omega)).trans h.done, (hc _ (by omega)).trans h.state, (hf _).trans h.z0, (hf _).trans h.z1, fun k hk => ⟨(hc _ (by omega)).trans (h.rows k hk).1, (hf _).trans (h.rows k hk).2⟩⟩
theorem RdrAt.blocks {w w' : World} {b M n here : Nat} {a0 : Option Addr} {c0 : Nat} {L : Labs} {D : DataW Unit} (h : RdrAt w b M n here a0 c0 L D) (hk : ∀ k, (k ≤ 6 ∨ k = M ∨ k = b) → w'.heap[k]? = w.heap[k]?) : RdrAt w' b M n here a0 c0 L D := by
  obtain ⟨⟨e1, h1, g1⟩, e2, h2, g2⟩ := h.errs
  obtain ⟨t0, fr, hn⟩ := h.names
  have hc : ∀ k j, (k ≤ 6 ∨ k = M ∨ k = b) → w'.cell? ⟨k, j, none⟩ = w.cell? ⟨k, j, none⟩ := fun k j e => World.cell?_of_block (w := w) (hk k e)
  refine ⟨h.tab.of_block (hk b (by simp)), (hc b 103 (by simp)).trans h.lab, (hc b 104 (by simp)).trans h.words, ?_, h.labs, ⟨⟨e1, (hc 5 0 (by omega)).trans h1, g1⟩, e2, (hc 6 0 (by omega)).trans h2, g2⟩, ⟨t0, fr, (hk 0 (by omega)).trans hn⟩, h.hhere, h.hb, h.hMb⟩
  obtain ⟨es, clock, hm, F, hs, hD⟩ := h.own
  exact ⟨es, clock, (hk M (by simp)).trans hm, F, hs, hD⟩
theorem RdrAt.set104 {w : World} {b M n here here' : Nat} {a0 a1 : Option Addr} {c0 c1 : Nat} {L : Labs} {D : DataW Unit} (h : RdrAt w b M n here a0 c0 L D) (hh : here' ≤ 4294967296) :
    RdrAt (w.setCell ⟨b, 104, none⟩ (.slice a1 here' c1)) b M n here' a1 c1 L D := by
  obtain ⟨⟨e1, h1, g1⟩, e2, h2, g2⟩ := h.errs
  obtain ⟨t0, fr, hn⟩ := h.names
  have hb := h.hb
  have hne : ∀ k j, k ≠ b → (w.setCell ⟨b, 104, none⟩ (.slice a1 here' c1)).cell? ⟨k, j, none⟩ = w.cell? ⟨k, j, none⟩ := fun k j hk => World.cell?_setCell_other _ _ _ _ (fun e => hk (by injection e with e; exact e.symm))
  refine ⟨h.tab.set104 _, (World.cell?_setCell_other _ _ _ _ (addr_ne (by decide))).trans h.lab, World.cell?_setCell_same _ _ _ h.words, ?_, h.labs, ⟨⟨e1, (hne 5 0 (by omega)).trans h1, g1⟩, e2, (hne 6 0 (by omega)).trans h2, g2⟩, ⟨t0, fr, (Below.heap_setCell _ _ _ _ (by show 0 ≠ b; omega)).trans hn⟩, hh, h.hb, h.hMb⟩
  obtain ⟨es, clock, hm, F, hs, hD⟩ := h.own
  exact ⟨es, clock, (Below.heap_setCell _ _ _ _ (by show M ≠ b; exact h.hMb)).trans hm, F, hs, hD⟩

/-- What a line's reading hands back and leaves. -/
def GotL (B b M n : Nat) (L : Labs) (D : DataW Unit) (ws : List Int) (v : Value) (l : Bs) (w : World) (e : Ending) (w' : World) : Prop :=
  Fr b v.ownBlock w w' ∧ ((∃ ws' v', rdStep L ws l = .ok ws' ∧ e = .returned (.int .i64 0) ∧ RdrW w' B b M n L D ws' v' ∧ (v'.ownBlock = v.ownBlock ∨ ∃ g, v'.ownBlock = some g ∧ w.heap.size ≤ g)) ∨
    (∃ er : Int, rdStep L ws l = .error er ∧ e = .returned (.int .i64 er) ∧ er ≠ 0))

theorem line_mem {l x : Bs} (h : x ∈ (lineOf l).2) : x ∈ partsOf l := by
  unfold lineOf at h
  split at h
  · cases h
  · rename_i p ps hp
    split at h
    · rw [hp]; exact List.mem_cons_of_mem _ h
    · rw [hp]; exact h
theorem line_len {l x : Bs} (h : x ∈ (lineOf l).2) : x.length ≤ l.length := by
  have := fieldsFrom_len (saidOf l) [] x (line_mem h)
  have := said_len l
  simp at *; omega
theorem line_cnt (l : Bs) : (lineOf l).2.length ≤ l.length := by
  have h1 : (partsOf l).length ≤ l.length := by
    have := fieldsFrom_count (saidOf l) []
    have := said_len l
    unfold partsOf
    simp at *; omega
  unfold lineOf
  split
  · simp
  · rename_i p ps hp
    rw [hp] at h1
    split <;> simp at h1 ⊢ <;> omega

theorem Tryz.infoU32 : (Tryz.prog.info? 33).map (fun i => (i.zero, i.size, i.bytes)) = some (some (.int .u32 0), 1, 4) := by kernel_rfl

set_option maxHeartbeats 2000000 in
theorem line_c (B b M n : Nat) (L : Labs) (D : DataW Unit) (ws : List Int) (v : Value) (l : Bs) (ha : AsciiL l) (hl : l.length ≤ 4294967296) (w : World) (R : RdrW w B b M n L D ws v) :
    Calls Tryz.prog 16 #[.pointer (some ⟨b, 0, none⟩), .string (BA l)] w (GotL B b M n L D ws v l w) := by
  obtain ⟨i0, hi, hz0, hz1, hz2⟩ := info_parts Tryz.infoU32
  have HI : Hid (Tryz.prog.info? 33 = some i0) := hi
  have HZ0 : Hid (i0.zero = some (.int .u32 0)) := hz0
  have HZ1 : Hid (i0.size = 1) := hz1
  have HZ2 : Hid (i0.bytes = 4) := hz2
  clear hi hz0 hz1 hz2
  have hsp := split_c l ha hl w
  cases hps : (lineOf l).2 with
  | nil =>
    have HS : Hid (rdStep L ws l = .ok ws) := by show rdStep L ws l = .ok ws; unfold rdStep; rw [hps]; rfl
    rw [hps] at hsp
    go_enter Tryz.func16, Tryz.ntmps16
    go_wp2_with (first
      | (go_at_call 27; refine hsp.mono ?_; clear hsp; rintro e w1 ⟨vp, rfl, hst, hb1⟩; obtain ⟨a1, c1, rfl⟩ : ∃ a1 c1, vp = .slice a1 0 c1 := (by rcases hst with ⟨_, h⟩ | ⟨bk, o, c, _, h, _⟩; exact h; exact ⟨_, _, h⟩); clear hst)
      | go_in)
    go_ret
    exact ⟨Fr.of_below hb1, .inl ⟨ws, v, HS.out, rfl, R.below hb1, .inl rfl⟩⟩
  | cons p ps =>
    have hln : ∀ x ∈ ps, x.length ≤ 4294967296 := fun x hx => Nat.le_trans (line_len (l := l) (by rw [hps]; exact List.mem_cons_of_mem _ hx)) hl
    have hn : ps.length + 1 ≤ 4294967296 := by have := line_cnt l; rw [hps] at this; simp at this; omega
    rw [hps] at hsp
    go_enter Tryz.func16, Tryz.ntmps16
    go_wp2_with (first
      | (go_at_call 27; refine hsp.mono ?_; clear hsp; rintro e w1 ⟨vp, rfl, hst, hb1⟩; obtain ⟨bk, o, c, hbk, rfl, hc, hcs⟩ : ∃ bk o c, w.heap.size ≤ bk ∧ vp = .slice (some ⟨bk, o, none⟩) (ps.length + 1) c ∧ ps.length + 1 ≤ c ∧ ∀ j x, (p :: ps)[j]? = some x → w1.cell? ⟨bk, o + j, none⟩ = some (.string (BA x)) := (by rcases hst with ⟨h, _⟩ | h; cases h; exact h); clear hst))
    have R1 := R.below hb1
    obtain ⟨a0, c0, rfl, hr1⟩ := R1.rdr
    have hbw : b < w.heap.size := by obtain ⟨_, _, _, h⟩ := R.rdr; exact h.tab.home
    refine (word_c b M n ws.length a0 c0 L D p ps bk o c w1 hr1 hc hcs hln (by omega) (by omega)).mono ?_
    rintro e w2 ⟨x, ok, rfl, hw, t2, k2⟩
    have R2 := R1.keep k2 t2
    have F2 : Fr b (Value.slice a0 ws.length c0).ownBlock w w2 := (Fr.of_below hb1).trans (Fr.of_keep k2)
    clear R1 hr1 R hcs hln hb1 k2 t2
    have HR2 : Hid _ := R2
    have hbw2 := F2.size
    cases ok with
    | false =>
      have HS : Hid (rdStep L ws l = .error 19) := by show rdStep L ws l = .error 19; unfold rdStep; rw [hps]; simp only [List.length_cons, Nat.add_one_ne_zero, if_false]; rw [hw]; rfl
      clear hw R2
      go_wp2
      go_ret
      exact ⟨F2, .inr ⟨19, HS.out, rfl, by decide⟩⟩
    | true =>
      obtain ⟨a0', c0', hv, hr2⟩ := R2.rdr
      have hwd := hr2.words
      rw [← hv] at hwd
      have hwz := R2.wz
      have hlim := R2.lim
      by_cases h512 : 512 ≤ ws.length
      · have HS : Hid (rdStep L ws l = .error 22) := by show rdStep L ws l = .error 22; unfold rdStep; rw [hps]; simp only [List.length_cons, Nat.add_one_ne_zero, if_false]; rw [hw]; simp [h512]
        have h5 : (512 : Int) ≤ (ws.length : Int) := by omega
        clear hw R2 hv hr2
        go_wp2
        go_ret
        exact ⟨F2, .inr ⟨22, HS.out, rfl, by decide⟩⟩
      · have HS : Hid (rdStep L ws l = .ok (ws ++ [x])) := by show rdStep L ws l = .ok (ws ++ [x]); unfold rdStep; rw [hps]; simp only [List.length_cons, Nat.add_one_ne_zero, if_false]; rw [hw]; simp [h512]
        have h5 : ¬ (512 : Int) ≤ (ws.length : Int) := by omega
        have hrow := R2.row
        have hbase := R2.base
        clear hw R2 hv hr2
        go_wp2_with (first
          | (at_builtin; refine wpList_append_own_at _ rfl _ _ 22 rfl B 33 i0 (.int .u32 0) 1 4 Tryz.underlying22 HI.out HZ0.out HZ1.out HZ2.out rfl (by decide) _ _ _ rfl (hrow.alloc _) ⟨w2.heap.size, 0, none⟩ 1 1 [.int .u32 x] rfl rfl (cell_one_new _ _ _) (by simp [Value.oneCell']) (by unfold maxLen; omega) (by omega) (by simp; omega) ?_; intro v' w3 hown' hgrow hnil hloc; refine Hid.out ?_))
        refine Lib.hid ?_
        obtain ⟨g', cap', rfl⟩ := ownsRow_succ hown'
        have hbn : ∀ k, k < w2.heap.size → some k ≠ (Value.slice a0 ws.length c0).ownBlock → w3.heap[k]? = w2.heap[k]? := fun k hk hn => (hgrow.block k (by simp; omega) hn).trans (Below.heap_alloc _ _ _ hk)
        have hb2 : w3.heap[b]? = w2.heap[b]? := hbn b (by omega) (fun e => HR2.out.ne b e.symm rfl)
        have hwd3 : w3.cell? ⟨b, 104, none⟩ = some (.slice a0 ws.length c0) := (World.cell?_of_block (w := w2) hb2).trans hwd
        have hwz3 : w3.frozen? ⟨b, 104, none⟩ = false := (World.frozen?_of_block (w := w2) hb2).trans hwz
        have F3 : Fr b (Value.slice a0 ws.length c0).ownBlock w w3 := F2.trans ((Fr.of_below ((Below.refl _ _).alloc (Nat.le_refl _) _)).trans (Fr.of_grown hgrow))
        have HG : Hid _ := hgrow
        have HO : Hid _ := hown'
        have HL : Hid _ := hloc
        have HBN : Hid _ := hbn
        clear hgrow hown' hloc hnil hbn hwd hwz hrow
        go_wp2
        go_ret
        refine ⟨?_, .inl ⟨ws ++ [x], .slice (some ⟨g', 0, none⟩) (ws.length + 1) cap', HS.out, rfl, ?_, ?_⟩⟩
        · exact F3.trans ⟨rfl, rfl, rfl, by simp [World.setCell], fun k _ hk _ => Below.heap_setCell _ _ _ _ (by show k ≠ b; exact hk)⟩
        · have hR2 := HR2.out
          obtain ⟨a0', c0', hv, hr2⟩ := hR2.rdr
          have hb6 := hr2.hb
          have hg' : g' ≠ b := by
            rcases HL.out with h | h
            · exact hR2.ne g' (h.symm.trans rfl)
            · have : some g' = some (w2.heap.size + 1) := by simpa [Value.ownBlock] using h
              injection this with this; omega
          have hr3 : RdrAt w3 b M n ws.length a0' c0' L D := hr2.blocks (fun k hk => by
            have hMl := hr2.own.lt
            refine HBN.out k (by rcases hk with h | h | h <;> omega) (fun e => ?_)
            obtain ⟨h1, cur, h2⟩ := row_own hR2.row e.symm
            have := hR2.hB
            rcases hk with h | h | h
            · omega
            · subst h
              obtain ⟨es, clock, hm, _⟩ := hr2.own
              rw [hm] at h2; cases h2
            · subst h; exact hR2.ne k e.symm rfl)
          refine ⟨⟨some ⟨g', 0, none⟩, cap', by simp, ?_⟩, ?_, fun g e => by injection e with e; subst e; exact hg', (frozen_setCell _ _ _ _).trans hwz3, ?_, by simp; omega, hR2.hB⟩
          · rw [List.length_append]; exact hr3.set104 (by simp; omega)
          · have := row_keep HO.out (w' := w3.setCell ⟨b, 104, none⟩ (.slice (some ⟨g', 0, none⟩) (ws.length + 1) cap')) (fun g e _ => Below.heap_setCell _ _ _ _ (by injection e with e; subst e; exact hg'))
            simpa using this
          · have := HG.out.size; simp [World.setCell] at this ⊢; omega
        · rcases HL.out with h | h
          · exact .inl h
          · exact .inr ⟨_, h, by simp; omega⟩
end Go.Proofs.YtpnmnokedpagmaaGreatDoor
