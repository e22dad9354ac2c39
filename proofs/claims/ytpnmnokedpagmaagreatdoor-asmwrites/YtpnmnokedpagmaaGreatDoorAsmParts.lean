/-
  Package asm's partsOf: a word's parts are what the word is spelt as.
-/
import Derived.Test.YtpnmnokedpagmaaGreatDoorAsmOps
import Derived.Test.YtpnmnokedpagmaaGreatDoorIsaRefs
import Derived.Test.YtpnmnokedpagmaaGreatDoorAsmBld
import Derived.Test.YtpnmnokedpagmaaGreatDoorAsmWr
import Derived.Test.YtpnmnokedpagmaaGreatDoorBut
import Derived.Lib.ItoaLen
namespace Go.Proofs.YtpnmnokedpagmaaGreatDoor
open Go.RowKit
set_option linter.unusedVariables false
set_option linter.unusedSimpArgs false
set_option maxRecDepth 20000

theorem pow_small : (Tryz.prog.globalNamed "internal/strconv.uint64pow10").all (fun g => decide (g < 7)) = true := by kernel_rfl
theorem PowOk.on {w w' : World} {B : Nat} (h : PowOk w) (k : Below B w w') (hB : 7 ≤ B) : PowOk w' := by
  have hs := pow_small
  unfold PowOk Lib.TabIs World.var? at *
  cases hg : Tryz.prog.globalNamed "internal/strconv.uint64pow10" with
  | none => simp [hg] at h
  | some g =>
    rw [hg] at hs
    simp at hs
    simp only [hg, Option.bind_some] at h ⊢
    rw [k.block g (by omega)]
    exact h
theorem NamesOk.cell {w : World} (h : NamesOk w) (o : Nat) (ho : o < 25) : w.cell? ⟨0, o, none⟩ = some (.string (BA (opNames.getD o []))) := by
  obtain ⟨t, fr, hh⟩ := h
  have e : (opNames.map fun b => Value.string (BA b)) = namesV.toList := rfl
  unfold World.cell?
  rw [hh]
  show namesV[o]? = _
  rw [← Array.getElem?_toList, ← e, List.getElem?_map]
  have hl : o < opNames.length := ho
  simp [List.getD, hl]
theorem But.lower {l : List Nat} {w w' : World} (h : But l w w') {B : Nat} (hl : ∀ x ∈ l, B ≤ x) (hB : B ≤ w.heap.size) : Below B w w' := h.below hB hl
/-- A row of the call's own stands where others are written. -/
theorem own_but {w w' : World} {B n size : Nat} {e : TypeId} {v : Value} {xs : List Value} {l : List Nat} (h : w.ownsRow B e size v n xs) (k : But l w w') (hl : ∀ x ∈ l, x < B) : w'.ownsRow B e size v n xs := by
  obtain ⟨hlen, h | ⟨g, cap, cur, hv, hg, hh, r⟩⟩ := h
  · exact ⟨hlen, .inl h⟩
  · have hlt : g < w.heap.size := by
      rcases Nat.lt_or_ge g w.heap.size with h1 | h1
      · exact h1
      · rw [Array.getElem?_eq_none h1] at hh; cases hh
    exact ⟨hlen, .inr ⟨g, cap, cur, hv, hg, (k.block g hlt (fun hm => by have := hl g hm; omega)).trans hh, r⟩⟩
theorem own_one (w : World) (B : Nat) (x : Value) (t : TypeId) (hB : B ≤ w.heap.size) : (w.alloc (.cells #[x] t)).ownsRow B t 1 (.slice (some ⟨w.heap.size, 0, none⟩) 1 1) 1 [x] :=
  ⟨rfl, .inr ⟨w.heap.size, 1, #[x], rfl, hB, heap_alloc_new w _, Nat.le_refl _, by unfold maxLen; omega, rfl, rfl⟩⟩
theorem own_two (w : World) (B : Nat) (x y : Value) (t : TypeId) (hB : B ≤ w.heap.size) : (w.alloc (.cells #[x, y] t)).ownsRow B t 1 (.slice (some ⟨w.heap.size, 0, none⟩) 2 2) 2 [x, y] :=
  ⟨rfl, .inr ⟨w.heap.size, 2, #[x, y], rfl, hB, heap_alloc_new w _, Nat.le_refl _, by unfold maxLen; omega, rfl, rfl⟩⟩
def strV (ps : List Bs) : List Value := ps.map fun p => Value.string (BA p)
/-- A row of strings that is not empty: where it lies, what it holds. -/
theorem own_strs {w : World} {B n : Nat} {e : TypeId} {v : Value} {ps : List Bs} (h : w.ownsRow B e 1 v n (strV ps)) (hn : 0 < n) :
    ∃ g c, v = .slice (some ⟨g, 0, none⟩) n c ∧ g < w.heap.size ∧ n ≤ c ∧ n = ps.length ∧ ∀ (j : Nat) x, (ps.map BA)[j]? = some x → w.cell? ⟨g, 0 + j, none⟩ = some (.string x) := by
  obtain ⟨hl, h | ⟨g, cap, cur, rfl, hg, hh, hnc, hcm, hsz, htk⟩⟩ := h
  · exact absurd h.2 (by omega)
  · have hn' : n = ps.length := by simpa [strV] using hl.symm
    refine ⟨g, cap, rfl, ?_, hnc, hn', fun j x hx => ?_⟩
    · rcases Nat.lt_or_ge g w.heap.size with hlt | hge
      · exact hlt
      · rw [Array.getElem?_eq_none hge] at hh; cases hh
    · have hj : (strV ps)[j]? = some (.string x) := by
        simp only [strV, List.getElem?_map] at hx ⊢
        cases hp : ps[j]? with
        | none => rw [hp] at hx; cases hx
        | some p => rw [hp] at hx; simp at hx; subst hx; rfl
      rw [← htk, List.getElem?_take] at hj
      split at hj
      · simp only [World.cell?, hh, Nat.zero_add]
        simpa using hj
      · cases hj
theorem Tryz.infoStr : (Tryz.prog.info? 9).map (fun i => (i.zero, i.size, i.bytes)) = some (some (.string ⟨#[]⟩), 1, 16) := by kernel_rfl
theorem one_str (s : ByteArray) : ∀ u ∈ [Value.string s], u.oneCell' = true := by
  intro u hu
  simp only [List.mem_singleton] at hu
  subst hu
  rfl
theorem TabOk.on {w w' : World} {b : Nat} {l : List Nat} (h : TabOk w b 0) (k : But l w w') (hn : b ∉ l) : TabOk w' b 0 := by
  have hb := h.home
  have key : ∀ {d : Int} {f : Nat → Bool}, TabAt w b 0 d f → TabAt w' b 0 d f := fun t =>
    ⟨(k.cell (p := ⟨b, 0, none⟩) hb hn).trans t.done, (k.cell (p := ⟨b, 0 + 1, none⟩) hb hn).trans t.state, (k.frozen (p := ⟨b, 0, none⟩) hb hn).trans t.z0, (k.frozen (p := ⟨b, 0 + 1, none⟩) hb hn).trans t.z1,
      fun i hi => ⟨(k.cell (p := ⟨b, 0 + 3 + i, none⟩) hb hn).trans (t.rows i hi).1, (k.frozen (p := ⟨b, 0 + 3 + i, none⟩) hb hn).trans (t.rows i hi).2⟩⟩
  rcases h with h | h
  · exact .inl (key h)
  · exact .inr (key h)
/-- What partsOf answers. -/
def GotP (ps : List Bs) (tb : Nat) (w : World) (e : Ending) (w' : World) : Prop :=
  ∃ g c, e = .returned (.slice (some ⟨g, 0, none⟩) (ps.map BA).length c) ∧ (ps.map BA).length ≤ c ∧ g < w'.heap.size ∧ (∀ (j : Nat) x, (ps.map BA)[j]? = some x → w'.cell? ⟨g, 0 + j, none⟩ = some (.string x)) ∧ TabOk w' tb 0 ∧ But [tb] w w'
theorem gotP_of {ps : List Bs} {tb n : Nat} {w w' : World} {v : Value} {t : TypeId} (hown : w'.ownsRow w.heap.size t 1 v n (strV ps)) (hn : 0 < n) (ht : TabOk w' tb 0) (hk : But [tb] w w') : GotP ps tb w (.returned v) w' := by
  obtain ⟨g, c, rfl, hg, hc, hnp, hcell⟩ := own_strs hown hn
  exact ⟨g, c, by rw [List.length_map, ← hnp], by rw [List.length_map, ← hnp]; exact hc, hg, hcell, ht, hk⟩

set_option maxHeartbeats 1000000 in
theorem partsOf_no (u : Nat) (tb : Nat) (w : World) (hu : u ≤ 4294967295) (hd : decB (u : Int) = false) (ht : TabOk w tb 0) (hP : PowOk w) (htb : 7 ≤ tb) :
    Calls Tryz.prog 11 #[.pointer (some ⟨tb, 0, none⟩), .int .u32 (u : Int)] w (GotP (spell (u : Int)) tb w) := by
  have hh := ht.home
  have HS : Hid (spell (u : Int) = [[119, 111, 114, 100], Lib.decDigits u]) := by show _ = _; unfold spell; rw [if_neg (by rw [hd]; simp)]; rfl
  have HV : Hid (vldD (u : Int) = false) := hd
  have hw64 : IntKind.u64.wrap (u : Int) = u := by rw [IntKind.wrap_u64]; omega
  have HT : Hid _ := ht
  have HP : Hid (PowOk w) := hP
  clear hd ht hP
  go_enter Tryz.func11, Tryz.ntmps11
  go_wp2_with fail
  refine (decode_c tb 0 (u : Int) _ HT.out (by omega) (by omega)).mono ?_
  rintro e w1 ⟨rfl, t1, q1⟩
  rw [HV.out]
  have HT1 : Hid (TabOk w1 tb 0) := t1
  have K1 : Hid (But [tb] w w1) := q1.toBut
  have HP1 : Hid (PowOk w1) := HP.out.on (q1.toBelow (B := tb) (Nat.le_refl _)) htb
  have hs1 := q1.size
  clear t1 q1
  go_wp2_with fail
  refine (fuint_c u hu _ (HP1.out.below ((Below.refl _ _).alloc (Nat.le_refl _) _))).mono ?_
  rintro e w2 ⟨rfl, k2⟩
  have K2 : Hid (But [tb] w w2) := (K1.out.alloc _).trans (But.of_below k2)
  have HT2 : Hid (TabOk w2 tb 0) := (HT1.out.alloc _).below k2
  have hs2 : w.heap.size ≤ w2.heap.size := K2.out.size
  clear k2
  go_wp2
  go_ret
  rw [HS.out]
  exact gotP_of (own_two w2 w.heap.size _ _ 9 hs2) (by omega) (HT2.out.alloc _) (K2.out.alloc _)

/-- How it stands while a word's parts are put together: the row of parts, the instruction, which fields it has, the table. -/
structure PSt (w : World) (tb q x o ra rb : Nat) (im : Int) (fa fb fi : Bool) (v : Value) (ps : List Bs) (W : World) : Prop where
  own : W.ownsRow w.heap.size 9 1 v ps.length (strV ps)
  hq : W.heap[q]? = some (.cells #[.int .i64 (o : Int), .int .i64 (ra : Int), .int .i64 (rb : Int), .int .i64 im] 78 (0, 0))
  hx : W.heap[x]? = some (.cells #[.bool fa, .bool fb, .bool fi] 85 (0, 0))
  tab : TabOk W tb 0
  but : But [tb] w W
theorem lt_of_heap {w : World} {b : Nat} {o : Obj} (h : w.heap[b]? = some o) : b < w.heap.size := by
  rcases Nat.lt_or_ge b w.heap.size with h' | h'
  · exact h'
  · rw [Array.getElem?_eq_none h'] at h; cases h
theorem PSt.keep {w W W' : World} {tb q x o ra rb : Nat} {im : Int} {fa fb fi : Bool} {v : Value} {ps : List Bs} (h : PSt w tb q x o ra rb im fa fb fi v ps W) (k : But [] W W') : PSt w tb q x o ra rb im fa fb fi v ps W' :=
  ⟨own_but h.own k (by simp), (k.block q (lt_of_heap h.hq) (by simp)).trans h.hq, (k.block x (lt_of_heap h.hx) (by simp)).trans h.hx, h.tab.on k (by simp), h.but.trans (k.any _)⟩
theorem PSt.grow {w W W' : World} {tb q x o ra rb : Nat} {im : Int} {fa fb fi : Bool} {v v' : Value} {ps qs : List Bs} {ob : Obj} (h : PSt w tb q x o ra rb im fa fb fi v ps W) (hh : tb < w.heap.size) (hown : W'.ownsRow w.heap.size 9 1 v' qs.length (strV qs)) (hg : (W.alloc ob).grownBy W' v.ownBlock) : PSt w tb q x o ra rb im fa fb fi v' qs W' := by
  have hs : W.heap.size ≤ W'.heap.size := by have := hg.size; simp at this; omega
  have hk : ∀ k, k < W.heap.size → v.ownBlock ≠ some k → W'.heap[k]? = W.heap[k]? := fun k hlt hn => (hg.block k (by simp; omega) (fun e => hn e.symm)).trans (Below.heap_alloc _ _ _ hlt)
  have nq : v.ownBlock ≠ some q := Lib.ownBlock_ne h.own h.hq (by decide)
  have nx : v.ownBlock ≠ some x := Lib.ownBlock_ne h.own h.hx (by decide)
  have lo : ∀ k, v.ownBlock = some k → w.heap.size ≤ k := fun k e => (h.own.lt k e).1
  have ho : But [v.ownBlock.getD 0] W W' := ⟨hg.os, hg.tape, hg.output, hs, fun k hlt hn => hk k hlt (fun e => hn (by rw [e]; simp))⟩
  have nt : tb ∉ [v.ownBlock.getD 0] ∨ v.ownBlock = none := by
    cases hv : v.ownBlock with
    | none => exact .inr rfl
    | some k => exact .inl (by have := lo k hv; simp; omega)
  have ht : TabOk W' tb 0 := by
    rcases nt with nt | nt
    · exact h.tab.on ho nt
    · exact h.tab.on (⟨hg.os, hg.tape, hg.output, hs, fun k hlt _ => hk k hlt (by rw [nt]; simp)⟩ : But [] W W') (by simp)
  exact ⟨hown, (hk q (lt_of_heap h.hq) nq).trans h.hq, (hk x (lt_of_heap h.hx) nx).trans h.hx, ht,
    ⟨hg.os.trans h.but.os, hg.tape.trans h.but.tape, hg.output.trans h.but.output, Nat.le_trans h.but.size hs, fun k hlt hn => (hk k (Nat.lt_of_lt_of_le hlt h.but.size) (fun e => by have := lo k e; omega)).trans (h.but.block k hlt hn)⟩⟩
theorem PSt.cells {w W : World} {tb q x o ra rb : Nat} {im : Int} {fa fb fi : Bool} {v : Value} {ps : List Bs} (h : PSt w tb q x o ra rb im fa fb fi v ps W) :
    W.cell? ⟨q, 0, none⟩ = some (.int .i64 (o : Int)) ∧ W.cell? ⟨q, 1, none⟩ = some (.int .i64 (ra : Int)) ∧ W.cell? ⟨q, 2, none⟩ = some (.int .i64 (rb : Int)) ∧ W.cell? ⟨q, 3, none⟩ = some (.int .i64 im) ∧ W.cell? ⟨x, 0, none⟩ = some (.bool fa) ∧ W.cell? ⟨x, 1, none⟩ = some (.bool fb) ∧ W.cell? ⟨x, 2, none⟩ = some (.bool fi) := by
  have hq := h.hq
  have hx := h.hx
  refine ⟨?_, ?_, ?_, ?_, ?_, ?_, ?_⟩
  all_goals (unfold World.cell?; first | (rw [hq]; rfl) | (rw [hx]; rfl))

set_option maxHeartbeats 4000000 in
theorem partsOf_yes (u : Nat) (tb : Nat) (w : World) (hu : u ≤ 4294967295) (hd : decB (u : Int) = true) (ht : TabOk w tb 0) (hN : NamesOk w) (hP : PowOk w) (htb : 7 ≤ tb) :
    Calls Tryz.prog 11 #[.pointer (some ⟨tb, 0, none⟩), .int .u32 (u : Int)] w (GotP (spell (u : Int)) tb w) := by
  have hh := ht.home
  obtain ⟨⟨b1, b2⟩, ⟨b3, b4⟩, ⟨b5, b6⟩, ⟨b7, b8⟩⟩ := dec_bd hd
  have hv : vldD (u : Int) = true := hd
  have hS : spell (u : Int) = opNames.getD (dopI u).toNat [] :: (optR (faB (dopI u)) (daI u) ++ (optR (fbB (dopI u)) (dbI u) ++ optI (fiB (dopI u)) (diI u))) := by unfold spell; rw [if_pos hd]
  have e1 : doR (u : Int) = dopI u := by simp [doR, hv]
  have e2 : daR (u : Int) = daI u := by simp [daR, hv]
  have e3 : dbR (u : Int) = dbI u := by simp [dbR, hv]
  have e4 : diR (u : Int) = diI u := by simp [diR, hv]
  have hdec := fun W h => decode_c tb 0 (u : Int) W h (by omega) (by omega)
  rw [e1, e2, e3, e4, hv] at hdec
  obtain ⟨o, ho⟩ : ∃ o : Nat, dopI (u : Int) = o := ⟨(dopI (u : Int)).toNat, by omega⟩
  obtain ⟨ra, hra⟩ : ∃ r : Nat, daI (u : Int) = r := ⟨(daI (u : Int)).toNat, by omega⟩
  obtain ⟨rb, hrb⟩ : ∃ r : Nat, dbI (u : Int) = r := ⟨(dbI (u : Int)).toNat, by omega⟩
  obtain ⟨im, him⟩ : ∃ i : Int, diI (u : Int) = i := ⟨_, rfl⟩
  rw [ho, hra, hrb, him] at hdec hS
  rw [ho] at b1 b2
  rw [hra] at b3 b4
  rw [hrb] at b5 b6
  rw [him] at b7 b8
  have ho25 : o < 25 := by omega
  have ho25' : (o : Int) < 25 := by omega
  rw [show ((o : Int)).toNat = o by omega] at hS
  obtain ⟨nm, hnm⟩ : ∃ nm, nm = opNames.getD o [] := ⟨_, rfl⟩
  rw [← hnm] at hS
  have HS : Hid (spell (u : Int) = nm :: (optR (faB (o : Int)) (ra : Int) ++ (optR (fbB (o : Int)) (rb : Int) ++ optI (fiB (o : Int)) im))) := hS
  have HT : Hid _ := ht
  have HNM : Hid (∀ W, Below tb w W → W.cell? ⟨0, o, none⟩ = some (.string (BA nm))) := by
    show ∀ W, _ → _
    intro W hb
    rw [hnm]
    exact NamesOk.cell (hN.below hb (by omega)) o ho25
  have HP0 : Hid (PowOk w) := hP
  have HDEC : Hid _ := hdec
  obtain ⟨i0, hi, hz0, hz1, hz2⟩ := info_parts Tryz.infoStr
  have HI : Hid (Tryz.prog.info? 9 = some i0) := hi
  have HZ0 : Hid (i0.zero = some (.string ⟨#[]⟩)) := hz0
  have HZ1 : Hid (i0.size = 1) := hz1
  have HZ2 : Hid (i0.bytes = 16) := hz2
  clear hd ht hN hP hdec e1 e2 e3 e4 hv ho hra hrb him hi hz0 hz1 hz2 hS hnm
  go_enter Tryz.func11, Tryz.ntmps11
  go_wp2_with fail
  refine (HDEC.out _ HT.out).mono ?_
  rintro e w1 ⟨rfl, t1, q1⟩
  have HT1 : Hid (TabOk w1 tb 0) := t1
  have K1 : Hid (But [tb] w w1) := q1.toBut
  have hs1 := q1.size
  obtain ⟨q, hq⟩ : ∃ q, q = w1.heap.size := ⟨_, rfl⟩
  have hqt : q ≠ tb := by omega
  have hcn := HNM.out _ (((K1.out.alloc (.cells #[.int .i64 (o : Int), .int .i64 (ra : Int), .int .i64 (rb : Int), .int .i64 im] 78))).below (B := tb) (by omega) (by simp))
  have HW2 : Hid ((w1.alloc (.cells #[.int .i64 (o : Int), .int .i64 (ra : Int), .int .i64 (rb : Int), .int .i64 im] 78)).heap[q]? = some (.cells #[.int .i64 (o : Int), .int .i64 (ra : Int), .int .i64 (rb : Int), .int .i64 im] 78 (0, 0))) := by
    show _ = _
    rw [hq]
    exact heap_alloc_new w1 _
  have HT2 : Hid (TabOk (w1.alloc (.cells #[.int .i64 (o : Int), .int .i64 (ra : Int), .int .i64 (rb : Int), .int .i64 im] 78)) tb 0) := HT1.out.alloc _
  have hsz : (w1.alloc (.cells #[.int .i64 (o : Int), .int .i64 (ra : Int), .int .i64 (rb : Int), .int .i64 im] 78)).heap.size = q + 1 := by simp; omega
  have K2 : Hid (But [tb] w (w1.alloc (.cells #[.int .i64 (o : Int), .int .i64 (ra : Int), .int .i64 (rb : Int), .int .i64 im] 78))) := K1.out.alloc _
  clear t1 q1
  go_wp2_with fail
  rw [← hq]
  generalize hw2 : w1.alloc (.cells #[.int .i64 (o : Int), .int .i64 (ra : Int), .int .i64 (rb : Int), .int .i64 im] 78) = w2 at hcn HW2 HT2 K2 hsz ⊢
  have hs2 : w.heap.size ≤ w2.heap.size := K2.out.size
  have hq2 : q < w2.heap.size := lt_of_heap HW2.out
  clear hw2 hq
  refine (fieldsOf_c tb 0 (o : Int) _ (HT2.out.alloc _)).mono ?_
  rintro e w3 ⟨rfl, t3, q3⟩
  have HO3 : Hid (w3.ownsRow w.heap.size 9 1 (.slice (some ⟨q + 1, 0, none⟩) 1 1) 1 (strV [nm])) := by
    show World.ownsRow _ _ _ _ _ _ _
    rw [← hsz]
    exact own_but (own_one w2 w.heap.size (.string (BA nm)) 9 hs2) q3.toBut (by simp; omega)
  have HQ3 : Hid (w3.heap[q]? = some (.cells #[.int .i64 (o : Int), .int .i64 (ra : Int), .int .i64 (rb : Int), .int .i64 im] 78 (0, 0))) := (q3.block q (by simp; omega) hqt).trans ((Below.heap_alloc _ _ _ hq2).trans HW2.out)
  have HT3 : Hid (TabOk w3 tb 0) := t3
  have K3 : Hid (But [tb] w w3) := (K2.out.alloc _).trans q3.toBut
  obtain ⟨v3, hv3⟩ : ∃ v, v = Value.slice (some ⟨q + 1, 0, none⟩) 1 1 := ⟨_, rfl⟩
  rw [← hv3] at HO3 ⊢
  obtain ⟨x, hx⟩ : ∃ x, x = w3.heap.size := ⟨_, rfl⟩
  have HS4 : Hid (∀ fa fb fi : Bool, PSt w tb q x o ra rb im fa fb fi v3 [nm] (w3.alloc (.cells #[.bool fa, .bool fb, .bool fi] 85))) := fun fa fb fi =>
    ⟨HO3.out.alloc _, (Below.heap_alloc _ _ _ (lt_of_heap HQ3.out)).trans HQ3.out, by rw [hx]; exact heap_alloc_new w3 _, HT3.out.alloc _, K3.out.alloc _⟩
  have HXX : Hid (x = w3.heap.size) := hx
  clear hx hsz t3 q3 hv3 hcn HW2 HT2 K2 hs2 hq2 HT1 K1 hs1 HDEC HNM HT HQ3 HO3 HT3 K3
  cases hfa : faB (o : Int) with
  | true =>
    rw [hfa] at HS
    cases hfb : fbB (o : Int) with
    | true =>
      rw [hfb] at HS
      cases hfi : fiB (o : Int) with
      | true =>
        rw [hfi] at HS
        clear hfa hfb hfi
        have S4 : Hid (PSt w tb q x o ra rb im true true true v3 [nm] (w3.alloc (.cells #[.bool true, .bool true, .bool true] 85))) := HS4.out _ _ _
        obtain ⟨c0, c1, c2, c3, -, -, -⟩ := S4.out.cells
        go_wp2_with fail
        rw [← HXX.out]
        clear c0 c1 c2 c3
        generalize w3.alloc (.cells #[.bool true, .bool true, .bool true] 85) = w4 at S4 ⊢
        obtain ⟨c0, c1, c2, c3, f0, f1, f2⟩ := S4.out.cells
        clear HXX HS4
        refine (regName_c ra (by omega) _).mono ?_
        rintro e w5 ⟨rfl, k5⟩
        have S5 : Hid (PSt w tb q x o ra rb im true true true v3 [nm] w5) := S4.out.keep (by rw [k5]; exact But.refl _ _)
        have HO5 : Hid ((w5.alloc (.cells #[.string (BA (regName ra))] 9)).ownsRow w.heap.size 9 1 v3 ([nm]).length (strV [nm])) := S5.out.own.alloc _
        have hz5 : w.heap.size ≤ w5.heap.size := S5.out.but.size
        have hl5 : ([nm]).length ≤ 10 := by simp
        clear k5 c0 c1 c2 c3 f0 f1 f2
        go_wp2_with (first
          | (at_builtin; refine wpList_append_own _ rfl _ _ 56 rfl w.heap.size 9 i0 (.string ⟨#[]⟩) 1 16 Tryz.underlying56 HI.out HZ0.out HZ1.out HZ2.out rfl (by decide) _ _ _ rfl HO5.out ⟨w5.heap.size, 0, none⟩ 1 1 [.string (BA (regName ra))] rfl rfl (cell_one_new _ _ _) (one_str _) ?p3 ?p4 ?p5 ?_))
        case p3 => unfold maxLen; omega
        case p4 => omega
        case p5 => first | omega | (simp; omega)
        intro v5 u5 hown hgrow hnil
        have T5 : Hid (PSt w tb q x o ra rb im true true true v5 ([nm] ++ [regName ra]) u5) := S5.out.grow hh (by simpa [strV] using hown) hgrow
        obtain ⟨c0, c1, c2, c3, f0, f1, f2⟩ := T5.out.cells
        clear hown hgrow hnil S5 HO5 hz5 hl5
        go_wp2_with fail
        refine (regName_c rb (by omega) _).mono ?_
        rintro e w6 ⟨rfl, k6⟩
        have S6 : Hid (PSt w tb q x o ra rb im true true true v5 ([nm] ++ [regName ra]) w6) := T5.out.keep (by rw [k6]; exact But.refl _ _)
        have HO6 : Hid ((w6.alloc (.cells #[.string (BA (regName rb))] 9)).ownsRow w.heap.size 9 1 v5 (([nm] ++ [regName ra])).length (strV ([nm] ++ [regName ra]))) := S6.out.own.alloc _
        have hz6 : w.heap.size ≤ w6.heap.size := S6.out.but.size
        have hl6 : (([nm] ++ [regName ra])).length ≤ 10 := by simp
        clear k6 c0 c1 c2 c3 f0 f1 f2
        go_wp2_with (first
          | (at_builtin; refine wpList_append_own _ rfl _ _ 56 rfl w.heap.size 9 i0 (.string ⟨#[]⟩) 1 16 Tryz.underlying56 HI.out HZ0.out HZ1.out HZ2.out rfl (by decide) _ _ _ rfl HO6.out ⟨w6.heap.size, 0, none⟩ 1 1 [.string (BA (regName rb))] rfl rfl (cell_one_new _ _ _) (one_str _) ?p3 ?p4 ?p5 ?_))
        case p3 => unfold maxLen; omega
        case p4 => omega
        case p5 => first | omega | (simp; omega)
        intro v6 u6 hown hgrow hnil
        have T6 : Hid (PSt w tb q x o ra rb im true true true v6 (([nm] ++ [regName ra]) ++ [regName rb]) u6) := S6.out.grow hh (by simpa [strV] using hown) hgrow
        obtain ⟨c0, c1, c2, c3, f0, f1, f2⟩ := T6.out.cells
        clear hown hgrow hnil S6 HO6 hz6 hl6
        go_wp2_with fail
        refine (Tryz.strconv_Itoa im (by omega) (by omega) _ (HP0.out.on (T6.out.but.below (B := tb) (by omega) (by simp)) htb)).mono ?_
        rintro e w7 ⟨rfl, k7⟩
        have S7 : Hid (PSt w tb q x o ra rb im true true true v6 (([nm] ++ [regName ra]) ++ [regName rb]) w7) := T6.out.keep (by obtain ⟨kq, os, ek⟩ := k7; rw [ek]; exact But.of_below (Lib.below_grow _ _ (Nat.le_refl _) kq os))
        have HO7 : Hid ((w7.alloc (.cells #[.string (BA (Lib.itoa im))] 9)).ownsRow w.heap.size 9 1 v6 ((([nm] ++ [regName ra]) ++ [regName rb])).length (strV (([nm] ++ [regName ra]) ++ [regName rb]))) := S7.out.own.alloc _
        have hz7 : w.heap.size ≤ w7.heap.size := S7.out.but.size
        have hl7 : ((([nm] ++ [regName ra]) ++ [regName rb])).length ≤ 10 := by simp
        clear k7 c0 c1 c2 c3 f0 f1 f2
        go_wp2_with (first
          | (at_builtin; refine wpList_append_own _ rfl _ _ 56 rfl w.heap.size 9 i0 (.string ⟨#[]⟩) 1 16 Tryz.underlying56 HI.out HZ0.out HZ1.out HZ2.out rfl (by decide) _ _ _ rfl HO7.out ⟨w7.heap.size, 0, none⟩ 1 1 [.string (BA (Lib.itoa im))] rfl rfl (cell_one_new _ _ _) (one_str _) ?p3 ?p4 ?p5 ?_))
        case p3 => unfold maxLen; omega
        case p4 => omega
        case p5 => first | omega | (simp; omega)
        intro v7 u7 hown hgrow hnil
        have T7 : Hid (PSt w tb q x o ra rb im true true true v7 ((([nm] ++ [regName ra]) ++ [regName rb]) ++ [Lib.itoa im]) u7) := S7.out.grow hh (by simpa [strV] using hown) hgrow
        obtain ⟨c0, c1, c2, c3, f0, f1, f2⟩ := T7.out.cells
        clear hown hgrow hnil S7 HO7 hz7 hl7
        go_wp2
        go_ret
        rw [HS.out]
        exact gotP_of (by simpa [strV, optR, optI] using T7.out.own) (by simp) T7.out.tab T7.out.but
      | false =>
        rw [hfi] at HS
        clear hfa hfb hfi
        have S4 : Hid (PSt w tb q x o ra rb im true true false v3 [nm] (w3.alloc (.cells #[.bool true, .bool true, .bool false] 85))) := HS4.out _ _ _
        obtain ⟨c0, c1, c2, c3, -, -, -⟩ := S4.out.cells
        go_wp2_with fail
        rw [← HXX.out]
        clear c0 c1 c2 c3
        generalize w3.alloc (.cells #[.bool true, .bool true, .bool false] 85) = w4 at S4 ⊢
        obtain ⟨c0, c1, c2, c3, f0, f1, f2⟩ := S4.out.cells
        clear HXX HS4
        refine (regName_c ra (by omega) _).mono ?_
        rintro e w5 ⟨rfl, k5⟩
        have S5 : Hid (PSt w tb q x o ra rb im true true false v3 [nm] w5) := S4.out.keep (by rw [k5]; exact But.refl _ _)
        have HO5 : Hid ((w5.alloc (.cells #[.string (BA (regName ra))] 9)).ownsRow w.heap.size 9 1 v3 ([nm]).length (strV [nm])) := S5.out.own.alloc _
        have hz5 : w.heap.size ≤ w5.heap.size := S5.out.but.size
        have hl5 : ([nm]).length ≤ 10 := by simp
        clear k5 c0 c1 c2 c3 f0 f1 f2
        go_wp2_with (first
          | (at_builtin; refine wpList_append_own _ rfl _ _ 56 rfl w.heap.size 9 i0 (.string ⟨#[]⟩) 1 16 Tryz.underlying56 HI.out HZ0.out HZ1.out HZ2.out rfl (by decide) _ _ _ rfl HO5.out ⟨w5.heap.size, 0, none⟩ 1 1 [.string (BA (regName ra))] rfl rfl (cell_one_new _ _ _) (one_str _) ?p3 ?p4 ?p5 ?_))
        case p3 => unfold maxLen; omega
        case p4 => omega
        case p5 => first | omega | (simp; omega)
        intro v5 u5 hown hgrow hnil
        have T5 : Hid (PSt w tb q x o ra rb im true true false v5 ([nm] ++ [regName ra]) u5) := S5.out.grow hh (by simpa [strV] using hown) hgrow
        obtain ⟨c0, c1, c2, c3, f0, f1, f2⟩ := T5.out.cells
        clear hown hgrow hnil S5 HO5 hz5 hl5
        go_wp2_with fail
        refine (regName_c rb (by omega) _).mono ?_
        rintro e w6 ⟨rfl, k6⟩
        have S6 : Hid (PSt w tb q x o ra rb im true true false v5 ([nm] ++ [regName ra]) w6) := T5.out.keep (by rw [k6]; exact But.refl _ _)
        have HO6 : Hid ((w6.alloc (.cells #[.string (BA (regName rb))] 9)).ownsRow w.heap.size 9 1 v5 (([nm] ++ [regName ra])).length (strV ([nm] ++ [regName ra]))) := S6.out.own.alloc _
        have hz6 : w.heap.size ≤ w6.heap.size := S6.out.but.size
        have hl6 : (([nm] ++ [regName ra])).length ≤ 10 := by simp
        clear k6 c0 c1 c2 c3 f0 f1 f2
        go_wp2_with (first
          | (at_builtin; refine wpList_append_own _ rfl _ _ 56 rfl w.heap.size 9 i0 (.string ⟨#[]⟩) 1 16 Tryz.underlying56 HI.out HZ0.out HZ1.out HZ2.out rfl (by decide) _ _ _ rfl HO6.out ⟨w6.heap.size, 0, none⟩ 1 1 [.string (BA (regName rb))] rfl rfl (cell_one_new _ _ _) (one_str _) ?p3 ?p4 ?p5 ?_))
        case p3 => unfold maxLen; omega
        case p4 => omega
        case p5 => first | omega | (simp; omega)
        intro v6 u6 hown hgrow hnil
        have T6 : Hid (PSt w tb q x o ra rb im true true false v6 (([nm] ++ [regName ra]) ++ [regName rb]) u6) := S6.out.grow hh (by simpa [strV] using hown) hgrow
        obtain ⟨c0, c1, c2, c3, f0, f1, f2⟩ := T6.out.cells
        clear hown hgrow hnil S6 HO6 hz6 hl6
        go_wp2
        go_ret
        rw [HS.out]
        exact gotP_of (by simpa [strV, optR, optI] using T6.out.own) (by simp) T6.out.tab T6.out.but
    | false =>
      rw [hfb] at HS
      cases hfi : fiB (o : Int) with
      | true =>
        rw [hfi] at HS
        clear hfa hfb hfi
        have S4 : Hid (PSt w tb q x o ra rb im true false true v3 [nm] (w3.alloc (.cells #[.bool true, .bool false, .bool true] 85))) := HS4.out _ _ _
        obtain ⟨c0, c1, c2, c3, -, -, -⟩ := S4.out.cells
        go_wp2_with fail
        rw [← HXX.out]
        clear c0 c1 c2 c3
        generalize w3.alloc (.cells #[.bool true, .bool false, .bool true] 85) = w4 at S4 ⊢
        obtain ⟨c0, c1, c2, c3, f0, f1, f2⟩ := S4.out.cells
        clear HXX HS4
        refine (regName_c ra (by omega) _).mono ?_
        rintro e w5 ⟨rfl, k5⟩
        have S5 : Hid (PSt w tb q x o ra rb im true false true v3 [nm] w5) := S4.out.keep (by rw [k5]; exact But.refl _ _)
        have HO5 : Hid ((w5.alloc (.cells #[.string (BA (regName ra))] 9)).ownsRow w.heap.size 9 1 v3 ([nm]).length (strV [nm])) := S5.out.own.alloc _
        have hz5 : w.heap.size ≤ w5.heap.size := S5.out.but.size
        have hl5 : ([nm]).length ≤ 10 := by simp
        clear k5 c0 c1 c2 c3 f0 f1 f2
        go_wp2_with (first
          | (at_builtin; refine wpList_append_own _ rfl _ _ 56 rfl w.heap.size 9 i0 (.string ⟨#[]⟩) 1 16 Tryz.underlying56 HI.out HZ0.out HZ1.out HZ2.out rfl (by decide) _ _ _ rfl HO5.out ⟨w5.heap.size, 0, none⟩ 1 1 [.string (BA (regName ra))] rfl rfl (cell_one_new _ _ _) (one_str _) ?p3 ?p4 ?p5 ?_))
        case p3 => unfold maxLen; omega
        case p4 => omega
        case p5 => first | omega | (simp; omega)
        intro v5 u5 hown hgrow hnil
        have T5 : Hid (PSt w tb q x o ra rb im true false true v5 ([nm] ++ [regName ra]) u5) := S5.out.grow hh (by simpa [strV] using hown) hgrow
        obtain ⟨c0, c1, c2, c3, f0, f1, f2⟩ := T5.out.cells
        clear hown hgrow hnil S5 HO5 hz5 hl5
        go_wp2_with fail
        refine (Tryz.strconv_Itoa im (by omega) (by omega) _ (HP0.out.on (T5.out.but.below (B := tb) (by omega) (by simp)) htb)).mono ?_
        rintro e w6 ⟨rfl, k6⟩
        have S6 : Hid (PSt w tb q x o ra rb im true false true v5 ([nm] ++ [regName ra]) w6) := T5.out.keep (by obtain ⟨kq, os, ek⟩ := k6; rw [ek]; exact But.of_below (Lib.below_grow _ _ (Nat.le_refl _) kq os))
        have HO6 : Hid ((w6.alloc (.cells #[.string (BA (Lib.itoa im))] 9)).ownsRow w.heap.size 9 1 v5 (([nm] ++ [regName ra])).length (strV ([nm] ++ [regName ra]))) := S6.out.own.alloc _
        have hz6 : w.heap.size ≤ w6.heap.size := S6.out.but.size
        have hl6 : (([nm] ++ [regName ra])).length ≤ 10 := by simp
        clear k6 c0 c1 c2 c3 f0 f1 f2
        go_wp2_with (first
          | (at_builtin; refine wpList_append_own _ rfl _ _ 56 rfl w.heap.size 9 i0 (.string ⟨#[]⟩) 1 16 Tryz.underlying56 HI.out HZ0.out HZ1.out HZ2.out rfl (by decide) _ _ _ rfl HO6.out ⟨w6.heap.size, 0, none⟩ 1 1 [.string (BA (Lib.itoa im))] rfl rfl (cell_one_new _ _ _) (one_str _) ?p3 ?p4 ?p5 ?_))
        case p3 => unfold maxLen; omega
        case p4 => omega
        case p5 => first | omega | (simp; omega)
        intro v6 u6 hown hgrow hnil
        have T6 : Hid (PSt w tb q x o ra rb im true false true v6 (([nm] ++ [regName ra]) ++ [Lib.itoa im]) u6) := S6.out.grow hh (by simpa [strV] using hown) hgrow
        obtain ⟨c0, c1, c2, c3, f0, f1, f2⟩ := T6.out.cells
        clear hown hgrow hnil S6 HO6 hz6 hl6
        go_wp2
        go_ret
        rw [HS.out]
        exact gotP_of (by simpa [strV, optR, optI] using T6.out.own) (by simp) T6.out.tab T6.out.but
      | false =>
        rw [hfi] at HS
        clear hfa hfb hfi
        have S4 : Hid (PSt w tb q x o ra rb im true false false v3 [nm] (w3.alloc (.cells #[.bool true, .bool false, .bool false] 85))) := HS4.out _ _ _
        obtain ⟨c0, c1, c2, c3, -, -, -⟩ := S4.out.cells
        go_wp2_with fail
        rw [← HXX.out]
        clear c0 c1 c2 c3
        generalize w3.alloc (.cells #[.bool true, .bool false, .bool false] 85) = w4 at S4 ⊢
        obtain ⟨c0, c1, c2, c3, f0, f1, f2⟩ := S4.out.cells
        clear HXX HS4
        refine (regName_c ra (by omega) _).mono ?_
        rintro e w5 ⟨rfl, k5⟩
        have S5 : Hid (PSt w tb q x o ra rb im true false false v3 [nm] w5) := S4.out.keep (by rw [k5]; exact But.refl _ _)
        have HO5 : Hid ((w5.alloc (.cells #[.string (BA (regName ra))] 9)).ownsRow w.heap.size 9 1 v3 ([nm]).length (strV [nm])) := S5.out.own.alloc _
        have hz5 : w.heap.size ≤ w5.heap.size := S5.out.but.size
        have hl5 : ([nm]).length ≤ 10 := by simp
        clear k5 c0 c1 c2 c3 f0 f1 f2
        go_wp2_with (first
          | (at_builtin; refine wpList_append_own _ rfl _ _ 56 rfl w.heap.size 9 i0 (.string ⟨#[]⟩) 1 16 Tryz.underlying56 HI.out HZ0.out HZ1.out HZ2.out rfl (by decide) _ _ _ rfl HO5.out ⟨w5.heap.size, 0, none⟩ 1 1 [.string (BA (regName ra))] rfl rfl (cell_one_new _ _ _) (one_str _) ?p3 ?p4 ?p5 ?_))
        case p3 => unfold maxLen; omega
        case p4 => omega
        case p5 => first | omega | (simp; omega)
        intro v5 u5 hown hgrow hnil
        have T5 : Hid (PSt w tb q x o ra rb im true false false v5 ([nm] ++ [regName ra]) u5) := S5.out.grow hh (by simpa [strV] using hown) hgrow
        obtain ⟨c0, c1, c2, c3, f0, f1, f2⟩ := T5.out.cells
        clear hown hgrow hnil S5 HO5 hz5 hl5
        go_wp2
        go_ret
        rw [HS.out]
        exact gotP_of (by simpa [strV, optR, optI] using T5.out.own) (by simp) T5.out.tab T5.out.but
  | false =>
    rw [hfa] at HS
    cases hfb : fbB (o : Int) with
    | true =>
      rw [hfb] at HS
      cases hfi : fiB (o : Int) with
      | true =>
        rw [hfi] at HS
        clear hfa hfb hfi
        have S4 : Hid (PSt w tb q x o ra rb im false true true v3 [nm] (w3.alloc (.cells #[.bool false, .bool true, .bool true] 85))) := HS4.out _ _ _
        obtain ⟨c0, c1, c2, c3, -, -, -⟩ := S4.out.cells
        go_wp2_with fail
        rw [← HXX.out]
        clear c0 c1 c2 c3
        generalize w3.alloc (.cells #[.bool false, .bool true, .bool true] 85) = w4 at S4 ⊢
        obtain ⟨c0, c1, c2, c3, f0, f1, f2⟩ := S4.out.cells
        clear HXX HS4
        refine (regName_c rb (by omega) _).mono ?_
        rintro e w5 ⟨rfl, k5⟩
        have S5 : Hid (PSt w tb q x o ra rb im false true true v3 [nm] w5) := S4.out.keep (by rw [k5]; exact But.refl _ _)
        have HO5 : Hid ((w5.alloc (.cells #[.string (BA (regName rb))] 9)).ownsRow w.heap.size 9 1 v3 ([nm]).length (strV [nm])) := S5.out.own.alloc _
        have hz5 : w.heap.size ≤ w5.heap.size := S5.out.but.size
        have hl5 : ([nm]).length ≤ 10 := by simp
        clear k5 c0 c1 c2 c3 f0 f1 f2
        go_wp2_with (first
          | (at_builtin; refine wpList_append_own _ rfl _ _ 56 rfl w.heap.size 9 i0 (.string ⟨#[]⟩) 1 16 Tryz.underlying56 HI.out HZ0.out HZ1.out HZ2.out rfl (by decide) _ _ _ rfl HO5.out ⟨w5.heap.size, 0, none⟩ 1 1 [.string (BA (regName rb))] rfl rfl (cell_one_new _ _ _) (one_str _) ?p3 ?p4 ?p5 ?_))
        case p3 => unfold maxLen; omega
        case p4 => omega
        case p5 => first | omega | (simp; omega)
        intro v5 u5 hown hgrow hnil
        have T5 : Hid (PSt w tb q x o ra rb im false true true v5 ([nm] ++ [regName rb]) u5) := S5.out.grow hh (by simpa [strV] using hown) hgrow
        obtain ⟨c0, c1, c2, c3, f0, f1, f2⟩ := T5.out.cells
        clear hown hgrow hnil S5 HO5 hz5 hl5
        go_wp2_with fail
        refine (Tryz.strconv_Itoa im (by omega) (by omega) _ (HP0.out.on (T5.out.but.below (B := tb) (by omega) (by simp)) htb)).mono ?_
        rintro e w6 ⟨rfl, k6⟩
        have S6 : Hid (PSt w tb q x o ra rb im false true true v5 ([nm] ++ [regName rb]) w6) := T5.out.keep (by obtain ⟨kq, os, ek⟩ := k6; rw [ek]; exact But.of_below (Lib.below_grow _ _ (Nat.le_refl _) kq os))
        have HO6 : Hid ((w6.alloc (.cells #[.string (BA (Lib.itoa im))] 9)).ownsRow w.heap.size 9 1 v5 (([nm] ++ [regName rb])).length (strV ([nm] ++ [regName rb]))) := S6.out.own.alloc _
        have hz6 : w.heap.size ≤ w6.heap.size := S6.out.but.size
        have hl6 : (([nm] ++ [regName rb])).length ≤ 10 := by simp
        clear k6 c0 c1 c2 c3 f0 f1 f2
        go_wp2_with (first
          | (at_builtin; refine wpList_append_own _ rfl _ _ 56 rfl w.heap.size 9 i0 (.string ⟨#[]⟩) 1 16 Tryz.underlying56 HI.out HZ0.out HZ1.out HZ2.out rfl (by decide) _ _ _ rfl HO6.out ⟨w6.heap.size, 0, none⟩ 1 1 [.string (BA (Lib.itoa im))] rfl rfl (cell_one_new _ _ _) (one_str _) ?p3 ?p4 ?p5 ?_))
        case p3 => unfold maxLen; omega
        case p4 => omega
        case p5 => first | omega | (simp; omega)
        intro v6 u6 hown hgrow hnil
        have T6 : Hid (PSt w tb q x o ra rb im false true true v6 (([nm] ++ [regName rb]) ++ [Lib.itoa im]) u6) := S6.out.grow hh (by simpa [strV] using hown) hgrow
        obtain ⟨c0, c1, c2, c3, f0, f1, f2⟩ := T6.out.cells
        clear hown hgrow hnil S6 HO6 hz6 hl6
        go_wp2
        go_ret
        rw [HS.out]
        exact gotP_of (by simpa [strV, optR, optI] using T6.out.own) (by simp) T6.out.tab T6.out.but
      | false =>
        rw [hfi] at HS
        clear hfa hfb hfi
        have S4 : Hid (PSt w tb q x o ra rb im false true false v3 [nm] (w3.alloc (.cells #[.bool false, .bool true, .bool false] 85))) := HS4.out _ _ _
        obtain ⟨c0, c1, c2, c3, -, -, -⟩ := S4.out.cells
        go_wp2_with fail
        rw [← HXX.out]
        clear c0 c1 c2 c3
        generalize w3.alloc (.cells #[.bool false, .bool true, .bool false] 85) = w4 at S4 ⊢
        obtain ⟨c0, c1, c2, c3, f0, f1, f2⟩ := S4.out.cells
        clear HXX HS4
        refine (regName_c rb (by omega) _).mono ?_
        rintro e w5 ⟨rfl, k5⟩
        have S5 : Hid (PSt w tb q x o ra rb im false true false v3 [nm] w5) := S4.out.keep (by rw [k5]; exact But.refl _ _)
        have HO5 : Hid ((w5.alloc (.cells #[.string (BA (regName rb))] 9)).ownsRow w.heap.size 9 1 v3 ([nm]).length (strV [nm])) := S5.out.own.alloc _
        have hz5 : w.heap.size ≤ w5.heap.size := S5.out.but.size
        have hl5 : ([nm]).length ≤ 10 := by simp
        clear k5 c0 c1 c2 c3 f0 f1 f2
        go_wp2_with (first
          | (at_builtin; refine wpList_append_own _ rfl _ _ 56 rfl w.heap.size 9 i0 (.string ⟨#[]⟩) 1 16 Tryz.underlying56 HI.out HZ0.out HZ1.out HZ2.out rfl (by decide) _ _ _ rfl HO5.out ⟨w5.heap.size, 0, none⟩ 1 1 [.string (BA (regName rb))] rfl rfl (cell_one_new _ _ _) (one_str _) ?p3 ?p4 ?p5 ?_))
        case p3 => unfold maxLen; omega
        case p4 => omega
        case p5 => first | omega | (simp; omega)
        intro v5 u5 hown hgrow hnil
        have T5 : Hid (PSt w tb q x o ra rb im false true false v5 ([nm] ++ [regName rb]) u5) := S5.out.grow hh (by simpa [strV] using hown) hgrow
        obtain ⟨c0, c1, c2, c3, f0, f1, f2⟩ := T5.out.cells
        clear hown hgrow hnil S5 HO5 hz5 hl5
        go_wp2
        go_ret
        rw [HS.out]
        exact gotP_of (by simpa [strV, optR, optI] using T5.out.own) (by simp) T5.out.tab T5.out.but
    | false =>
      rw [hfb] at HS
      cases hfi : fiB (o : Int) with
      | true =>
        rw [hfi] at HS
        clear hfa hfb hfi
        have S4 : Hid (PSt w tb q x o ra rb im false false true v3 [nm] (w3.alloc (.cells #[.bool false, .bool false, .bool true] 85))) := HS4.out _ _ _
        obtain ⟨c0, c1, c2, c3, -, -, -⟩ := S4.out.cells
        go_wp2_with fail
        rw [← HXX.out]
        clear c0 c1 c2 c3
        generalize w3.alloc (.cells #[.bool false, .bool false, .bool true] 85) = w4 at S4 ⊢
        obtain ⟨c0, c1, c2, c3, f0, f1, f2⟩ := S4.out.cells
        clear HXX HS4
        refine (Tryz.strconv_Itoa im (by omega) (by omega) _ (HP0.out.on (S4.out.but.below (B := tb) (by omega) (by simp)) htb)).mono ?_
        rintro e w5 ⟨rfl, k5⟩
        have S5 : Hid (PSt w tb q x o ra rb im false false true v3 [nm] w5) := S4.out.keep (by obtain ⟨kq, os, ek⟩ := k5; rw [ek]; exact But.of_below (Lib.below_grow _ _ (Nat.le_refl _) kq os))
        have HO5 : Hid ((w5.alloc (.cells #[.string (BA (Lib.itoa im))] 9)).ownsRow w.heap.size 9 1 v3 ([nm]).length (strV [nm])) := S5.out.own.alloc _
        have hz5 : w.heap.size ≤ w5.heap.size := S5.out.but.size
        have hl5 : ([nm]).length ≤ 10 := by simp
        clear k5 c0 c1 c2 c3 f0 f1 f2
        go_wp2_with (first
          | (at_builtin; refine wpList_append_own _ rfl _ _ 56 rfl w.heap.size 9 i0 (.string ⟨#[]⟩) 1 16 Tryz.underlying56 HI.out HZ0.out HZ1.out HZ2.out rfl (by decide) _ _ _ rfl HO5.out ⟨w5.heap.size, 0, none⟩ 1 1 [.string (BA (Lib.itoa im))] rfl rfl (cell_one_new _ _ _) (one_str _) ?p3 ?p4 ?p5 ?_))
        case p3 => unfold maxLen; omega
        case p4 => omega
        case p5 => first | omega | (simp; omega)
        intro v5 u5 hown hgrow hnil
        have T5 : Hid (PSt w tb q x o ra rb im false false true v5 ([nm] ++ [Lib.itoa im]) u5) := S5.out.grow hh (by simpa [strV] using hown) hgrow
        obtain ⟨c0, c1, c2, c3, f0, f1, f2⟩ := T5.out.cells
        clear hown hgrow hnil S5 HO5 hz5 hl5
        go_wp2
        go_ret
        rw [HS.out]
        exact gotP_of (by simpa [strV, optR, optI] using T5.out.own) (by simp) T5.out.tab T5.out.but
      | false =>
        rw [hfi] at HS
        clear hfa hfb hfi
        have S4 : Hid (PSt w tb q x o ra rb im false false false v3 [nm] (w3.alloc (.cells #[.bool false, .bool false, .bool false] 85))) := HS4.out _ _ _
        obtain ⟨c0, c1, c2, c3, -, -, -⟩ := S4.out.cells
        go_wp2
        go_ret
        rw [HS.out]
        exact gotP_of (by simpa [strV, optR, optI] using S4.out.own) (by simp) S4.out.tab S4.out.but
end Go.Proofs.YtpnmnokedpagmaaGreatDoor
