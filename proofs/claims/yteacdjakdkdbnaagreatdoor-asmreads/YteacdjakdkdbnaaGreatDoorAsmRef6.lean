/-
  The document's own Read: what it answers for every text.
-/
import Derived.Test.YteacdjakdkdbnaaGreatDoorAsmRef5
import Derived.Deep.QuietTactic
import Derived.WalkSmall
namespace Go.Proofs.YteacdjakdkdbnaaGreatDoor
open Go.RowKit
set_option linter.unusedVariables false
set_option linter.unusedSimpArgs false
set_option maxRecDepth 20000

theorem Tryz.infoInt : (Tryz.prog.info? 3).map (fun i => (i.zero, i.size, i.bytes)) = some (some (.int .i64 0), 1, 8) := by kernel_rfl
theorem Tryz.infoStrs : (Tryz.prog.info? 61).map (fun i => (i.zero, i.size, i.bytes)) = some (some (.slice none 0 0), 1, 24) := by kernel_rfl
theorem Tryz.infoLab : (Tryz.prog.info? 69).map (fun i => (i.zero, i.size, i.bytes)) = some (some (.agg #[.string ⟨#[]⟩, .int .i64 0]), 2, 24) := by kernel_rfl
theorem row_cells {w : World} {B n : Nat} {e : TypeId} {v : Value} {xs : List Value} (h : w.ownsRow B e 1 v n xs) : ∃ A c, v = .slice A n c ∧ n ≤ c ∧ ∀ (j : Nat) (u : Value), xs[j]? = some u → ∃ g, A = some ⟨g, 0, none⟩ ∧ B ≤ g ∧ g < w.heap.size ∧ w.cell? ⟨g, j, none⟩ = some u := by
  obtain ⟨hl, ⟨rfl, h0⟩ | ⟨g, cap, cur, rfl, hg, hh, hnc, hcm, hsz, htk⟩⟩ := h
  · subst h0
    refine ⟨none, 0, rfl, Nat.le_refl _, fun j u hu => ?_⟩
    have : xs = [] := by simpa using hl
    subst this; simp at hu
  · refine ⟨_, cap, rfl, hnc, fun j u hu => ⟨g, rfl, hg, (Array.getElem?_eq_some_iff.1 hh).1, ?_⟩⟩
    rw [← htk, List.getElem?_take] at hu
    split at hu
    · simp only [World.cell?, hh]; simpa using hu
    · cases hu
theorem linesOf_len : ∀ (s : Bs), ∀ x ∈ linesOf s, x.length ≤ s.length
  | [], x, h => by simp [linesOf] at h; simp [h]
  | c :: t, x, h => by
    unfold linesOf at h
    split at h
    · rcases List.mem_cons.1 h with rfl | h
      · simp
      · have := linesOf_len t x h; simp; omega
    · split at h
      · rename_i e; exact absurd e (linesOf_ne t)
      · rename_i y r e
        have ih := linesOf_len t
        rw [e] at ih
        rcases List.mem_cons.1 h with rfl | h
        · have := ih y (List.mem_cons_self ..); simp; omega
        · have := ih x (List.mem_cons_of_mem _ h); simp; omega
theorem LinesR.len {s : Bs} {ls : List Bs} (h : LinesR s ls) {x : Bs} (hx : x ∈ ls) : x.length ≤ s.length := by
  rcases h with h | h
  · exact linesOf_len s x (h ▸ hx)
  · exact linesOf_len s x (by rw [h]; exact List.mem_append_left _ hx)
/-- What Read answers. -/
def GotRR (r : List Int × Nat × Int) (w : World) (e : Ending) (w' : World) : Prop :=
  ∃ v, e = .returned (.tuple #[v, .int .i64 (r.2.1 : Nat), .int .i64 r.2.2]) ∧ w'.ownsRow w.heap.size 41 1 v r.1.length (r.1.map (Value.int .u32)) ∧ Below w.heap.size w w'
theorem suf_yes (nm : Bs) : Lib.hasSuffix (nm ++ [58]) [58] = true ∧ Lib.trimSuffix (nm ++ [58]) [58] = nm := by
  have h : Lib.hasSuffix (nm ++ [58]) [58] = true := by unfold Lib.hasSuffix; rw [List.isSuffixOf_iff_suffix]; exact ⟨nm, rfl⟩
  refine ⟨h, ?_⟩
  unfold Lib.trimSuffix
  rw [if_pos h]; simp
theorem suf_no (nm : Bs) (c : UInt8) (hc : c ≠ 58) : Lib.hasSuffix (nm ++ [c]) [58] = false := by
  unfold Lib.hasSuffix
  rw [← Bool.not_eq_true, List.isSuffixOf_iff_suffix]
  rintro ⟨t, ht⟩
  have := List.append_inj_right' ht rfl
  injection this with this
  exact hc this.symm

/-- How Read stands behind k lines. -/
def At1 (w : World) (lv : Value) (ls : List Bs) (k : Nat) (L : Labs) (pw : List (List Bs × Nat)) (s6 s7 s8 : Value) (wr : World) : Prop :=
  R1 w wr lv s6 s7 s8 ls L pw ∧ labsTo ([], 0) (ls.take k) = some (L, pw.length) ∧ pw = wl 0 (ls.take k) ∧ L.length ≤ k ∧ pw.length ≤ k ∧ ∀ x n, (x, n) ∈ L → n ≤ k

theorem R1.apart {w wr : World} {lv s6 s7 s8 : Value} {ls : List Bs} {L : Labs} {pw : List (List Bs × Nat)} (h : R1 w wr lv s6 s7 s8 ls L pw) {b : Nat} (hb : wr.heap.size ≤ b) : s6.ownBlock ≠ some b ∧ s7.ownBlock ≠ some b ∧ s8.ownBlock ≠ some b := by
  obtain ⟨vs, h1, -⟩ := h.words
  exact ⟨fun e => by have := row_lt h.labs e; omega, fun e => by have := row_lt h1 e; omega, fun e => by have := row_lt h.ats e; omega⟩
theorem lab_none {st : Labs × Nat} {l : Bs} {q : List Bs} (h : lineOf l = (none, q)) : labStep st l = some (st.1, st.2 + (if (lineOf l).2.length = 0 then 0 else 1)) := by unfold labStep; rw [h]
theorem lab_some {st : Labs × Nat} {l nm : Bs} {q : List Bs} (h : lineOf l = (some nm, q)) (hn : nm ≠ []) (hl : st.1.lookup nm = none) : labStep st l = some (st.1 ++ [(nm, st.2)], st.2 + (if (lineOf l).2.length = 0 then 0 else 1)) := by
  unfold labStep; rw [h]; simp only []; rw [if_neg]; rintro (e | e)
  · exact hn e
  · rw [hl] at e; cases e
theorem lab_bad {st : Labs × Nat} {l nm : Bs} {q : List Bs} (h : lineOf l = (some nm, q)) (hb : nm = [] ∨ (st.1.lookup nm).isSome = true) : labStep st l = none := by
  unfold labStep; rw [h]; simp only []; rw [if_pos hb]
theorem rrd_stop {ls : List Bs} {k : Nat} {l : Bs} {st : Labs × Nat} (hl : ls[k]? = some l) (h1 : labsTo ([], 0) (ls.take k) = some st) (h2 : labStep st l = none) : rrd ls = ([], k + 1, 19) := by
  have hk : k < ls.length := (List.getElem?_eq_some_iff.1 hl).1
  have e : ls = ls.take k ++ l :: ls.drop (k + 1) := by
    conv => lhs; rw [← List.take_append_drop k ls, List.drop_eq_getElem_cons hk]
    rw [(List.getElem?_eq_some_iff.1 hl).2]
  have hf := findFrom_stop (ls.take k) l (ls.drop (k + 1)) ([], 0) st 0 h1 h2
  rw [← e, List.length_take, Nat.min_eq_left (by omega)] at hf
  unfold rrd; rw [hf]; simp
theorem wl_mem : ∀ (ls : List Bs) (k : Nat) (q : List Bs) (n : Nat), (q, n) ∈ wl k ls → ∃ l ∈ ls, q = (lineOf l).2 ∧ q.length ≠ 0
  | [], k, q, n, h => by simp [wl] at h
  | l :: r, k, q, n, h => by
    rw [wl] at h
    rcases List.mem_append.1 h with h | h
    · split at h
      · cases h
      · rename_i hn; simp at h; exact ⟨l, List.mem_cons_self .., h.1, by rw [h.1]; exact hn⟩
    · obtain ⟨l', h1, h2⟩ := wl_mem r (k + 1) q n h
      exact ⟨l', List.mem_cons_of_mem _ h1, h2⟩
theorem rrd_all {ls : List Bs} {st : Labs × Nat} (h1 : labsTo ([], 0) ls = some st) : rrd ls = rdW st.1 [] (wl 0 ls) := by
  unfold rrd; rw [findFrom_all ls ([], 0) st 0 h1]
/-- Behind a line's label: what is left of its parts. -/
def At2 (w : World) (lv : Value) (ls : List Bs) (k : Nat) (L : Labs) (pw : List (List Bs × Nat)) (l : Bs) (L' : Labs) (s6 s7 s8 s10 : Value) (wr : World) : Prop :=
  R1 w wr lv s6 s7 s8 ls L' pw ∧ labStep (L, pw.length) l = some (L', pw.length + (if (lineOf l).2.length = 0 then 0 else 1)) ∧ L'.length ≤ k + 1 ∧ (∀ x n, (x, n) ∈ L' → n ≤ k + 1) ∧
  ((lineOf l).2 = [] ∧ (∃ a c, s10 = .slice a 0 c) ∨ (lineOf l).2 ≠ [] ∧ ∃ bk, bk < wr.heap.size ∧ PAt wr bk s10 (lineOf l).2 ∧ s6.ownBlock ≠ some bk ∧ s7.ownBlock ≠ some bk ∧ s8.ownBlock ≠ some bk)
theorem last_split {p : Bs} (h : p ≠ []) : ∃ nm c, p = nm ++ [c] := ⟨p.dropLast, p.getLast h, (List.dropLast_concat_getLast h).symm⟩
theorem line_none {l p : Bs} {ps : List Bs} (h : partsOf l = p :: ps) (hs : Lib.hasSuffix p [58] = false) : lineOf l = (none, p :: ps) := by unfold lineOf; rw [h]; simp [hs]
theorem line_some {l nm : Bs} {ps : List Bs} (h : partsOf l = (nm ++ [58]) :: ps) : lineOf l = (some nm, ps) := by unfold lineOf; rw [h]; simp [suf_yes nm]
theorem line_empty {l : Bs} (h : partsOf l = []) : lineOf l = (none, []) := by unfold lineOf; rw [h]

set_option maxHeartbeats 4000000 in
theorem rread_c (s : Bs) (hs : s.length ≤ 100000) (w : World) : Calls Tryz.prog 8 #[.string (BA s)] w (GotRR (rdOf s) w) := by
  go_enter Tryz.func8, Tryz.ntmps8
  go_wp2_with (first
    | (go_at_call 16; refine (rlines_c s hs _).mono ?_; rintro e w1 ⟨lv, ls, rfl, hown, hlr, hll, hb1⟩)
    | go_in)
  have HLR : Hid _ := hlr
  have HRD : Hid (rdOf s = rrd ls) := rrd_eq hlr
  have HLL : Hid (∀ x ∈ ls, x.length ≤ 100000) := fun x hx => Nat.le_trans (hlr.len hx) hs
  have hln : ls.length ≤ 100000 := by omega
  obtain ⟨A, c, rfl, -, HC⟩ := row_cells hown
  have HO : Hid _ := hown
  clear hlr HC hll hown
  go_loopw [6, 7, 8, 9] (fun s6 s7 s8 i wr => ∃ (k : Nat) (L : Labs) (pw : List (List Bs × Nat)), k ≤ ls.length ∧ i = .int .i64 k ∧ At1 w (.slice A ls.length c) ls k L pw s6 s7 s8 wr) (fun _ _ _ i _ => ls.length - (intOf i).toNat)
  case atStart => exact ⟨0, [], [], by omega, rfl, ⟨hb1, HO.out, World.ownsRow_nil _ _ _ _, World.ownsRow_nil _ _ _ _, ⟨[], World.ownsRow_nil _ _ _ _, fun j x h => by simp at h⟩, (fun _ _ e => by cases e), (fun _ _ e => by cases e), (fun _ _ e => by cases e), (fun _ _ e => by cases e), (fun _ _ e => by cases e), (fun _ _ e => by cases e)⟩, by simp [labsTo], by simp [wl], by simp, by simp, fun x n h => by simp at h⟩
  case round =>
    obtain ⟨k, L, pw, hk, rfl, H⟩ := hrel
    have HH : Hid _ := H
    by_cases hlt : k < ls.length
    · obtain ⟨l, hl⟩ : ∃ l, ls[k]? = some l := ⟨_, List.getElem?_eq_getElem hlt⟩
      have hll : l.length ≤ 100000 := HLL.out l (List.mem_of_getElem? hl)
      obtain ⟨A', c', hAe, -, hcell⟩ := row_cells H.1.lines
      injection hAe with hA1 _ hA2
      subst hA1
      obtain ⟨g, rfl, hg1, hg2, hgc⟩ := hcell k (.string (BA l)) (by simp [strsV, hl])
      have HLK : Hid _ := hl
      have hpc := rparts_c l hll wr
      clear hcell H hl hA2
      go_upto_region 9 with (first
        | (go_at_call 17; refine hpc.mono ?_; clear hpc; rintro e w2 ⟨pv, rfl, hpo, hb2⟩)
        | go_in)
      have hb2s := hb2.size
      have R2 := HH.out.1.on hb2
      have HR2 : Hid _ := R2
      have HPO : Hid _ := hpo
      clear R2 hpo
      go_cut [45] from 20 to 88 (fun s45 wx => ∃ b, s45 = .bool b ∧ Hid (b = (lineOf l).1.isSome) ∧ Below w2.heap.size w2 wx)
      case first =>
        -- ⟪slow⟫
        cases hp : partsOf l with
        | nil =>
          have HL : Hid (lineOf l = (none, [])) := line_empty hp
          have hpo := HPO.out
          rw [hp] at hpo
          obtain ⟨A2, c2, rfl, -, -⟩ := row_cells hpo
          clear hpo hp
          go_region
          all_goals (go_wp2_with fail; go_meet)
          all_goals exact ⟨_, rfl, by show _ = _; rw [HL.out]; rfl, (Below.refl _ _).drew⟩
        | cons p ps =>
          have hpo := HPO.out
          rw [hp] at hpo
          obtain ⟨A2, c2, rfl, -, hcs⟩ := row_cells hpo
          obtain ⟨g2, rfl, -, hg2', hc0⟩ := hcs 0 (.string (BA p)) rfl
          have hpne : p ≠ [] := partsOf_ne l p (by rw [hp]; exact List.mem_cons_self ..)
          have hplen : p.length ≤ 100000 := by have := fieldsFrom_len (saidOf l) [] p (by rw [show fieldsFrom [] (saidOf l) = partsOf l from rfl, hp]; exact List.mem_cons_self ..); have := said_len l; simp at *; omega
          obtain ⟨nm, ch, rfl⟩ := last_split hpne
          clear hcs hpo
          obtain ⟨Q, hQ, hq1, hq2, hq3, hq4⟩ : ∃ Q, BA (nm ++ [ch]) = Q ∧ 0 < Q.size ∧ Q.size ≤ 100000 ∧ (∀ h, Q[Q.size - 1]'h = ch) ∧ (1 : Int) ≤ (Q.size : Int) :=
            ⟨_, rfl, by rw [BA_size]; simp, by rw [BA_size]; exact hplen, fun h => by simp only [BA_get, BA_size, List.length_append, List.length_cons, List.length_nil, Nat.zero_add, Nat.add_sub_cancel]; exact List.getElem_concat_length rfl _, by rw [BA_size]; simp; omega⟩
          rw [hQ] at hc0
          simp only [List.length_cons]
          have hpsl : ps.length ≤ 100000 := by have := fieldsFrom_count (saidOf l) []; rw [show fieldsFrom [] (saidOf l) = partsOf l from rfl, hp] at this; have := said_len l; simp at *; omega
          by_cases hch : ch = 58
          · subst hch
            have HL : Hid (lineOf l = (some nm, ps)) := line_some hp
            clear hp hQ
            go_region
            all_goals (go_wp2_with fail; go_meet)
            all_goals exact ⟨_, rfl, by show _ = _; rw [HL.out]; rfl, (Below.refl _ _).drew⟩
          · have HL : Hid (lineOf l = (none, (nm ++ [ch]) :: ps)) := line_none hp (suf_no nm ch hch)
            have hch' : ((ch.toNat : Int) == 58) = false := beq_eq_false_iff_ne.2 (fun h => hch (UInt8.toNat_inj.1 (by rw [show (58 : UInt8).toNat = 58 from rfl]; omega)))
            clear hp hQ
            go_region
            all_goals (go_wp2_with fail; go_meet)
            all_goals exact ⟨_, rfl, by show _ = _; rw [HL.out]; rfl, (Below.refl _ _).drew⟩
        -- ⟪/slow⟫
      case rest =>
        obtain ⟨b45, rfl, HB45, hb3⟩ := hcut
        have hb3s := hb3.size
        have HR3 : Hid _ := HR2.out.on hb3
        have HPO3 : Hid _ := row_agree (o := none) HPO.out (.of_below hb3) (fun _ _ e => by cases e)
        have HAP : Hid _ := fun b (hb : wr.heap.size ≤ b) => HH.out.1.apart hb
        obtain ⟨vs, hvs, -⟩ := HH.out.1.words
        obtain ⟨A7, c7, rfl, -, -⟩ := row_cells hvs
        clear HR2 HPO hvs
        go_upto_if 45 with fail
        go_cut [6, 10] from 20 to 88 (fun s6 s10 wx => ∃ L', At2 w (.slice (some ⟨g, 0, none⟩) ls.length c) ls k L pw l L' s6 (.slice A7 pw.length c7) u8 s10 wx)
        case first =>
          have hLk : L.length ≤ k := HH.out.2.2.2.1
          have hpk : pw.length ≤ k := HH.out.2.2.2.2.1
          cases hp : partsOf l with
          | nil =>
            have HL : Hid (lineOf l = (none, [])) := line_empty hp
            obtain rfl : b45 = false := HB45.out.trans (by rw [HL.out]; rfl)
            have hpo := HPO3.out
            rw [hp] at hpo
            obtain ⟨A2, c2, rfl, -, -⟩ := row_cells hpo
            clear hpo hp
            go_wp2
            go_meet
            exact ⟨L, HR3.out, lab_none HL.out, by omega, fun x n h => Nat.le_succ_of_le (HH.out.2.2.2.2.2 x n h), .inl ⟨by rw [HL.out], _, _, rfl⟩⟩
          | cons p ps =>
            have hpo := HPO3.out
            rw [hp] at hpo
            obtain ⟨A2, c2, rfl, hc2, hcs⟩ := row_cells hpo
            obtain ⟨g2, rfl, hg2l, hg2', hc0⟩ := hcs 0 (.string (BA p)) rfl
            have HPA : Hid (∀ j x, (p :: ps)[j]? = some x → wc.cell? ⟨g2, j, none⟩ = some (.string (BA x))) := fun j x hx => by
              obtain ⟨g', e, _, _, h⟩ := hcs j (.string (BA x)) (by show (strsV (p :: ps))[j]? = _; rw [List.getElem?_map, hx]; rfl)
              injection e with e; injection e with e; subst e; exact h
            have hpne : p ≠ [] := partsOf_ne l p (by rw [hp]; exact List.mem_cons_self ..)
            have hplen : p.length ≤ 100000 := by have := fieldsFrom_len (saidOf l) [] p (by rw [show fieldsFrom [] (saidOf l) = partsOf l from rfl, hp]; exact List.mem_cons_self ..); have := said_len l; simp at *; omega
            have hpsl : ps.length ≤ 100000 := by have := fieldsFrom_count (saidOf l) []; rw [show fieldsFrom [] (saidOf l) = partsOf l from rfl, hp] at this; have := said_len l; simp at *; omega
            obtain ⟨nm, ch, rfl⟩ := last_split hpne
            clear hcs hpo
            simp only [List.length_cons] at hc2 ⊢
            by_cases hch : ch = 58
            · subst hch
              have HL : Hid (lineOf l = (some nm, ps)) := line_some hp
              obtain rfl : b45 = true := HB45.out.trans (by rw [HL.out]; rfl)
              obtain ⟨Q, hQ, hq1, hq2, hq3, hq4⟩ : ∃ Q, BA (nm ++ [58]) = Q ∧ 0 < Q.size ∧ Q.size ≤ 100000 ∧ Q.extract 0 (Q.size - 1) = BA nm ∧ (1 : Int) ≤ (Q.size : Int) :=
                ⟨_, rfl, by rw [BA_size]; simp, by rw [BA_size]; exact hplen, by rw [BA_extract, BA_size]; simp, by rw [BA_size]; simp; omega⟩
              rw [hQ] at hc0
              clear hp hQ
              have hfd := rfind_c w.heap.size u6 L nm wc.drew (HR3.out.on (Below.refl _ _).drew).labs (by omega)
              have HBAD : Hid _ := fun (hb : nm = [] ∨ (L.lookup nm).isSome = true) => HRD.out.trans (rrd_stop HLK.out HH.out.2.1 (lab_bad (st := (L, pw.length)) HL.out hb))
              by_cases hnm : nm = []
              · have he : (BA nm).toList.isEmpty = true := by rw [hnm, Lib.toList_data]; rfl
                have HR : Hid _ := HBAD.out (.inl hnm)
                clear hnm
                obtain ⟨bL, hbL⟩ : ∃ b, b = (L.lookup nm).isSome := ⟨_, rfl⟩
                rw [← hbL] at hfd
                clear hbL
                -- ⟪slow⟫
                go_upto_region 10 with fail
                go_region
                all_goals (go_wp2_with (first
                  | (go_at_call 18; refine hfd.mono ?_; rintro e w6 ⟨rfl, rfl⟩)
                  | go_in))
                all_goals go_ret3
                all_goals (show GotRR (rdOf s) w _ _; rw [HR.out]; exact ⟨_, rfl, World.ownsRow_nil _ _ _ _, HR3.out.below.drew⟩)
                -- ⟪/slow⟫
              · have he : (BA nm).toList.isEmpty = false := by
                  cases nm with
                  | nil => exact absurd rfl hnm
                  | cons a r => exact BA_isEmpty a r
                cases hlk : L.lookup nm with
                | some m =>
                  have HR : Hid _ := HBAD.out (.inr (by rw [hlk]; rfl))
                  rw [hlk] at hfd
                  simp only [Option.getD_some, Option.isSome_some] at hfd
                  -- ⟪slow⟫
                  go_upto_region 10 with fail
                  go_region
                  all_goals (go_wp2_with (first
                    | (go_at_call 18; refine hfd.mono ?_; rintro e w6 ⟨rfl, rfl⟩)
                    | go_in))
                  all_goals go_ret3
                  all_goals (show GotRR (rdOf s) w _ _; rw [HR.out]; exact ⟨_, rfl, World.ownsRow_nil _ _ _ _, HR3.out.below.drew⟩)
                  -- ⟪/slow⟫
                | none =>
                  rw [hlk] at hfd
                  simp only [Option.getD_none, Option.isSome_none] at hfd
                  obtain ⟨iL, hi, hz0, hz1, hz2⟩ := info_parts Tryz.infoLab
                  have HI : Hid (Tryz.prog.info? 69 = some iL) := hi
                  have HZ0 : Hid (iL.zero = some (.agg #[.string ⟨#[]⟩, .int .i64 0])) := hz0
                  have HZ1 : Hid (iL.size = 2) := hz1
                  have HZ2 : Hid (iL.bytes = 24) := hz2
                  clear hi hz0 hz1 hz2
                  have HLB : Hid (wc.drew.ownsRow w.heap.size 69 2 u6 L.length (labCells L)) := (HR3.out.on (Below.refl _ _).drew).labs
                  have hws : w.heap.size ≤ wc.heap.size := HR3.out.below.size
                  have HLAB : Hid _ := lab_some (st := (L, pw.length)) HL.out hnm hlk
                  have hc21 : c2 = 1 ∨ c2 ≠ 1 := by omega
                  clear hnm
                  -- ⟪slow⟫
                  go_upto_region 10 with fail
                  go_region
                  all_goals (go_wp2_with (first
                    | (go_at_call 18; refine hfd.mono ?_; rintro e w6 ⟨rfl, rfl⟩)
                    | (at_builtin; refine wpList_append_own_at _ rfl _ _ 63 rfl w.heap.size 69 iL (.agg #[.string ⟨#[]⟩, .int .i64 0]) 2 24 Tryz.underlying63 HI.out HZ0.out HZ1.out HZ2.out rfl (by decide) _ _ _ rfl (HLB.out.alloc _) ⟨wc.heap.size, 0, none⟩ 1 1 [.string (BA nm), .int .i64 (pw.length : Nat)] rfl rfl (cell_two_new _ _ _ _) (by simp [Value.oneCell']) (by unfold maxLen; omega) (by omega) (by simp; omega) ?_; intro v' w3 hown' hgrow hnil hloc; refine Hid.out ?_)
                    | go_in))
                  refine Lib.hid ?_
                  have B3 : Below w.heap.size w w3 := (HR3.out.below.drew.alloc hws _).grown hgrow (by simp; omega) (fun k h => (HLB.out.lt k h).1)
                  have AG : Agree u6.ownBlock wc w3 := (Agree.of_below ((Below.refl wc.heap.size wc).drew.alloc (Nat.le_refl _) _)).trans (Agree.of_grown hgrow)
                  have LR : LabRow w3 w.heap.size v' (L ++ [(nm, pw.length)]) := by unfold LabRow; rw [labCells_snoc, List.length_append]; exact hown'
                  have HR4 : Hid _ := HR3.out.app6 AG B3 LR hloc (by simp)
                  have HP4 : Hid (∀ j x, ps[j]? = some x → w3.cell? ⟨g2, 1 + j, none⟩ = some (.string (BA x))) := fun j x hx => (World.cell?_of_block (w := wc) (AG.2 g2 hg2' (HAP.out g2 hg2l).1)).trans (by have := HPA.out (j + 1) x (by simpa using hx); rw [Nat.add_comm 1]; exact this)
                  have hg3 : g2 < w3.heap.size := Nat.lt_of_lt_of_le hg2' AG.1
                  have HLC : Hid _ := hloc
                  have HA6 : Hid (v'.ownBlock ≠ some g2) := by
                    rcases hloc with e | e <;> (show _ ≠ _; rw [e])
                    · exact (HAP.out g2 hg2l).1
                    · intro e; injection e with e; simp at e; omega
                  have fin : ∀ s10, (ps = [] ∧ (∃ a c, s10 = .slice a 0 c)) ∨ (ps ≠ [] ∧ PAt w3 g2 s10 ps) → ∃ L', At2 w (.slice (some ⟨g, 0, none⟩) ls.length c) ls k L pw l L' v' (.slice A7 pw.length c7) u8 s10 w3 := fun s10 h =>
                    ⟨L ++ [(nm, pw.length)], HR4.out, HLAB.out, by simp; omega, fun x n hx => by
                        rcases List.mem_append.1 hx with hx | hx
                        · exact Nat.le_succ_of_le (HH.out.2.2.2.2.2 x n hx)
                        · simp at hx; omega,
                      by
                        rw [HL.out]
                        rcases h with h | ⟨h1, h2⟩
                        · exact .inl h
                        · exact .inr ⟨h1, g2, hg3, h2, HA6.out, (HAP.out g2 hg2l).2⟩⟩
                  have HFIN : Hid _ := fin
                  clear hgrow hown' hloc hnil LR AG fin
                  have i1 : (1 : Int) ≤ (ps.length : Int) + 1 := by omega
                  by_cases hc1 : c2 = 1
                  · subst hc1
                    obtain rfl : ps = [] := List.length_eq_zero_iff.1 (by omega)
                    go_wp2
                    go_meet
                    exact HFIN.out _ (.inl ⟨by first | exact rfl | exact trivial, _, _, rfl⟩)
                  · go_wp2
                    go_meet
                    refine HFIN.out _ ?_
                    by_cases hps : ps = []
                    · subst hps; exact .inl ⟨by first | exact rfl | exact trivial, _, _, rfl⟩
                    · exact .inr ⟨hps, 1, _, rfl, by omega, HP4.out⟩
                  -- ⟪/slow⟫
            · have HL : Hid (lineOf l = (none, (nm ++ [ch]) :: ps)) := line_none hp (suf_no nm ch hch)
              obtain rfl : b45 = false := HB45.out.trans (by rw [HL.out]; rfl)
              clear hp
              go_wp2
              go_meet
              exact ⟨L, HR3.out, lab_none HL.out, by omega, fun x n h => Nat.le_succ_of_le (HH.out.2.2.2.2.2 x n h), .inr ⟨by rw [HL.out]; simp, g2, hg2', by rw [HL.out]; exact ⟨0, c2, rfl, hc2, fun j x hx => by rw [Nat.zero_add]; exact HPA.out j x hx⟩, HAP.out g2 hg2l⟩⟩
        case rest =>
          obtain ⟨L', H2⟩ := hcut
          have HH2 : Hid _ := H2
          clear HR3 HPO3 HAP H2 HB45
          rcases HH2.out.2.2.2.2 with ⟨hq, a10, c10, rfl⟩ | ⟨hq, bk, hbk, ⟨o10, c10, rfl, hc10, hcs10⟩, p6, p7, p8⟩
          · have HQ : Hid _ := hq
            clear hq
            have NX : At1 w (.slice (some ⟨g, 0, none⟩) ls.length c) ls (k + 1) L' pw _ (.slice A7 pw.length c7) u8 _ := ⟨HH2.out.1, by
                rw [List.take_add_one, HLK.out, Option.toList_some, labsTo_snoc, HH.out.2.1]
                have := HH2.out.2.1
                rw [HQ.out] at this
                exact this, by
                rw [List.take_add_one, HLK.out, Option.toList_some, wl_snoc, HQ.out]; simp; exact HH.out.2.2.1, HH2.out.2.2.1, Nat.le_succ_of_le HH.out.2.2.2.2.1, HH2.out.2.2.2.1⟩
            have HNX : Hid _ := NX
            clear NX
            go_wp2
            go_roundw
            case rel => exact ⟨k + 1, L', pw, by omega, by go_num, HNX.out⟩
            case measure => simp [intOf] <;> omega
          · obtain ⟨q, hqd⟩ : ∃ q, q = (lineOf l).2 := ⟨_, rfl⟩
            rw [← hqd] at hq hc10 hcs10 ⊢
            have HQ : Hid _ := hqd
            have hq0 : 0 < q.length := List.length_pos_iff.2 hq
            have hqn : q.length ≤ 100000 := by rw [hqd]; exact Nat.le_trans (line_cnt l) hll
            have HPQ : Hid (PAt wc bk (.slice (some ⟨bk, o10, none⟩) q.length c10) q) := ⟨o10, c10, rfl, hc10, hcs10⟩
            have hpk : pw.length ≤ k := HH.out.2.2.2.2.1
            have hws : w.heap.size ≤ wc.heap.size := HH2.out.1.below.size
            obtain ⟨vs, hvs, hpt⟩ := HH2.out.1.words
            have HVS : Hid (wc.ownsRow w.heap.size 61 1 (.slice A7 pw.length c7) pw.length vs) := hvs
            have HPT : Hid _ := hpt
            clear hqd hq hcs10 hvs hpt
            obtain ⟨iS, hi, hz0, hz1, hz2⟩ := info_parts Tryz.infoStrs
            have HI : Hid (Tryz.prog.info? 61 = some iS) := hi
            have HZ0 : Hid (iS.zero = some (.slice none 0 0)) := hz0
            have HZ1 : Hid (iS.size = 1) := hz1
            have HZ2 : Hid (iS.bytes = 24) := hz2
            clear hi hz0 hz1 hz2
            obtain ⟨iN, hi, hz0, hz1, hz2⟩ := info_parts Tryz.infoInt
            have HI' : Hid (Tryz.prog.info? 3 = some iN) := hi
            have HZ0' : Hid (iN.zero = some (.int .i64 0)) := hz0
            have HZ1' : Hid (iN.size = 1) := hz1
            have HZ2' : Hid (iN.bytes = 8) := hz2
            clear hi hz0 hz1 hz2
            go_wp2_with (first
              | (at_builtin; refine wpList_append_own_at _ rfl _ _ 64 rfl w.heap.size 61 iS (.slice none 0 0) 1 24 Tryz.underlying64 HI.out HZ0.out HZ1.out HZ2.out rfl (by decide) _ _ _ rfl (HVS.out.alloc _) ⟨wc.heap.size, 0, none⟩ 1 1 [.slice (some ⟨bk, o10, none⟩) q.length c10] rfl rfl (cell_one_new _ _ _) (by simp [Value.oneCell']) (by unfold maxLen; omega) (by omega) (by simp; omega) ?_; intro v7 w4 hr4 hg4 hn4 hl4; refine Hid.out ?_)
              | go_in)
            refine Lib.hid ?_
            have AG4 : Agree (Value.slice A7 pw.length c7).ownBlock wc w4 := (Agree.of_below ((Below.refl wc.heap.size wc).alloc (Nat.le_refl _) _)).trans (Agree.of_grown hg4)
            have B4 : Below w.heap.size w w4 := (HH2.out.1.below.alloc hws _).grown hg4 (by simp; omega) (fun k h => (HVS.out.lt k h).1)
            have HAT : Hid (w4.ownsRow w.heap.size 3 1 u8 pw.length (pw.map fun x => Value.int .i64 x.2)) := row_agree HH2.out.1.ats AG4 HH2.out.1.a78
            have HR4 : Hid _ := hr4
            have HL4 : Hid _ := hl4
            have HAG4 : Hid _ := AG4
            have hw4 : w.heap.size ≤ w4.heap.size := B4.size
            have hwc4 : wc.heap.size ≤ (wc.alloc (.cells #[.slice (some ⟨bk, o10, none⟩) q.length c10] 61)).heap.size := by simp
            have HWC4 : Hid _ := hwc4
            clear hg4 hn4 hr4 hl4 AG4 hwc4
            go_wp2_with (first
              | (at_builtin; refine wpList_append_own_at _ rfl _ _ 65 rfl w.heap.size 3 iN (.int .i64 0) 1 8 Tryz.underlying65 HI'.out HZ0'.out HZ1'.out HZ2'.out rfl (by decide) _ _ _ rfl (HAT.out.alloc _) ⟨w4.heap.size, 0, none⟩ 1 1 [.int .i64 ((k + 1 : Nat) : Int)] rfl rfl (cell_one_new _ _ _) (by simp [Value.oneCell']) (by unfold maxLen; omega) (by omega) (by simp; omega) ?_; intro v8 w5 hr5 hg5 hn5 hl5; refine Hid.out ?_)
              | go_in)
            refine Lib.hid ?_
            have AG5 : Agree u8.ownBlock w4 w5 := (Agree.of_below ((Below.refl w4.heap.size w4).alloc (Nat.le_refl _) _)).trans (Agree.of_grown hg5)
            have B5 : Below w.heap.size w w5 := (B4.alloc hw4 _).grown hg5 (by simp; omega) (fun k h => (HAT.out.lt k h).1)
            have HNX : Hid _ := HH2.out.1.app78 HVS.out HPT.out HAG4.out HR4.out HL4.out HWC4.out AG5 hr5 hl5 (by simp) B5 HPQ.out hbk p6 p7 p8
            clear hg5 hn5 hr5 hl5 AG5
            go_wp2
            go_roundw
            case rel => exact ⟨k + 1, L', pw ++ [(q, k + 1)], by omega, by go_num, HNX.out, by
                rw [List.take_add_one, HLK.out, Option.toList_some, labsTo_snoc, HH.out.2.1]
                have := HH2.out.2.1
                rw [← HQ.out, if_neg (by omega)] at this
                rw [List.length_append]
                exact this, by
                rw [List.take_add_one, HLK.out, Option.toList_some, wl_snoc, ← HQ.out, if_neg (by omega), ← HH.out.2.2.1]
                rw [List.length_take, Nat.min_eq_left (by omega), Nat.zero_add], HH2.out.2.2.1, by rw [List.length_append]; simp; omega, HH2.out.2.2.2.1⟩
            case measure => simp [intOf] <;> omega
    · obtain rfl : k = ls.length := by omega
      obtain ⟨wS, rfl⟩ : ∃ wS, wS = wr := ⟨_, rfl⟩
      have hLk : L.length ≤ ls.length := HH.out.2.2.2.1
      have hpk : pw.length ≤ ls.length := HH.out.2.2.2.2.1
      have h1 := HH.out.2.1
      have h2 := HH.out.2.2.1
      rw [List.take_length] at h1 h2
      have HRW : Hid (rdOf s = rdW L [] pw) := by show _ = _; rw [HRD.out, rrd_all h1, ← h2]
      have HPM : Hid (∀ q n, (q, n) ∈ pw → q.length ≠ 0 ∧ q.length ≤ 100000 ∧ ∀ x ∈ q, x.length ≤ 100000) := fun q n h => by
        rw [h2] at h
        obtain ⟨l, hl, rfl, h0⟩ := wl_mem ls 0 q n h
        have := HLL.out l hl
        exact ⟨h0, Nat.le_trans (line_cnt l) this, fun x hx => Nat.le_trans (line_len hx) this⟩
      have HLV : Hid (∀ x n, (x, n) ∈ L → n ≤ 100000) := fun x n h => Nat.le_trans (HH.out.2.2.2.2.2 x n h) hln
      have HR : Hid (R1 w wS (.slice A ls.length c) u6 u7 u8 ls L pw) := HH.out.1
      obtain ⟨vs, hvs, hpt⟩ := HR.out.words
      have HVS : Hid (wS.ownsRow w.heap.size 61 1 u7 pw.length vs) := hvs
      have HPT : Hid _ := hpt
      obtain ⟨A7, c7, rfl, -, h7⟩ := row_cells hvs
      obtain ⟨A8, c8, rfl, -, h8⟩ := row_cells HR.out.ats
      have H7 : Hid _ := h7
      have H8 : Hid _ := h8
      have hwr : w.heap.size ≤ wS.heap.size := HR.out.below.size
      clear h1 h2 hvs hpt h7 h8 HH hlt HRD HLR HO
      obtain ⟨i0, hi, hz0, hz1, hz2⟩ := info_parts Tryz.infoU32
      have HI : Hid (Tryz.prog.info? 41 = some i0) := hi
      have HZ0 : Hid (i0.zero = some (.int .u32 0)) := hz0
      have HZ1 : Hid (i0.size = 1) := hz1
      have HZ2 : Hid (i0.bytes = 4) := hz2
      clear hi hz0 hz1 hz2
      have hpn : pw.length ≤ 100000 := by omega
      go_wp2
      go_loopw [14, 15] (fun s14 i wx => ∃ (j : Nat) (xs : List Int), j ≤ pw.length ∧ i = .int .i64 j ∧ Hid (xs.length = j) ∧ wx.ownsRow wS.heap.size 41 1 s14 j (xs.map (Value.int .u32)) ∧ Below wS.heap.size wS wx ∧ Hid (rdW L [] pw = rdW L xs (pw.drop j))) (fun _ i _ => pw.length - (intOf i).toNat)
      case atStart => exact ⟨0, [], by omega, rfl, rfl, World.ownsRow_nil _ _ _ _, Below.refl _ _, rfl⟩
      case round =>
        obtain ⟨j, xs, hj, rfl, HXL, hown, hbel, HD⟩ := hrel
        have hsz := hbel.size
        have HOW : Hid (wr.ownsRow wS.heap.size 41 1 u14 j (xs.map (Value.int .u32))) := hown
        by_cases hlt : j < pw.length
        · obtain ⟨⟨q, n⟩, hqn⟩ : ∃ x, pw[j]? = some x := ⟨_, List.getElem?_eq_getElem hlt⟩
          obtain ⟨hq0, hql, hqx⟩ := HPM.out q n (List.mem_of_getElem? hqn)
          obtain ⟨v, bk, hv, hbk, ⟨o, c10, rfl, hc10, hcs⟩, -, -, -⟩ := HPT.out j (q, n) hqn
          obtain ⟨g7, rfl, -, hg7, hc7⟩ := H7.out j _ hv
          obtain ⟨g8, rfl, -, hg8, hc8⟩ := H8.out j (.int .i64 n) (by simp [hqn])
          cases q with
          | nil => exact absurd rfl hq0
          | cons p ps =>
            have hwd := rword_c w.heap.size u6 L j p ps bk o c10 wr (R1.on HR.out hbel).labs (by omega) HLV.out (by omega) (fun i x hx => (hbel.cell (p := ⟨bk, o + i, none⟩) hbk).trans (hcs i x hx)) hqx (by simp at hql; omega)
            rw [rword_eq] at hwd
            have HDR : Hid (pw.drop j = (p :: ps, n) :: pw.drop (j + 1)) := by show _ = _; rw [List.drop_eq_getElem_cons hlt]; congr 1; exact Option.some.inj ((List.getElem?_eq_getElem hlt).symm.trans hqn)
            have HST : Hid (rdOf s = match wordOf L j (p :: ps) with | none => ([], n, 19) | some x => if 512 ≤ j then ([], n, 22) else rdW L (xs ++ [x]) (pw.drop (j + 1))) := by
              show _ = _
              rw [HRW.out, HD.out, HDR.out, rdW, HXL.out]
              cases wordOf L j (p :: ps) <;> rfl
            have c7' : wr.cell? ⟨g7, j, none⟩ = some (.slice (some ⟨bk, o, none⟩) (ps.length + 1) c10) := (hbel.cell (p := ⟨g7, j, none⟩) hg7).trans hc7
            have C8 : Hid (wr.cell? ⟨g8, j, none⟩ = some (.int .i64 n)) := (hbel.cell (p := ⟨g8, j, none⟩) hg8).trans hc8
            have hg8' : g8 < wr.heap.size := Nat.lt_of_lt_of_le hg8 hsz
            have HB : Hid (Below w.heap.size w wr) := HR.out.below.trans (hbel.mono hwr)
            obtain ⟨r, hr⟩ : ∃ r, r = wordOf L j (p :: ps) := ⟨_, rfl⟩
            rw [← hr] at hwd HST
            clear hqn hql hqx hv hcs hc7 hc8 hr hq0 hown
            cases r with
            | none =>
              go_upto_region 25 with (first
                | (go_at_call 19; refine hwd.mono ?_; clear hwd; rintro e w5 ⟨x, ok, rfl, hres, hb5⟩; obtain rfl : ok = false := (by cases ok with | false => rfl | true => simp at hres))
                | go_in)
              have c8 : w5.cell? ⟨g8, j, none⟩ = some (.int .i64 n) := (hb5.cell (p := ⟨g8, j, none⟩) hg8').trans C8.out
              clear hres
              go_region
              all_goals go_wp2
              all_goals go_ret3
              all_goals (show GotRR (rdOf s) w _ _; rw [HST.out]; exact ⟨_, rfl, World.ownsRow_nil _ _ _ _, (HB.out.trans (hb5.mono HB.out.size)).drew⟩)
            | some x =>
              by_cases h512 : (512 : Int) ≤ j
              · replace HST : Hid (rdOf s = ([], n, 22)) := by show _ = _; rw [HST.out]; exact if_pos (by omega)
                obtain ⟨A14, c14, rfl, -, -⟩ := row_cells HOW.out
                go_upto_region 27 with (first
                  | (go_at_call 19; refine hwd.mono ?_; clear hwd; rintro e w5 ⟨x', ok, rfl, hres, hb5⟩; obtain rfl : ok = true := (by cases ok with | true => rfl | false => simp at hres))
                  | go_in)
                have c8 : w5.cell? ⟨g8, j, none⟩ = some (.int .i64 n) := (hb5.cell (p := ⟨g8, j, none⟩) hg8').trans C8.out
                clear hres
                go_region
                all_goals go_wp2
                all_goals go_ret3
                all_goals (show GotRR (rdOf s) w _ _; rw [HST.out]; exact ⟨_, rfl, World.ownsRow_nil _ _ _ _, (HB.out.trans (hb5.mono HB.out.size)).drew⟩)
              · replace HST : Hid (rdW L [] pw = rdW L (xs ++ [x]) (pw.drop (j + 1))) := by show _ = _; rw [← HRW.out, HST.out]; exact if_neg (by omega)
                obtain ⟨A14, c14, rfl, -, -⟩ := row_cells HOW.out
                have h512' : decide ((512 : Int) ≤ j) = false := decide_eq_false h512
                go_wp2_with (first
                  | (go_at_call 19; refine hwd.mono ?_; clear hwd; rintro e w5 ⟨x', ok, rfl, hres, hb5⟩; obtain rfl : ok = true := (by cases ok with | true => rfl | false => simp at hres); obtain rfl : x = x' := (by simpa using hres); have HO5 : Hid (w5.ownsRow wS.heap.size 41 1 (.slice A14 j c14) j (xs.map (Value.int .u32))) := (row_agree (o := none) HOW.out (.of_below hb5) (fun _ _ e => by cases e)); have hw5 := hb5.size)
                  | (at_builtin; refine wpList_append_own_at _ rfl _ _ 23 rfl wS.heap.size 41 i0 (.int .u32 0) 1 4 Tryz.underlying23 HI.out HZ0.out HZ1.out HZ2.out rfl (by decide) _ _ _ rfl (HO5.out.alloc _) ⟨w5.heap.size, 0, none⟩ 1 1 [.int .u32 x] rfl rfl (cell_one_new _ _ _) (by simp [Value.oneCell']) (by unfold maxLen; omega) (by omega) (by simp; omega) ?_; intro v' w6 hown' hgrow hnil hloc; refine Hid.out ?_)
                  | go_in)
                refine Lib.hid ?_
                have B6 : Below wS.heap.size wS w6 := ((hbel.trans (hb5.mono hsz)).alloc (by omega) _).grown hgrow (by simp; omega) (fun k h => (HO5.out.lt k h).1)
                have HN : Hid (w6.ownsRow wS.heap.size 41 1 v' (j + 1) ((xs ++ [x]).map (Value.int .u32))) := by show World.ownsRow _ _ _ _ _ _ _; rw [List.map_append]; exact hown'
                clear hgrow hown' hloc hnil
                go_wp2
                go_roundw
                case rel => exact ⟨j + 1, xs ++ [x], by omega, by go_num, by show _ = _; rw [List.length_append, HXL.out]; rfl, HN.out, B6, HST⟩
                case measure => simp [intOf] <;> omega
        · obtain rfl : j = pw.length := by omega
          have HST : Hid (rdOf s = (xs, 0, 0)) := by show _ = _; rw [HRW.out, HD.out, List.drop_eq_nil_of_le (Nat.le_refl _)]; rfl
          go_wp2
          go_ret3
          show GotRR (rdOf s) w _ _
          rw [HST.out]
          refine ⟨_, rfl, ?_, HR.out.below.trans (hbel.mono hwr)⟩
          have h := HOW.out
          rw [← HXL.out] at h
          obtain ⟨q1, q2 | ⟨g, cap, cur, q2, q3, q4⟩⟩ := h
          · exact ⟨q1, .inl q2⟩
          · exact ⟨q1, .inr ⟨g, cap, cur, by first | exact q2 | (rw [← HXL.out]; exact q2) | (rw [HXL.out]; exact q2), Nat.le_trans hwr q3, q4⟩⟩
end Go.Proofs.YteacdjakdkdbnaaGreatDoor
