/-
  The document's own word of a line's parts.
-/
import Derived.Test.YteacdjakdkdbnaaGreatDoorAsmRef3
import Derived.Test.YteacdjakdkdbnaaGreatDoorAsmLine
import Derived.Test.YteacdjakdkdbnaaGreatDoorIsaRefs
namespace Go.Proofs.YteacdjakdkdbnaaGreatDoor
open Go.RowKit
set_option linter.unusedVariables false
set_option linter.unusedSimpArgs false
set_option maxRecDepth 20000

/-- An instruction's box, in the midst of a word. -/
structure BoxAt (w W : World) (ib : Nat) (x0 x1 x2 x3 : Int) : Prop where
  below : Below w.heap.size w W
  i0 : W.cell? ⟨ib, 0, none⟩ = some (.int .i64 x0)
  i1 : W.cell? ⟨ib, 1, none⟩ = some (.int .i64 x1)
  i2 : W.cell? ⟨ib, 2, none⟩ = some (.int .i64 x2)
  i3 : W.cell? ⟨ib, 3, none⟩ = some (.int .i64 x3)
  iz : ∀ j, W.frozen? ⟨ib, j, none⟩ = false
  il : w.heap.size ≤ ib
section
variable {w W : World} {ib : Nat} {x0 x1 x2 x3 : Int}
theorem BoxAt.ibl (h : BoxAt w W ib x0 x1 x2 x3) : ib < W.heap.size := lt_of_cell h.i0
theorem BoxAt.on {W' : World} (h : BoxAt w W ib x0 x1 x2 x3) (k : Below W.heap.size W W') : BoxAt w W' ib x0 x1 x2 x3 :=
  have li := h.ibl
  ⟨h.below.trans (k.mono h.below.size), (k.cell (p := ⟨ib, 0, none⟩) li).trans h.i0, (k.cell (p := ⟨ib, 1, none⟩) li).trans h.i1, (k.cell (p := ⟨ib, 2, none⟩) li).trans h.i2, (k.cell (p := ⟨ib, 3, none⟩) li).trans h.i3, fun j => (k.frozen (p := ⟨ib, j, none⟩) li).trans (h.iz j), h.il⟩
theorem BoxAt.set1 (h : BoxAt w W ib x0 x1 x2 x3) (v : Int) : BoxAt w (W.setCell ⟨ib, 1, none⟩ (.int .i64 v)) ib x0 v x2 x3 :=
  ⟨h.below.setCell (p := ⟨ib, 1, none⟩) h.il _, (World.cell?_setCell_other _ _ _ _ (addr_ne (by decide))).trans h.i0, World.cell?_setCell_same _ _ _ h.i1, (World.cell?_setCell_other _ _ _ _ (addr_ne (by decide))).trans h.i2, (World.cell?_setCell_other _ _ _ _ (addr_ne (by decide))).trans h.i3, fun j => (frozen_setCell _ _ _ _).trans (h.iz j), h.il⟩
theorem BoxAt.set2 (h : BoxAt w W ib x0 x1 x2 x3) (v : Int) : BoxAt w (W.setCell ⟨ib, 2, none⟩ (.int .i64 v)) ib x0 x1 v x3 :=
  ⟨h.below.setCell (p := ⟨ib, 2, none⟩) h.il _, (World.cell?_setCell_other _ _ _ _ (addr_ne (by decide))).trans h.i0, (World.cell?_setCell_other _ _ _ _ (addr_ne (by decide))).trans h.i1, World.cell?_setCell_same _ _ _ h.i2, (World.cell?_setCell_other _ _ _ _ (addr_ne (by decide))).trans h.i3, fun j => (frozen_setCell _ _ _ _).trans (h.iz j), h.il⟩
theorem BoxAt.set3 (h : BoxAt w W ib x0 x1 x2 x3) (v : Int) : BoxAt w (W.setCell ⟨ib, 3, none⟩ (.int .i64 v)) ib x0 x1 x2 v :=
  ⟨h.below.setCell (p := ⟨ib, 3, none⟩) h.il _, (World.cell?_setCell_other _ _ _ _ (addr_ne (by decide))).trans h.i0, (World.cell?_setCell_other _ _ _ _ (addr_ne (by decide))).trans h.i1, (World.cell?_setCell_other _ _ _ _ (addr_ne (by decide))).trans h.i2, World.cell?_setCell_same _ _ _ h.i3, fun j => (frozen_setCell _ _ _ _).trans (h.iz j), h.il⟩
end
theorem box_new (w W : World) (t : TypeId) (x0 x1 x2 x3 : Int) (hb : Below w.heap.size w W) : BoxAt w (W.alloc (.cells #[.int .i64 x0, .int .i64 x1, .int .i64 x2, .int .i64 x3] t)) W.heap.size x0 x1 x2 x3 := by
  obtain ⟨c0, c1, c2, c3, cz⟩ := cells4 (heap_alloc_new W (.cells #[.int .i64 x0, .int .i64 x1, .int .i64 x2, .int .i64 x3] t))
  exact ⟨hb.alloc hb.size _, c0, c1, c2, c3, cz, hb.size⟩

/-- A word, or none. -/
def GotV (r : Option Int) (w : World) (e : Ending) (w' : World) : Prop :=
  ∃ v ok, e = .returned (.tuple #[.int .u32 v, .bool ok]) ∧ r = (if ok then some v else none) ∧ Below w.heap.size w w'
def rimm (L : Labs) (here op : Nat) (p : Bs) : Option Int :=
  match numOf p with
  | some n => some n
  | none => if (18 ≤ op ∧ op ≤ 22) ∧ plainB p = false then (L.lookup p).map (fun a => (a : Int) - here) else none
def rtR (has : Bool) (ps : List Bs) : Option (Int × List Bs) :=
  if has then (match ps with | [] => none | p :: r => if regR p < 0 then none else some (regR p, r)) else some (0, ps)
def rtI (has : Bool) (L : Labs) (here op : Nat) (ps : List Bs) : Option (Int × List Bs) :=
  if has then (match ps with | [] => none | p :: r => (rimm L here op p).map (fun n => (n, r))) else some (0, ps)
def rfin (op : Nat) (a b i : Int) (ps : List Bs) : Option Int := if ps.length = 0 ∧ vldB op a b i = true then some (encR op a b i) else none
def rrest2 (L : Labs) (here op : Nat) (a b : Int) (ps : List Bs) : Option Int := match rtI (fiB op) L here op ps with | none => none | some (i, r) => rfin op a b i r
def rrest1 (L : Labs) (here op : Nat) (a : Int) (ps : List Bs) : Option Int := match rtR (fbB op) ps with | none => none | some (b, r) => rrest2 L here op a b r
def rrest0 (L : Labs) (here op : Nat) (ps : List Bs) : Option Int := match rtR (faB op) ps with | none => none | some (a, r) => rrest1 L here op a r
def rwordOf (L : Labs) (here : Nat) (p : Bs) (ps : List Bs) : Option Int :=
  if p = [119, 111, 114, 100] then
    (match ps with
     | [q] => (match numOf q with | none => none | some n => if 0 ≤ n ∧ n < 4294967296 then some n else none)
     | _ => none)
  else if knB (opNum p) then rrest0 L here (opNum p) ps else none
theorem LabRow.on {w W : World} {B : Nat} {v : Value} {L : Labs} (h : LabRow w B v L) (k : Below w.heap.size w W) : LabRow W B v L := by
  obtain ⟨hl, h | ⟨g, cap, cur, rfl, hg, hh, hnc, hcm, hsz, htk⟩⟩ := h
  · exact ⟨hl, .inl h⟩
  · exact ⟨hl, .inr ⟨g, cap, cur, rfl, hg, (k.block g (Array.getElem?_eq_some_iff.1 hh).1).trans hh, hnc, hcm, hsz, htk⟩⟩
theorem lookup_mem {L : Labs} {x : Bs} {n : Nat} (h : L.lookup x = some n) : (x, n) ∈ L := by
  induction L with
  | nil => simp at h
  | cons y r ih =>
    obtain ⟨y, m⟩ := y
    rw [List.lookup_cons] at h
    by_cases e : x = y
    · subst e; simp at h; subst h; exact List.mem_cons_self ..
    · rw [show (x == y) = false from beq_eq_false_iff_ne.2 e] at h; exact List.mem_cons_of_mem _ (ih h)
theorem drop_cons {P : List Bs} {k : Nat} (h : k < P.length) : ∃ x, P[k]? = some x ∧ P.drop k = x :: P.drop (k + 1) := ⟨P[k], List.getElem?_eq_getElem h, List.drop_eq_getElem_cons h⟩

set_option maxHeartbeats 4000000 in
theorem rword_c (B : Nat) (lv : Value) (L : Labs) (here : Nat) (p : Bs) (ps : List Bs) (bk o c : Nat) (w : World) (hL : LabRow w B lv L) (hLn : L.length ≤ 100000) (hLv : ∀ x n, (x, n) ∈ L → n ≤ 100000) (hh : here ≤ 100000)
    (hcs : ∀ j x, (p :: ps)[j]? = some x → w.cell? ⟨bk, o + j, none⟩ = some (.string (BA x))) (hln : ∀ x ∈ p :: ps, x.length ≤ 100000) (hn : ps.length ≤ 100000) :
    Calls Tryz.prog 19 #[.slice (some ⟨bk, o, none⟩) (ps.length + 1) c, .int .i64 here, lv] w (GotV (rwordOf L here p ps) w) := by
  have hp0 : w.cell? ⟨bk, o, none⟩ = some (.string (BA p)) := hcs 0 p rfl
  have hbk : bk < w.heap.size := lt_of_cell hp0
  by_cases hw : p = [119, 111, 114, 100]
  · subst hw
    have hlit := str_lit [119, 111, 114, 100] [119, 111, 114, 100]
    rw [show (([119, 111, 114, 100] : Bs) == [119, 111, 114, 100]) = true from by decide] at hlit
    by_cases h1 : ps.length = 1
    · obtain ⟨q, rfl⟩ : ∃ q, ps = [q] := List.length_eq_one_iff.1 h1
      have hq : w.cell? ⟨bk, o + 1, none⟩ = some (.string (BA q)) := hcs 1 q rfl
      have hnum := number_c q (by have := hln q (by simp); omega)
      have HR : Hid (rwordOf L here [119, 111, 114, 100] [q] = match numOf q with | none => none | some n => if 0 ≤ n ∧ n < 4294967296 then some n else none) := by show rwordOf _ _ _ _ = _; unfold rwordOf; rw [if_pos rfl]
      obtain ⟨P, hP⟩ : ∃ P, P = BA [119, 111, 114, 100] := ⟨_, rfl⟩
      rw [← hP] at hp0 hlit
      have HRD : Hid _ := HR.out
      clear HR hP hcs hln
      simp only [List.length_cons, List.length_nil]
      cases hno : numOf q with
      | none =>
        rw [hno] at hnum
        simp only [Option.getD_none, Option.isSome_none] at hnum
        have HR : Hid (rwordOf L here [119, 111, 114, 100] [q] = none) := by show rwordOf _ _ _ _ = _; rw [HRD.out, hno]
        go_enter Tryz.func19, Tryz.ntmps19
        go_wp2_with (go_at_call 32; refine (hnum _).mono ?_; rintro e w' ⟨rfl, rfl⟩)
        go_ret2
        exact ⟨_, _, rfl, HR.out, Below.refl _ _⟩
      | some n =>
        rw [hno] at hnum
        simp only [Option.getD_some, Option.isSome_some] at hnum
        by_cases hlo : (0 : Int) ≤ n
        · by_cases hhi : n < 4294967296
          · have HR : Hid (rwordOf L here [119, 111, 114, 100] [q] = some n) := by show rwordOf _ _ _ _ = _; rw [HRD.out, hno]; exact if_pos ⟨hlo, hhi⟩
            have hwr : IntKind.u32.wrap n = n := by rw [show IntKind.u32.wrap n = n % 4294967296 from rfl]; omega
            go_enter Tryz.func19, Tryz.ntmps19
            go_wp2_with (go_at_call 32; refine (hnum _).mono ?_; rintro e w' ⟨rfl, rfl⟩)
            go_ret2
            exact ⟨_, _, rfl, HR.out, Below.refl _ _⟩
          · have HR : Hid (rwordOf L here [119, 111, 114, 100] [q] = none) := by show rwordOf _ _ _ _ = _; rw [HRD.out, hno]; exact if_neg (by omega)
            have hhi' : decide (n < 4294967296) = false := decide_eq_false hhi
            go_enter Tryz.func19, Tryz.ntmps19
            go_wp2_with (go_at_call 32; refine (hnum _).mono ?_; rintro e w' ⟨rfl, rfl⟩)
            go_ret2
            exact ⟨_, _, rfl, by first | exact HR.out | (rw [HR.out]; simp; omega), Below.refl _ _⟩
        · have HR : Hid (rwordOf L here [119, 111, 114, 100] [q] = none) := by show rwordOf _ _ _ _ = _; rw [HRD.out, hno]; exact if_neg (by omega)
          go_enter Tryz.func19, Tryz.ntmps19
          go_wp2_with (go_at_call 32; refine (hnum _).mono ?_; rintro e w' ⟨rfl, rfl⟩)
          go_ret2
          exact ⟨_, _, rfl, HR.out, Below.refl _ _⟩
    · have h1' : (((ps.length : Int) + 1) != 2) = true := by simp; omega
      have HR : Hid (rwordOf L here [119, 111, 114, 100] ps = none) := by
        show rwordOf _ _ _ _ = _
        unfold rwordOf; rw [if_pos rfl]
        match ps, h1 with
        | [], _ => rfl
        | [q], h => exact absurd rfl h
        | q :: r :: t, _ => rfl
      obtain ⟨P, hP⟩ : ∃ P, P = BA [119, 111, 114, 100] := ⟨_, rfl⟩
      rw [← hP] at hp0 hlit
      clear hP hcs hln
      go_enter Tryz.func19, Tryz.ntmps19
      go_wp2
      go_ret2
      exact ⟨_, _, rfl, HR.out, Below.refl _ _⟩
  · have hlit : ((BA p).toList == [119, 111, 114, 100]) = false := by rw [str_lit]; exact beq_eq_false_iff_ne.2 hw
    obtain ⟨op, hop⟩ : ∃ op, op = opNum p := ⟨_, rfl⟩
    have HR : Hid (rwordOf L here p ps = if knB op then rrest0 L here op ps else none) := by show rwordOf _ _ _ _ = _; unfold rwordOf; rw [if_neg hw, hop]
    have hopc := rop_c p w
    rw [← hop] at hopc
    have hop24 : op ≤ 24 := by rw [hop]; unfold opNum; simp only; split <;> omega
    clear hop
    have HCS : Hid _ := hcs
    have HLN : Hid _ := hln
    have HLV : Hid _ := hLv
    have HLR : Hid _ := hL
    clear hcs hln hLv hL
    cases hkn : knB op with
    | false =>
      have hfc := rfields_c op
      rw [hkn] at hfc
      replace HR : Hid (rwordOf L here p ps = none) := by show _ = _; rw [HR.out, hkn]; rfl
      go_enter Tryz.func19, Tryz.ntmps19
      go_wp2_with (first
        | (go_at_call 33; refine hopc.mono ?_; rintro e w1 ⟨rfl, hb1⟩)
        | (go_at_call 27; refine (hfc _).mono ?_; rintro e w2 ⟨rfl, rfl⟩)
        | go_in)
      go_ret2
      exact ⟨_, _, rfl, HR.out, hb1⟩
    | true =>
      have hfc := rfields_c op
      rw [hkn] at hfc
      replace HR : Hid (rwordOf L here p ps = rrest0 L here op ps) := by show _ = _; rw [HR.out, hkn]; rfl
      go_enter Tryz.func19, Tryz.ntmps19
      go_upto_if 61 with (first
        | (go_at_call 33; refine hopc.mono ?_; clear hopc; rintro e w1 ⟨rfl, hb1⟩)
        | (go_at_call 27; refine (hfc _).mono ?_; clear hfc; rintro e w2 ⟨rfl, rfl⟩)
        | go_in)
      have I0 := box_new w w1 86 op 0 0 0 hb1
      obtain ⟨ib, hib⟩ : ∃ ib, ib = w1.heap.size := ⟨_, rfl⟩
      obtain ⟨W0, hW0⟩ : ∃ W0, W0 = w1.alloc (.cells #[.int .i64 op, .int .i64 0, .int .i64 0, .int .i64 0] 86) := ⟨_, rfl⟩
      rw [← hW0, ← hib] at I0
      rw [← hW0, ← hib]
      have HI0 : Hid _ := I0
      clear hW0 hib I0 hb1 hp0
      go_cut [11, 16] (fun s11 s16 wx => ∃ (k : Nat) (a : Int), s16 = .int .i64 k ∧ 1 ≤ k ∧ k ≤ ps.length + 1 ∧ BoxAt w wx ib op a 0 0 ∧ Hid (rtR (faB op) ps = some (a, (p :: ps).drop k)))
      case first =>
        have hq : ∀ x, (p :: ps)[1]? = some x → W0.cell? ⟨bk, o + 1, none⟩ = some (.string (BA x)) := fun x hx => (HI0.out.below.cell (p := ⟨bk, o + 1, none⟩) hbk).trans (HCS.out 1 x hx)
        have HQ : Hid _ := hq
        clear hq
        cases hfa : faB op with
        | false =>
          go_wp2
          go_meet
          exact ⟨1, 0, rfl, by omega, by omega, HI0.out, by show _ = _; unfold rtR; rw [hfa]; rfl⟩
        | true =>
          have HF : Hid _ := hfa
          clear hfa
          cases ps with
          | nil =>
            replace HR : Hid (rwordOf L here p [] = none) := by show _ = _; rw [HR.out]; unfold rrest0 rtR; rw [HF.out]; rfl
            go_wp2
            go_ret2
            exact ⟨_, _, rfl, HR.out, HI0.out.below⟩
          | cons q r =>
            have hq := HQ.out q rfl
            have hrc := rreg_c q (by have := HLN.out q (by simp); omega)
            have i1 := HI0.out.i1
            have iz := HI0.out.iz
            have hle : ¬ ((r.length : Int) + 1 + 1 ≤ 1) := by omega
            simp only [List.length_cons] at *
            by_cases hneg : regR q < 0
            · replace HR : Hid (rwordOf L here p (q :: r) = none) := by show _ = _; rw [HR.out]; unfold rrest0 rtR; rw [HF.out]; simp [hneg]
              go_wp2_with (first
                | (go_at_call 34; refine (hrc _).mono ?_; rintro e w4 ⟨rfl, rfl⟩)
                | go_in)
              go_ret2
              exact ⟨_, _, rfl, HR.out, HI0.out.below⟩
            · go_wp2_with (first
                | (go_at_call 34; refine (hrc _).mono ?_; rintro e w4 ⟨rfl, rfl⟩)
                | go_in)
              go_meet
              exact ⟨2, regR q, by go_num, by omega, by omega, HI0.out.set1 _, by show _ = _; unfold rtR; rw [HF.out]; simp [hneg]⟩
      case rest =>
        obtain ⟨k, a, rfl, hk1, hk2, I1, HT⟩ := hcut
        have HI1 : Hid _ := I1
        clear I1 HI0
        replace HR : Hid (rwordOf L here p ps = rrest1 L here op a ((p :: ps).drop k)) := by show _ = _; rw [HR.out]; unfold rrest0; rw [HT.out]
        clear HT
        go_upto_if 82 with fail
        go_cut [12, 16] (fun s12 s16 wx => ∃ (k2 : Nat) (b1 : Int), s16 = .int .i64 k2 ∧ 1 ≤ k2 ∧ k2 ≤ ps.length + 1 ∧ BoxAt w wx ib op a b1 0 ∧ Hid (rtR (fbB op) ((p :: ps).drop k) = some (b1, (p :: ps).drop k2)))
        case first =>
          cases hfb : fbB op with
          | false =>
            go_wp2
            go_meet
            exact ⟨k, 0, rfl, hk1, hk2, HI1.out, by show _ = _; unfold rtR; rw [hfb]; rfl⟩
          | true =>
            have HF : Hid _ := hfb
            clear hfb
            by_cases hkl : k < ps.length + 1
            · obtain ⟨x, hx, hdx⟩ := drop_cons (P := p :: ps) (k := k) (by simpa using hkl)
              have hq : wc.cell? ⟨bk, o + k, none⟩ = some (.string (BA x)) := (HI1.out.below.cell (p := ⟨bk, o + k, none⟩) hbk).trans (HCS.out k x hx)
              have hrc := rreg_c x (by have := HLN.out x (List.mem_of_getElem? hx); omega)
              have HDX : Hid _ := hdx
              clear hx hdx
              have i2 := HI1.out.i2
              have iz := HI1.out.iz
              by_cases hneg : regR x < 0
              · replace HR : Hid (rwordOf L here p ps = none) := by show _ = _; rw [HR.out]; unfold rrest1 rtR; rw [HF.out, HDX.out]; simp [hneg]
                go_wp2_with (first
                  | (go_at_call 34; refine (hrc _).mono ?_; rintro e w4 ⟨rfl, rfl⟩)
                  | go_in)
                go_ret2
                exact ⟨_, _, rfl, HR.out, HI1.out.below⟩
              · go_wp2_with (first
                  | (go_at_call 34; refine (hrc _).mono ?_; rintro e w4 ⟨rfl, rfl⟩)
                  | go_in)
                go_meet
                exact ⟨k + 1, regR x, by go_num, by omega, by omega, HI1.out.set2 _, by show _ = _; unfold rtR; rw [HF.out, HDX.out]; simp [hneg]⟩
            · obtain rfl : k = ps.length + 1 := by omega
              replace HR : Hid (rwordOf L here p ps = none) := by show _ = _; rw [HR.out, List.drop_eq_nil_of_le (by simp)]; unfold rrest1 rtR; rw [HF.out]; rfl
              go_wp2
              go_ret2
              exact ⟨_, _, rfl, HR.out, HI1.out.below⟩
        case rest =>
          obtain ⟨k2, b1, rfl, hk3, hk4, I2, HT⟩ := hcut
          have HI2 : Hid _ := I2
          replace HR : Hid (rwordOf L here p ps = rrest2 L here op a b1 ((p :: ps).drop k2)) := by show _ = _; rw [HR.out]; unfold rrest1; rw [HT.out]
          clear HT I2 HI1 hk1 hk2
          go_upto_if 103 with fail
          go_cut [13, 16] (fun s13 s16 wx => ∃ (k3 : Nat) (i1 : Int), s16 = .int .i64 k3 ∧ 1 ≤ k3 ∧ k3 ≤ ps.length + 1 ∧ BoxAt w wx ib op a b1 i1 ∧ Hid (rtI (fiB op) L here op ((p :: ps).drop k2) = some (i1, (p :: ps).drop k3)))
          case first =>
            cases hfi : fiB op with
            | false =>
              go_wp2
              go_meet
              exact ⟨k2, 0, rfl, hk3, hk4, HI2.out, by show _ = _; unfold rtI; rw [hfi]; rfl⟩
            | true =>
              have HF : Hid _ := hfi
              clear hfi
              by_cases hkl : k2 < ps.length + 1
              · obtain ⟨x, hx, hdx⟩ := drop_cons (P := p :: ps) (k := k2) (by simpa using hkl)
                have hq : wc.cell? ⟨bk, o + k2, none⟩ = some (.string (BA x)) := (HI2.out.below.cell (p := ⟨bk, o + k2, none⟩) hbk).trans (HCS.out k2 x hx)
                have hxl : x.length ≤ 100000 := HLN.out x (List.mem_of_getElem? hx)
                have hnum := number_c x (by omega)
                have hpl := plain_c x (by omega)
                have hfd := fun W (hb : Below w.heap.size w W) => rfind_c B lv L x W (LabRow.on HLR.out hb) hLn
                have HFD : Hid _ := hfd
                have HDX : Hid _ := hdx
                clear hx hdx hxl hfd
                have i3 := HI2.out.i3
                have iz := HI2.out.iz
                have bad : rimm L here op x = none → Hid (rwordOf L here p ps = none) := fun h => by show _ = _; rw [HR.out]; unfold rrest2 rtI; rw [HF.out, HDX.out]; simp [h]
                have HBAD : Hid _ := bad
                have good : ∀ n, rimm L here op x = some n → rtI (fiB op) L here op ((p :: ps).drop k2) = some (n, (p :: ps).drop (k2 + 1)) := fun n h => by unfold rtI; rw [HF.out, HDX.out]; simp [h]
                have HGOOD : Hid _ := good
                clear bad good
                cases hno : numOf x with
                | some n =>
                  rw [hno] at hnum
                  simp only [Option.getD_some, Option.isSome_some] at hnum
                  have HG : Hid _ := HGOOD.out n (by unfold rimm; rw [hno])
                  go_wp2_with (first
                    | (go_at_call 32; refine (hnum _).mono ?_; rintro e w4 ⟨rfl, rfl⟩)
                    | go_in)
                  go_meet
                  exact ⟨k2 + 1, n, by go_num, by omega, by omega, HI2.out.set3 _, HG⟩
                | none =>
                  rw [hno] at hnum
                  simp only [Option.getD_none, Option.isSome_none] at hnum
                  by_cases hj1 : (18 : Int) ≤ op
                  · by_cases hj2 : (op : Int) ≤ 22
                    · cases hpb : plainB x with
                      | true =>
                        rw [hpb] at hpl
                        replace HR := HBAD.out (by unfold rimm; rw [hno, hpb]; simp)
                        go_wp2_with (first
                          | (go_at_call 32; refine (hnum _).mono ?_; rintro e w4 ⟨rfl, rfl⟩)
                          | (go_at_call 35; refine (hpl _).mono ?_; rintro e w5 ⟨rfl, rfl⟩)
                          | go_in)
                        go_ret2
                        exact ⟨_, _, rfl, HR.out, HI2.out.below⟩
                      | false =>
                        rw [hpb] at hpl
                        have hfd := HFD.out wc HI2.out.below
                        cases hlk : L.lookup x with
                        | none =>
                          rw [hlk] at hfd
                          simp only [Option.getD_none, Option.isSome_none] at hfd
                          replace HR := HBAD.out (by unfold rimm; rw [hno, hpb, hlk]; simp)
                          go_wp2_with (first
                            | (go_at_call 32; refine (hnum _).mono ?_; rintro e w4 ⟨rfl, rfl⟩)
                            | (go_at_call 35; refine (hpl _).mono ?_; rintro e w5 ⟨rfl, rfl⟩)
                            | (go_at_call 18; refine hfd.mono ?_; rintro e w6 ⟨rfl, rfl⟩)
                            | go_in)
                          go_ret2
                          exact ⟨_, _, rfl, HR.out, HI2.out.below⟩
                        | some m =>
                          rw [hlk] at hfd
                          simp only [Option.getD_some, Option.isSome_some] at hfd
                          have hm := HLV.out x m (lookup_mem hlk)
                          have HG : Hid _ := HGOOD.out ((m : Int) - here) (by unfold rimm; rw [hno, hpb, hlk, if_pos ⟨⟨by omega, by omega⟩, rfl⟩]; rfl)
                          go_wp2_with (first
                            | (go_at_call 32; refine (hnum _).mono ?_; rintro e w4 ⟨rfl, rfl⟩)
                            | (go_at_call 35; refine (hpl _).mono ?_; rintro e w5 ⟨rfl, rfl⟩)
                            | (go_at_call 18; refine hfd.mono ?_; rintro e w6 ⟨rfl, rfl⟩)
                            | go_in)
                          go_meet
                          exact ⟨k2 + 1, (m : Int) - here, by go_num, by omega, by omega, HI2.out.set3 _, HG⟩
                    · replace HR := HBAD.out (by unfold rimm; rw [hno]; exact if_neg (by omega))
                      have hj2' : decide ((op : Int) ≤ 22) = false := decide_eq_false hj2
                      go_wp2_with (first
                        | (go_at_call 32; refine (hnum _).mono ?_; rintro e w4 ⟨rfl, rfl⟩)
                        | go_in)
                      go_ret2
                      exact ⟨_, _, rfl, HR.out, HI2.out.below⟩
                  · replace HR := HBAD.out (by unfold rimm; rw [hno]; exact if_neg (by omega))
                    have hj1' : decide ((18 : Int) ≤ op) = false := decide_eq_false hj1
                    go_wp2_with (first
                      | (go_at_call 32; refine (hnum _).mono ?_; rintro e w4 ⟨rfl, rfl⟩)
                      | go_in)
                    go_ret2
                    exact ⟨_, _, rfl, HR.out, HI2.out.below⟩
              · obtain rfl : k2 = ps.length + 1 := by omega
                replace HR : Hid (rwordOf L here p ps = none) := by show _ = _; rw [HR.out, List.drop_eq_nil_of_le (by simp)]; unfold rrest2 rtI; rw [HF.out]; rfl
                go_wp2
                go_ret2
                exact ⟨_, _, rfl, HR.out, HI2.out.below⟩
          case rest =>
            obtain ⟨k3, i1, rfl, hk5, hk6, I3, HT⟩ := hcut
            have HI3 : Hid _ := I3
            replace HR : Hid (rwordOf L here p ps = rfin op a b1 i1 ((p :: ps).drop k3)) := by show _ = _; rw [HR.out]; unfold rrest2; rw [HT.out]
            clear HT I3 HI2 hk3 hk4
            by_cases hkl : k3 = ps.length + 1
            · subst hkl
              have c0 := HI3.out.i0
              have c1 := HI3.out.i1
              have c2 := HI3.out.i2
              have c3 := HI3.out.i3
              have he := rencode_c op a b1 i1 wc
              replace HR : Hid (rwordOf L here p ps = if vldB op a b1 i1 then some (encR op a b1 i1) else none) := by show _ = _; rw [HR.out, List.drop_eq_nil_of_le (by simp)]; unfold rfin; simp
              go_wp2_with (first
                | (go_at_call 36; refine he.mono ?_; clear he; rintro e w7 ⟨rfl, hb7⟩)
                | go_in)
              go_ret2
              exact ⟨_, _, rfl, HR.out, HI3.out.below.trans (hb7.mono HI3.out.below.size)⟩
            · have hne : ((k3 : Int) != (ps.length : Int) + 1) = true := by simp; omega
              replace HR : Hid (rwordOf L here p ps = none) := by show _ = _; rw [HR.out]; unfold rfin; rw [if_neg]; rintro ⟨h, -⟩; simp at h; omega
              go_wp2
              go_ret2
              exact ⟨_, _, rfl, HR.out, HI3.out.below⟩
end Go.Proofs.YteacdjakdkdbnaaGreatDoor
