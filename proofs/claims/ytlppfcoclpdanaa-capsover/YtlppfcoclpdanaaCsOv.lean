/-
  Layer 12 (caps): the caps that have a number; the contract of Over, over the translated program.
-/
import Derived.Test.YtlppfcoclpdanaaCsUnder
namespace Go.Proofs.Ytlppfcoclpdanaa.Cs
open Go.ChangeShapes Go.WideShapes Go.ChangeAt Go.RowKit
open Wh Sn
set_option linter.unusedVariables false
set_option maxRecDepth 20000

theorem has_mono {f g : Nat → Bool} {x : Int} (h : ∀ k, f k = true → g k = true) (hx : hasB f x = true) : hasB g x = true := by
  unfold hasB at hx ⊢
  simp only [Bool.and_eq_true] at hx ⊢
  exact ⟨hx.1, h _ hx.2⟩
theorem has_st {f : Nat → Bool} {x : Int} (hx : hasB f x = true) : f x.toNat = true := by
  unfold hasB at hx
  simp only [Bool.and_eq_true] at hx
  exact hx.2
/-- Caps one behind the other, from the first one on, that have a number. -/
structure Ov (T : Tr) (x : Int) (L : List Nat) : Prop where
  mem : ∀ j, j < L.length → 0 < (T (L.getD j 0)).gen ∧ hasB (T (L.getD j 0)).st x = true
  head : L.getD 0 0 = 0
  chain : ∀ j, j + 1 < L.length → (T (L.getD (j + 1) 0)).par = (L.getD j 0 : Nat)
  inc : ∀ i j, i < j → j < L.length → (T (L.getD i 0)).gen < (T (L.getD j 0)).gen
theorem Ov.one {T : Tr} {m : Nat} (h : Wf T m) {x : Int} (hx : hasB (T 0).st x = true) : Ov T x [0] :=
  ⟨fun j hj => by
    obtain rfl : j = 0 := by simpa using hj
    exact ⟨h.root, hx⟩, rfl, fun j hj => by simp at hj, fun i j hi hj => by simp at hj; omega⟩
theorem Ov.nil {T : Tr} {x : Int} : Ov T x [] := ⟨fun j hj => by simp at hj, rfl, fun j hj => by simp at hj, fun i j hi hj => by simp at hj⟩
theorem getD_last {L : List Nat} {p : Nat} : (L ++ [p]).getD L.length 0 = p := by
  rw [List.getD_eq_getElem?_getD, List.getElem?_append_right (Nat.le_refl _), Nat.sub_self]; rfl
theorem Ov.next {T : Tr} {m : Nat} (h : Wf T m) {x : Int} {L : List Nat} {p q : Nat} (hv : Ov T x (L ++ [p])) (hg : 0 < (T q).gen) (hp : (T q).par = p) (hx : hasB (T q).st x = true) : Ov T x ((L ++ [p]) ++ [q]) := by
  have hl : (L ++ [p]).length = L.length + 1 := by simp
  have hq0 : q ≠ 0 := fun e => by subst e; rw [h.rpar] at hp; omega
  obtain ⟨p', hp', _, hlt, _⟩ := h.par q hg hq0
  obtain rfl : p' = p := by omega
  have hlast : ((L ++ [p']) ++ [q]).getD (L.length + 1) 0 = q := by have := getD_last (L := L ++ [p']) (p := q); rwa [hl] at this
  have hold : ∀ j, j < L.length + 1 → ((L ++ [p']) ++ [q]).getD j 0 = (L ++ [p']).getD j 0 := fun j hj => getD_left (by omega)
  refine ⟨fun j hj => ?_, ?_, fun j hj => ?_, fun i j hij hj => ?_⟩
  · simp at hj
    by_cases e : j = L.length + 1
    · subst e; rw [hlast]; exact ⟨hg, hx⟩
    · rw [hold j (by omega)]; exact hv.mem j (by omega)
  · rw [hold 0 (by omega)]; exact hv.head
  · simp at hj
    by_cases e : j = L.length
    · subst e; rw [hlast, hold _ (by omega), getD_last]; exact hp
    · rw [hold _ (by omega), hold _ (by omega)]; exact hv.chain j (by omega)
  · simp at hj
    by_cases e : j = L.length + 1
    · subst e
      rw [hlast, hold i (by omega)]
      by_cases e2 : i = L.length
      · subst e2; rw [getD_last]; exact hlt
      · have := hv.inc i L.length (by omega) (by omega)
        rw [getD_last] at this
        omega
    · rw [hold j (by omega), hold i (by omega)]; exact hv.inc i j hij (by omega)
theorem Ov.nodup {T : Tr} {x : Int} {L : List Nat} (h : Ov T x L) : L.Nodup := by
  refine List.pairwise_iff_getElem.2 (fun i j hi hj hij e => ?_)
  have := h.inc i j hij hj
  rw [List.getD_eq_getElem?_getD, List.getD_eq_getElem?_getD, List.getElem?_eq_getElem hi, List.getElem?_eq_getElem hj] at this
  simp only [Option.getD_some] at this
  rw [e] at this
  omega
theorem Ov.len {T : Tr} {m : Nat} (h : Wf T m) {x : Int} {L : List Nat} (hv : Ov T x L) : L.length ≤ 64 :=
  nodup_64 hv.nodup (fun y hy => by obtain ⟨j, hj, rfl⟩ := mem_getD hy; exact h.lt _ (hv.mem j hj).1)
/-- All that have the number are there. -/
def Dn (T : Tr) (x : Int) (L : List Nat) : Prop := ∀ q, 0 < (T q).gen → hasB (T q).st x = true → q ∈ L
theorem Dn.nil {T : Tr} {m : Nat} (h : Wf T m) {x : Int} (h0 : hasB (T 0).st x = false) : Dn T x [] := by
  have key : ∀ n q, (T q).gen ≤ n → 0 < (T q).gen → hasB (T q).st x = true → False := by
    intro n
    induction n with
    | zero => intro q hn hg _; omega
    | succ n ih =>
      intro q hn hg hx
      by_cases e : q = 0
      · subst e; rw [h0] at hx; cases hx
      · obtain ⟨p, _, h1, h2, h3⟩ := h.par q hg e
        exact ih p (by omega) h1 (has_mono h3 hx)
  exact fun q hg hx => (key _ q (Nat.le_refl _) hg hx).elim
theorem Dn.last {T : Tr} {m : Nat} (h : Wf T m) {x : Int} {L : List Nat} {p : Nat} (hv : Ov T x (L ++ [p])) (hn : ltP T p x = none) : Dn T x (L ++ [p]) := by
  have hl : (L ++ [p]).length = L.length + 1 := by simp
  have hno : ∀ q, 0 < (T q).gen → (T q).par = p → hasB (T q).st x = false := fun q hg hp => by
    have := (List.find?_eq_none.1 hn) q ((kids_mem h).2 ⟨hg, hp⟩)
    simpa using this
  have key : ∀ n q, (T q).gen ≤ n → 0 < (T q).gen → hasB (T q).st x = true → q ∈ L ++ [p] := by
    intro n
    induction n with
    | zero => intro q hn hg _; omega
    | succ n ih =>
      intro q hn hg hx
      by_cases e : q = 0
      · subst e
        rw [← hv.head]
        exact getD_mem (by omega)
      · obtain ⟨r, hr, h1, h2, h3⟩ := h.par q hg e
        obtain ⟨j, hj, e2⟩ := mem_getD (ih r (by omega) h1 (has_mono h3 hx))
        by_cases e3 : j = L.length
        · subst e3
          rw [getD_last] at e2
          subst e2
          rw [hno q hg hr] at hx
          cases hx
        · have hc := hv.chain j (by omega)
          rw [e2] at hc
          obtain ⟨h4, h5⟩ := hv.mem (j + 1) (by omega)
          by_cases e4 : q = (L ++ [p]).getD (j + 1) 0
          · rw [e4]; exact getD_mem (by omega)
          · exfalso
            have e5 : (L ++ [p]).getD (j + 1) 0 ≠ 0 := fun e6 => by rw [e6, h.rpar] at hc; omega
            have := h.apart q _ x.toNat e4 hg h4 e e5 (by rw [hr, hc]) (has_st hx)
            rw [has_st h5] at this
            cases this
  exact fun q hg hx => key _ q (Nat.le_refl _) hg hx
theorem lt_some {T : Tr} {m : Nat} (h : Wf T m) {p q : Nat} {x : Int} (hn : ltP T p x = some q) : 0 < (T q).gen ∧ (T q).par = p ∧ hasB (T q).st x = true := by
  have h1 := List.mem_of_find?_eq_some hn
  have h2 := List.find?_some hn
  rw [kids_mem h] at h1
  exact ⟨h1.1, h1.2, h2⟩
/-- What Over ends in. -/
def Overs (w : World) (T : Tr) (x : Int) (e : Ending) (w' : World) : Prop := ∃ L A n c, e = .returned (.slice A n c) ∧ Que w' w.heap.size 2 (.slice A n c) n (kc T L) ∧ But [] w w' ∧ Ov T x L ∧ Dn T x L
/-- How far Over is. -/
def Wy (T : Tr) (x : Int) (L : List Nat) (p : Nat) (ok : Bool) : Prop := (ok = true → Ov T x (L ++ [p])) ∧ (ok = false → Ov T x L ∧ Dn T x L)
theorem Wy.no {T : Tr} {x : Int} {L : List Nat} {p : Nat} (h1 : Ov T x L) (h2 : Dn T x L) : Wy T x L p false := ⟨fun h => (by cases h), fun _ => ⟨h1, h2⟩⟩
theorem Wy.yes {T : Tr} {x : Int} {L : List Nat} {p : Nat} (h1 : Ov T x (L ++ [p])) : Wy T x L p true := ⟨fun _ => h1, fun h => (by cases h)⟩
theorem Over_nil (x : Int) (w : World) : Calls Try.prog 20 #[.pointer none, .int .i64 x] w fun e w' => e = .returned (.slice none 0 0) ∧ But [] w w' := by
  go_enter Try.func20, Try.ntmps20
  go_wp2
  go_ret
  exact ⟨rfl, But.refl _ _⟩
set_option maxHeartbeats 2000000 in
theorem Over_c (b m : Nat) (Z : List Nat) (T : Tr) (f : Nat → Value) (x : Int) (w : World) (h : TrAt w b Z T m f) (hW : Wf T m) :
    Calls Try.prog 20 #[.pointer (some ⟨b, 0, none⟩), .int .i64 x] w (Overs w T x) := by
  have H := hid h
  have HW := hid hW
  obtain ⟨-, -, A1, n1, c1, -, hcs, hs1, -⟩ := h.cells (show 0 < 64 by omega)
  rw [show 0 * 3 + 2 = 2 by rfl] at hcs
  have HX1 := hid hs1
  clear h hW hs1
  go_enter Try.func20, Try.ntmps20
  go_wp2_with fail
  refine (has_c A1 n1 c1 _ x _ w HX1.out).mono ?_
  rintro e w1 ⟨rfl, k1⟩
  have HK1 := hid k1
  have HY : Hid (Wy T x [] 0 (hasB (T 0).st x)) := ⟨fun h => Ov.one HW.out h, fun h => ⟨Ov.nil, Dn.nil HW.out h⟩⟩
  generalize hasB (T 0).st x = ok0 at *
  clear k1 hcs
  go_wp2
  go_loopg [5, 6, 7] 66 (fun g0 v pv okv wx => ∃ (q cv p : Nat) (Av : Option Addr) (L : List Nat) (ok : Bool), q + g0 = 66 ∧ q ≤ 64 ∧ v = .slice Av q cv ∧ pv = .int .i64 p ∧ okv = .bool ok ∧ Hid (Que wx w.heap.size 2 (.slice Av q cv) q (kc T L)) ∧ Hid (Wy T x L p ok) ∧ Hid (But [] w wx))
  case atStart => exact ⟨0, 0, 0, none, [], ok0, by omega, by omega, rfl, rfl, rfl, Que.nil _ _ _, HY.out, HK1.out⟩
  case round =>
    obtain ⟨q, cv, p, Av, L, ok, hqg, hq64, rfl, rfl, rfl, HQ, HY, HB⟩ := hrel
    have hqL : Hid (q = L.length) := by have := HQ.out.1; rw [kc_len] at this; show q = _; omega
    cases ok with
    | true =>
      have hv := HY.out.1 rfl
      have hp := hv.mem L.length (by simp)
      rw [getD_last] at hp
      have hp64 := HW.out.lt p hp.1
      have hlen := hv.len HW.out
      simp at hlen
      have hq63 : q < 64 := by have := hqL.out; omega
      have HV := hid hv
      clear hv hp hlen
      go_wp2_with fail
      refine (cap_c b m Z T f p hp64 wr (H.out.keep0 HB.out)).mono ?_
      rintro e w3 ⟨rfl, k3⟩
      obtain ⟨g', off', c', w5, hr5, hq5, hk5, ho5⟩ := que_push (P := Try.prog) 44 26 _ Try.underlying44 Try.infoCap rfl (by decide) (by decide) (HQ.out.keep0 k3) [.int .i64 (p : Nat), .int .u64 ((T p).gen : Nat)] rfl (one_cap _ _) (HB.out.trans k3).size (by omega)
      rw [← kc_snoc] at hq5
      have HQ5 := hid hq5
      have HB5 := hid (but_own (HB.out.trans k3) hk5 (fun i hi => (HQ.out.lt i hi).1))
      have HR5 := hid hr5
      clear hr5 hq5 hk5 ho5 HQ HB k3
      generalize (T p).gen = gp at *
      go_wp2_with (first | (at_builtin; refine wpList_append_known _ rfl _ _ 44 rfl _ _ rfl rfl HR5.out ?_))
      refine (lentTo_c b m Z T f p x w5 (H.out.keep0 HB5.out)).mono ?_
      rintro e w6 ⟨rfl, k6⟩
      have HB6 := hid (HB5.out.trans k6)
      have HQ6 := hid (HQ5.out.keep0 k6)
      clear k6 HB5 HQ5
      cases hlt : ltP T p x with
      | none =>
        have HY6 : Hid (Wy T x (L ++ [p]) 0 false) := Wy.no HV.out (Dn.last HW.out HV.out hlt)
        clear hlt
        unfold LtV
        go_wp2
        go_roundg (66 - (q + 1))
        case measure => omega
        case rel => exact ⟨q + 1, c', 0, _, L ++ [p], false, by omega, by omega, rfl, rfl, rfl, HQ6.out, HY6.out, HB6.out⟩
      | some r =>
        obtain ⟨h1, h2, h3⟩ := lt_some HW.out hlt
        have HY6 : Hid (Wy T x (L ++ [p]) r true) := Wy.yes (HV.out.next HW.out h1 h2 h3)
        clear hlt h1 h2 h3
        unfold LtV
        go_wp2
        go_roundg (66 - (q + 1))
        case measure => omega
        case rel => exact ⟨q + 1, c', r, _, L ++ [p], true, by omega, by omega, rfl, rfl, rfl, HQ6.out, HY6.out, HB6.out⟩
    | false =>
      obtain ⟨h1, h2⟩ := HY.out.2 rfl
      have H1 := hid h1
      have H2 := hid h2
      clear h1 h2
      go_wp2
      go_ret
      exact ⟨L, _, _, _, rfl, HQ.out, HB.out, H1.out, H2.out⟩
end Go.Proofs.Ytlppfcoclpdanaa.Cs
