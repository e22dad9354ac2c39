/-
  Layer 12 (caps): the document's tree in memory; contracts of its New, Is, count, Under, over the translated program.
-/
import Derived.Test.YtlppfcoclpdanaaCsMath
import Derived.Test.YtlppfcoclpdanaaSnRef2
import Derived.Laws.MakeOwn
namespace Go.Proofs.Ytlppfcoclpdanaa.Cs
open Go.ChangeShapes Go.WideShapes Go.ChangeAt Go.RowKit
open Wh Sn
set_option linter.unusedVariables false
set_option maxRecDepth 20000

/-- A node's cells. -/
def nc (x : Nd) : List Value := .int .u64 (x.gen : Nat) :: .int .i64 x.par :: bv x.st
theorem nc_len (x : Nd) : (nc x).length = 1026 := by simp [nc, bv_len]
theorem nc_0 (x : Nd) : (nc x)[0]? = some (.int .u64 (x.gen : Nat)) := rfl
theorem nc_1 (x : Nd) : (nc x)[1]? = some (.int .i64 x.par) := rfl
theorem nc_2 (x : Nd) (j : Nat) (h : j < 1024) : (nc x)[j + 2]? = some (.bool (x.st j)) := by
  show (bv x.st)[j]? = _
  exact bv_get x.st j h
theorem nc_one (x : Nd) : ∀ v ∈ nc x, v.oneCell' = true := by
  intro v hv
  simp only [nc, List.mem_cons] at hv
  rcases hv with rfl | rfl | hv
  · rfl
  · rfl
  · exact bv_one _ v hv
theorem nc_all (x : Nd) : (nc x).toArray.all (·.oneCell') = true := all_oneCell_toArray (nc_one x)
theorem ncs (x : Nd) : (nc x).toArray.size = 1026 := by simp [nc_len]
theorem szNode : (Try.prog.info? 46).map (·.size) = some 1026 := by kernel_rfl
theorem iNode (x : Nd) : (Try.prog.info? 46).map (·.size) = some (nc x).length := by rw [nc_len]; exact szNode
theorem iNode' (x : Nd) : (Try.prog.info? 46).map (·.size) = some (nc x).toArray.size := by rw [ncs]; exact szNode
/-- All nodes' cells. -/
def rv (T : Tr) (j : Nat) : Value := if j % 1026 = 0 then .int .u64 ((T (j / 1026)).gen : Nat) else if j % 1026 = 1 then .int .i64 (T (j / 1026)).par else .bool ((T (j / 1026)).st (j % 1026 - 2))
theorem rv_0 (T : Tr) (p : Nat) : rv T (p * 1026) = .int .u64 ((T p).gen : Nat) := by unfold rv; rw [if_pos (by omega), show p * 1026 / 1026 = p by omega]
theorem rv_1 (T : Tr) (p : Nat) : rv T (p * 1026 + 1) = .int .i64 (T p).par := by unfold rv; rw [if_neg (by omega), if_pos (by omega), show (p * 1026 + 1) / 1026 = p by omega]
theorem rv_2 (T : Tr) (p j : Nat) (h : j < 1024) : rv T (p * 1026 + 2 + j) = .bool ((T p).st j) := by
  unfold rv
  rw [if_neg (by omega), if_neg (by omega), show (p * 1026 + 2 + j) / 1026 = p by omega, show (p * 1026 + 2 + j) % 1026 - 2 = j by omega]
theorem rv_nc (T : Tr) (p i : Nat) (h : i < 1026) : (nc (T p))[i]? = some (rv T (p * 1026 + i)) := by
  match i, h with
  | 0, _ => rw [nc_0, Nat.add_zero, rv_0]
  | 1, _ => rw [nc_1, rv_1]
  | i + 2, h => rw [nc_2 _ _ (by omega), show p * 1026 + (i + 2) = p * 1026 + 2 + i by omega, rv_2 _ _ _ (by omega)]
attribute [irreducible] nc
/-- The document's tree at block bx, its nodes in block bl. -/
structure RfAt (w : World) (bx bl : Nat) (T : Tr) (m : Nat) : Prop where
  ne : bx ≠ bl
  c0 : w.cell? ⟨bx, 0, none⟩ = some (.slice (some ⟨bl, 0, none⟩) 64 64)
  c1 : w.cell? ⟨bx, 1, none⟩ = some (.int .u64 (m : Nat))
  z1 : w.frozen? ⟨bx, 1, none⟩ = false
  vb : VB w bl 65664 (rv T)
theorem RfAt.keep {l : List Nat} {w w' : World} {bx bl m : Nat} {T : Tr} (h : RfAt w bx bl T m) (k : But l w w') (h1 : bx ∉ l) (h2 : bl ∉ l) : RfAt w' bx bl T m :=
  ⟨h.ne, cell_keep h.c0 k h1, cell_keep h.c1 k h1, (k.frozen (p := ⟨bx, 1, none⟩) (lt_of_cell h.c1) h1).trans h.z1, h.vb.keep k h2⟩
theorem RfAt.keep0 {w w' : World} {bx bl m : Nat} {T : Tr} (h : RfAt w bx bl T m) (k : But [] w w') : RfAt w' bx bl T m := h.keep k (by simp) (by simp)
theorem RfAt.lt {w : World} {bx bl m : Nat} {T : Tr} (h : RfAt w bx bl T m) : bx < w.heap.size ∧ bl < w.heap.size := ⟨lt_of_cell h.c0, h.vb.lt (by omega)⟩
theorem RfAt.g {w : World} {bx bl m : Nat} {T : Tr} (h : RfAt w bx bl T m) {p : Nat} (hp : p < 64) : w.cell? ⟨bl, p * 1026, none⟩ = some (.int .u64 ((T p).gen : Nat)) := by rw [(h.vb _ (by omega)).1, rv_0]
theorem RfAt.p {w : World} {bx bl m : Nat} {T : Tr} (h : RfAt w bx bl T m) {p : Nat} (hp : p < 64) : w.cell? ⟨bl, p * 1026 + 1, none⟩ = some (.int .i64 (T p).par) := by rw [(h.vb _ (by omega)).1, rv_1]
theorem RfAt.s {w : World} {bx bl m : Nat} {T : Tr} (h : RfAt w bx bl T m) {p : Nat} (hp : p < 64) : w.rangeAt bl (p * 1026 + 2) (bv (T p).st) :=
  h.vb.range _ (by rw [bv_len]; omega) (fun i hi => by rw [bv_len] at hi; rw [bv_get _ _ hi, rv_2 _ _ _ hi])
theorem RfAt.n {w : World} {bx bl m : Nat} {T : Tr} (h : RfAt w bx bl T m) {p : Nat} (hp : p < 64) : w.rangeAt bl (p * 1026) (nc (T p)) :=
  h.vb.range _ (by rw [nc_len]; omega) (fun i hi => by rw [nc_len] at hi; exact rv_nc T p i hi)
theorem RfAt.th {w : World} {bx bl m : Nat} {T : Tr} (h : RfAt w bx bl T m) {p : Nat} (hp : p < 64) : w.there bl (p * 1026) 1026 := h.vb.there (by omega)
theorem RfAt.put {w : World} {bx bl m : Nat} {T : Tr} (h : RfAt w bx bl T m) {p : Nat} (hp : p < 64) (x : Nd) : RfAt (w.setCells bl (p * 1026) (nc x)) bx bl (updN T p x) m := by
  have k : But [bl] w (w.setCells bl (p * 1026) (nc x)) := (But.refl [bl] w).setCells (by simp) _ _
  refine ⟨h.ne, cell_keep h.c0 k (by simpa using h.ne), cell_keep h.c1 k (by simpa using h.ne), by rw [World.frozen?_setCells]; exact h.z1, (h.vb.sets (nc x) (by rw [nc_len]; omega)).congr (fun j hj => ?_)⟩
  rw [nc_len]
  by_cases e : p * 1026 ≤ j ∧ j < p * 1026 + 1026
  · rw [if_pos e]
    obtain ⟨i, rfl⟩ : ∃ i, j = p * 1026 + i := ⟨j - p * 1026, by omega⟩
    have := rv_nc (updN T p x) p i (by omega)
    rw [updN_same] at this
    rw [List.getD_eq_getElem?_getD, show p * 1026 + i - p * 1026 = i by omega, this]
    rfl
  · rw [if_neg e]
    have hj : j / 1026 ≠ p := by omega
    unfold rv
    rw [updN_other _ _ hj]
theorem RfAt.last {w : World} {bx bl m : Nat} {T : Tr} (h : RfAt w bx bl T m) (m' : Nat) : RfAt (w.setCell ⟨bx, 1, none⟩ (.int .u64 (m' : Nat))) bx bl T m' := by
  have k : But [bx] w (w.setCell ⟨bx, 1, none⟩ (.int .u64 (m' : Nat))) := (But.refl [bx] w).setCell (by simp) _
  refine ⟨h.ne, ?_, World.cell?_setCell_same _ _ _ h.c1, by rw [World.frozen?_setCell]; exact h.z1, h.vb.keep k (by simpa using Ne.symm h.ne)⟩
  rw [World.cell?_setCell_other _ _ _ _ (by intro e'; injection e' with e1 e2; omega)]
  exact h.c0

set_option maxHeartbeats 1000000 in
theorem rIs_c (bx bl m : Nat) (T : Tr) (at_ : Int) (g : Nat) (w : World) (h : RfAt w bx bl T m) :
    Calls Try.prog 28 #[.pointer (some ⟨bx, 0, none⟩), .int .i64 at_, .int .u64 g] w fun e w' => e = .returned (.bool (isB T at_ g)) ∧ w = w' := by
  have hc0 := h.c0
  by_cases h0 : at_ < 0
  · have e : isB T at_ g = false := by unfold isB; rw [decide_eq_false (by omega)]; rfl
    rw [e]
    have hd : decide (0 ≤ at_) = false := decide_eq_false (by omega)
    clear h e
    go_enter Try.func28, Try.ntmps28
    go_wp2
    go_ret
    exact ⟨rfl, rfl⟩
  obtain ⟨a, rfl⟩ : ∃ a : Nat, at_ = a := ⟨at_.toNat, by omega⟩
  have hd : decide ((0 : Int) ≤ (a : Int)) = true := decide_eq_true (by omega)
  by_cases h1 : 64 ≤ a
  · have e : isB T a g = false := by unfold isB; rw [decide_eq_false (show ¬ (a : Int) < 64 by omega), Bool.and_false]; rfl
    rw [e]
    have hd1 : decide ((a : Int) < 64) = false := decide_eq_false (by omega)
    clear h e
    go_enter Try.func28, Try.ntmps28
    go_wp2
    go_ret
    exact ⟨rfl, rfl⟩
  have h1' : a < 64 := by omega
  have hd1 : decide ((a : Int) < 64) = true := decide_eq_true (by omega)
  have hcg := h.g h1'
  by_cases h2 : g = 0
  · subst h2
    have e : isB T a 0 = false := by unfold isB; rw [decide_eq_false (show ¬ 0 < 0 by omega), Bool.and_false]; rfl
    rw [e]
    clear h e
    go_enter Try.func28, Try.ntmps28
    go_wp2
    go_ret
    exact ⟨rfl, rfl⟩
  have hd2 : decide ((0 : Int) < (g : Int)) = true := decide_eq_true (by omega)
  have hd2' : decide (0 < g) = true := decide_eq_true (by omega)
  by_cases h3 : (T a).gen = g
  · have e : isB T a g = true := isB_nat h1' (by omega) h3
    rw [e]
    rw [h3] at hcg
    clear h e h3
    go_enter Try.func28, Try.ntmps28
    go_wp2
    go_ret
    exact ⟨rfl, rfl⟩
  · have e : isB T a g = false := by unfold isB; rw [Int.toNat_natCast, decide_eq_false h3, Bool.and_false]
    rw [e]
    have hd3 : (((T a).gen : Int) == (g : Int)) = false := by simp; omega
    generalize (T a).gen = x at hcg hd3 h3
    clear h e
    go_enter Try.func28, Try.ntmps28
    go_wp2
    go_ret
    exact ⟨rfl, rfl⟩
set_option maxHeartbeats 1000000 in
theorem count_c (f : Nat → Bool) (w : World) :
    Calls Try.prog 49 #[.agg (bv f).toArray] w fun e w' => e = .returned (.int .i64 ((nums f 1024).length : Nat)) ∧ But [] w w' := by
  obtain ⟨b, hb⟩ : ∃ b, b = w.heap.size := ⟨_, rfl⟩
  obtain ⟨w0, hw0⟩ : ∃ w0, w0 = w.alloc (.cells (bv f).toArray 36) := ⟨_, rfl⟩
  have HK0 : Hid (But [] w w0) := by show But _ _ _; rw [hw0]; exact (But.refl [] w).alloc _
  have hr := new_range w (bv f) 36
  rw [← hw0, ← hb] at hr
  have HR := hid hr
  clear hr
  go_enter Try.func49, Try.ntmps49
  go_upto_region 1 with fail
  rw [← hw0, ← hb]
  clear hw0 hb
  go_wp2_with (first | (refine wpList_load_mid rfl 36 _ rfl b 0 rfl (bv f) _ HR.out Try.underlying36 rfl (iSet _) ?_))
  refine (rall_c f w0).mono ?_
  rintro e w1 ⟨A, n, c, rfl, hl, -, k1, -⟩
  have HL := hid hl
  have HK1 := hid (HK0.out.trans k1)
  clear hl k1
  go_wp2
  go_ret
  exact ⟨by rw [HL.out]; rfl, HK1.out⟩
set_option maxHeartbeats 1000000 in
theorem rUnder_c (bx bl m : Nat) (T : Tr) (i a : Nat) (hi : i < 64) (w : World) (h : RfAt w bx bl T m) (hB : ∀ p, -1 ≤ (T p).par ∧ (T p).par < 64) :
    Calls Try.prog 51 #[.pointer (some ⟨bx, 0, none⟩), .int .i64 i, .int .i64 a] w fun e w' => e = .returned (.bool (und T a i)) ∧ w = w' := by
  have H := hid h
  have HB := hid hB
  have hc0 := h.c0
  clear h hB
  go_enter Try.func51, Try.ntmps51
  go_wp2
  go_loopg [1, 7] 65 (fun g0 iv nv wx => ∃ (n j : Nat), n + g0 = 65 ∧ n ≤ 64 ∧ j < 64 ∧ iv = .int .i64 j ∧ nv = .int .i64 n ∧ Hid (und T a i = udr T a (64 - n) j) ∧ wx = w)
  case atStart => exact ⟨0, i, by omega, by omega, hi, rfl, rfl, rfl, rfl⟩
  case round =>
    obtain ⟨n, j, hng, hn, hj, rfl, rfl, HU, rfl⟩ := hrel
    by_cases hlt : n < 64
    · have hnI : (n : Int) < 64 := by omega
      have hcg := H.out.g hj
      have hcp := H.out.p hj
      have hu := HU.out
      rw [show 64 - n = (64 - (n + 1)) + 1 by omega] at hu
      unfold udr at hu
      by_cases hg : (T j).gen = 0
      · rw [if_pos hg] at hu
        rw [hg] at hcg
        have HU2 := hid hu
        clear hu hcp hg
        go_wp2
        go_ret
        exact ⟨by rw [HU2.out]; rfl, rfl⟩
      · rw [if_neg hg] at hu
        have hd : decide (0 < (T j).gen) = true := decide_eq_true (by omega)
        obtain ⟨hb1, hb2⟩ := HB.out j
        generalize (T j).gen = gg at hcg hd hg
        generalize (T j).par = q at hcp hu hb1 hb2
        by_cases hq : q = a
        · rw [if_pos hq] at hu
          subst hq
          have HU2 := hid hu
          clear hu hg
          go_wp2
          go_ret
          exact ⟨by rw [HU2.out]; rfl, rfl⟩
        · rw [if_neg hq] at hu
          have hqa : (q == (a : Int)) = false := by simpa using hq
          by_cases hq0 : q < 0
          · rw [if_pos hq0] at hu
            have HU2 := hid hu
            clear hu hg hq
            go_wp2
            go_ret
            exact ⟨by rw [HU2.out]; rfl, rfl⟩
          · rw [if_neg hq0] at hu
            obtain ⟨k, rfl⟩ : ∃ k : Nat, q = k := ⟨q.toNat, by omega⟩
            rw [Int.toNat_natCast] at hu
            have HU2 := hid hu
            have hk64 : k < 64 := by omega
            clear hu hg hq
            go_wp2
            go_roundg (65 - (n + 1))
            case measure => omega
            case rel => exact ⟨n + 1, k, by omega, by omega, by omega, rfl, by go_num, HU2.out, rfl⟩
    · obtain rfl : n = 64 := by omega
      have hd : decide ((64 : Int) < 64) = false := by decide
      go_wp2
      go_ret
      exact ⟨by rw [HU.out]; rfl, rfl⟩
end Go.Proofs.Ytlppfcoclpdanaa.Cs
