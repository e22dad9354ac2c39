/-
  Layer 6 (cpu): plainly: what is stored is loaded, as a word and as a byte.
-/
import Derived.Test.YtjlcncdhlcpklaaCpAwake
namespace Go.Proofs.Ytjlcncdhlcpklaa.Cp
open Go.RowKit
open Fr (MemAt Blk hasW hasF) 
open Tl (En TlbAt Ens getE misE ansE en0 putL isE)
set_option linter.unusedVariables false
set_option maxRecDepth 20000

theorem ftc_word {n : Nat} {xs : List Int} {l : List En} {s pc f a x : Int} (h1 : fndW l s pc false = ⟨tr0, f, a⟩) (h2 : getW n xs f a = x) (h3 : vldD x = true) : ftc n xs l s pc = ⟨tr0, doR x, daR x, dbR x, diR x⟩ := by
  unfold ftc
  rw [h1]
  show (if (0 : Int) = 0 then (if vldD (getW n xs f a) = true then _ else _) else _) = _
  rw [if_pos rfl, h2, if_pos h3]
theorem step_word {n : Nat} {xs : List Int} {l : List En} {s : Int} {c : List Int} {o a b i : Int} (hf : ftc n xs l s (c.getD 16 0) = ⟨tr0, o, a, b, i⟩) : stepP n xs l s c = endD c (doP n xs l s o a.toNat b.toNat i (pc4 c)) := by
  unfold stepP
  rw [hf]
  rfl
/-- The four words, the two entries, the program, and the memory, behind so many steps. -/
def wds : List Int := [252837888, 238157824, 289538049, 273809409]
def ent (s : Int) : List En := [⟨s, 0, 0, false⟩, ⟨s, 1, 2, true⟩]
def stC (W : Int) (k : Nat) (r3 r5 pc : Int) : List Int := [0, W, 64 + 4 * (k : Int), r3, W / 256, r5, 0, 0, 0, 0, 0, 0, 0, 0, 0, 0, pc]
theorem tlb_ent (s : Int) : tlbN (ent s) (min 2 12) = ent s := by
  show putL (putL [] ⟨s, 0, 0, false⟩) ⟨s, 1, 2, true⟩ = _
  simp [putL, Tl.roomL, Tl.stay, isE, ent]
theorem ent0 (s : Int) : getE s 0 (ent s) = some ⟨s, 0, 0, false⟩ := by simp [getE, ent, isE]
theorem ent1 (s : Int) : getE s 1 (ent s) = some ⟨s, 1, 2, true⟩ := by simp [getE, ent, isE]
theorem at_code (s pc : Int) (h0 : 0 ≤ pc) (h1 : pc < 64) (h4 : pc % 4 = 0) : fndW (ent s) s pc false = ⟨tr0, 0, pc / 4⟩ := by
  unfold fndW fnd
  rw [if_pos h4, show pc / 64 = 0 by omega, ent0]
  show (⟨tr0, 0, pc % 64 / 4⟩ : Fd) = _
  rw [show pc % 64 = pc by omega]
theorem at_dataW (s : Int) (k : Nat) (hk : k < 16) (wr : Bool) : fndW (ent s) s (64 + 4 * (k : Int)) wr = ⟨tr0, 2, k⟩ := by
  unfold fndW fnd
  rw [if_pos (by omega), show (64 + 4 * (k : Int)) / 64 = 1 by omega, ent1]
  show (if (wr && !true) = true then _ else (⟨tr0, 2, (64 + 4 * (k : Int)) % 64 / 4⟩ : Fd)) = _
  rw [if_neg (by simp), show (64 + 4 * (k : Int)) % 64 / 4 = k by omega]
theorem at_dataB (s : Int) (k : Nat) (hk : k < 16) (wr : Bool) : fnd (ent s) s (64 + 4 * (k : Int) + 1) wr = ⟨tr0, 2, k⟩ := by
  unfold fnd
  rw [show (64 + 4 * (k : Int) + 1) / 64 = 1 by omega, ent1]
  show (if (wr && !true) = true then _ else (⟨tr0, 2, (64 + 4 * (k : Int) + 1) % 64 / 4⟩ : Fd)) = _
  rw [if_neg (by simp), show (64 + 4 * (k : Int) + 1) % 64 / 4 = k by omega]
def m0 : List Int := memN wds (min 4 64)
theorem m0_len : m0.length = 64 := memN_len _ _
theorem has2 (k : Nat) (hk : k < 16) : hasW 4 2 (k : Int) = true := by simp only [hasW, decide_eq_true_eq]; omega
theorem has0 (j : Int) (h0 : 0 ≤ j) (h1 : j < 16) : hasW 4 0 j = true := by simp only [hasW, decide_eq_true_eq]; omega
theorem put2 (xs : List Int) (k : Nat) (hk : k < 16) (v : Int) : putW 4 xs 2 (k : Int) v = xs.set (32 + k) v := by
  unfold putW
  rw [if_pos (has2 k hk)]
  congr 1
theorem get2 (k : Nat) (hk : k < 16) (v : Int) : getW 4 (m0.set (32 + k) v) 2 (k : Int) = v := by
  unfold getW
  rw [if_pos (has2 k hk), Fr.set_get _ _ _ _ (by rw [m0_len]; omega), if_pos (by omega)]
theorem get_code (k : Nat) (hk : k < 16) (v : Int) (j : Nat) (hj : j < 16) : getW 4 (m0.set (32 + k) v) 0 (j : Int) = m0.getD j 0 := by
  unfold getW
  rw [if_pos (has0 j (by omega) (by omega)), Fr.set_get _ _ _ _ (by rw [m0_len]; omega), if_neg (by omega)]
  congr 1
  omega
theorem get_code0 (j : Nat) (hj : j < 16) : getW 4 m0 0 (j : Int) = m0.getD j 0 := by
  unfold getW
  rw [if_pos (has0 j (by omega) (by omega))]
  congr 1
  omega
theorem st0 (s W : Int) (k : Nat) (hk : k < 16) : stepP 4 m0 (ent s) s (stC W k 0 0 0) = ⟨tr0, stC W k 0 0 4, m0.set (32 + k) W⟩ := by
  have hf : ftc 4 m0 (ent s) s ((stC W k 0 0 0).getD 16 0) = ⟨tr0, 15, 1, 2, 0⟩ := by
    show ftc 4 m0 (ent s) s 0 = _
    rw [ftc_word (at_code s 0 (by omega) (by omega) (by omega)) (get_code0 0 (by omega)) (by decide)]
    kernel_rfl
  rw [step_word hf]
  show endD _ (doP 4 m0 (ent s) s 15 1 2 0 (stC W k 0 0 4)) = _
  have ha : adr (stC W k 0 0 4) 2 0 = 64 + 4 * (k : Int) := by show (64 + 4 * (k : Int) + 0 % 4294967296) % 4294967296 = _; omega
  show endD _ ⟨(fndW (ent s) s (adr (stC W k 0 0 4) 2 0) true).t, stC W k 0 0 4, selC (fndW (ent s) s (adr (stC W k 0 0 4) 2 0) true).t.cause (putW 4 m0 (fndW (ent s) s (adr (stC W k 0 0 4) 2 0) true).f (fndW (ent s) s (adr (stC W k 0 0 4) 2 0) true).a W) m0⟩ = _
  rw [ha, at_dataW s k hk true]
  show endD _ ⟨tr0, stC W k 0 0 4, putW 4 m0 2 k W⟩ = _
  rw [put2 _ _ hk]
  rfl
theorem st1 (s W : Int) (k : Nat) (hk : k < 16) : stepP 4 (m0.set (32 + k) W) (ent s) s (stC W k 0 0 4) = ⟨tr0, stC W k W 0 8, m0.set (32 + k) W⟩ := by
  have hf : ftc 4 (m0.set (32 + k) W) (ent s) s ((stC W k 0 0 4).getD 16 0) = ⟨tr0, 14, 3, 2, 0⟩ := by
    show ftc 4 _ (ent s) s 4 = _
    rw [ftc_word (at_code s 4 (by omega) (by omega) (by omega)) (get_code k hk W 1 (by omega)) (by decide)]
    kernel_rfl
  rw [step_word hf]
  show endD _ (doP 4 (m0.set (32 + k) W) (ent s) s 14 3 2 0 (stC W k 0 0 8)) = _
  have ha : adr (stC W k 0 0 8) 2 0 = 64 + 4 * (k : Int) := by show (64 + 4 * (k : Int) + 0 % 4294967296) % 4294967296 = _; omega
  show endD _ ⟨(fndW (ent s) s (adr (stC W k 0 0 8) 2 0) false).t, selC (fndW (ent s) s (adr (stC W k 0 0 8) 2 0) false).t.cause ((stC W k 0 0 8).set 3 (getW 4 (m0.set (32 + k) W) (fndW (ent s) s (adr (stC W k 0 0 8) 2 0) false).f (fndW (ent s) s (adr (stC W k 0 0 8) 2 0) false).a)) (stC W k 0 0 8), m0.set (32 + k) W⟩ = _
  rw [ha, at_dataW s k hk false]
  show endD _ ⟨tr0, (stC W k 0 0 8).set 3 (getW 4 (m0.set (32 + k) W) 2 k), m0.set (32 + k) W⟩ = _
  rw [get2 k hk]
  rfl
theorem st2 (s W : Int) (k : Nat) (hk : k < 16) (h0 : 0 ≤ W) (h1 : W ≤ 4294967295) : stepP 4 (m0.set (32 + k) W) (ent s) s (stC W k W 0 8) = ⟨tr0, stC W k W 0 12, m0.set (32 + k) W⟩ := by
  have hf : ftc 4 (m0.set (32 + k) W) (ent s) s ((stC W k W 0 8).getD 16 0) = ⟨tr0, 17, 4, 2, 1⟩ := by
    show ftc 4 _ (ent s) s 8 = _
    rw [ftc_word (at_code s 8 (by omega) (by omega) (by omega)) (get_code k hk W 2 (by omega)) (by decide)]
    kernel_rfl
  rw [step_word hf]
  show endD _ (doP 4 (m0.set (32 + k) W) (ent s) s 17 4 2 1 (stC W k W 0 12)) = _
  have ha : adr (stC W k W 0 12) 2 1 = 64 + 4 * (k : Int) + 1 := by show (64 + 4 * (k : Int) + 1 % 4294967296) % 4294967296 = _; omega
  show endD _ ⟨(fnd (ent s) s (adr (stC W k W 0 12) 2 1) true).t, stC W k W 0 12, selC (fnd (ent s) s (adr (stC W k W 0 12) 2 1) true).t.cause (putW 4 (m0.set (32 + k) W) (fnd (ent s) s (adr (stC W k W 0 12) 2 1) true).f (fnd (ent s) s (adr (stC W k W 0 12) 2 1) true).a (wth (getW 4 (m0.set (32 + k) W) (fnd (ent s) s (adr (stC W k W 0 12) 2 1) true).f (fnd (ent s) s (adr (stC W k W 0 12) 2 1) true).a) (adr (stC W k W 0 12) 2 1 % 4) (W / 256 % 256))) (m0.set (32 + k) W)⟩ = _
  rw [ha, at_dataB s k hk true]
  show endD _ ⟨tr0, stC W k W 0 12, putW 4 (m0.set (32 + k) W) 2 k (wth (getW 4 (m0.set (32 + k) W) 2 k) ((64 + 4 * (k : Int) + 1) % 4) (W / 256 % 256))⟩ = _
  rw [get2 k hk, put2 _ _ hk, List.set_set, show (64 + 4 * (k : Int) + 1) % 4 = 1 by omega, ← wth1 W 1 (W / 256 % 256) (by omega) h0 h1, num4_bytes W h0 h1]
  rfl
theorem st3 (s W : Int) (k : Nat) (hk : k < 16) (h0 : 0 ≤ W) (h1 : W ≤ 4294967295) : stepP 4 (m0.set (32 + k) W) (ent s) s (stC W k W 0 12) = ⟨tr0, stC W k W (W / 256 % 256) 16, m0.set (32 + k) W⟩ := by
  have hf : ftc 4 (m0.set (32 + k) W) (ent s) s ((stC W k W 0 12).getD 16 0) = ⟨tr0, 16, 5, 2, 1⟩ := by
    show ftc 4 _ (ent s) s 12 = _
    rw [ftc_word (at_code s 12 (by omega) (by omega) (by omega)) (get_code k hk W 3 (by omega)) (by decide)]
    kernel_rfl
  rw [step_word hf]
  show endD _ (doP 4 (m0.set (32 + k) W) (ent s) s 16 5 2 1 (stC W k W 0 16)) = _
  have ha : adr (stC W k W 0 16) 2 1 = 64 + 4 * (k : Int) + 1 := by show (64 + 4 * (k : Int) + 1 % 4294967296) % 4294967296 = _; omega
  show endD _ ⟨(fnd (ent s) s (adr (stC W k W 0 16) 2 1) false).t, selC (fnd (ent s) s (adr (stC W k W 0 16) 2 1) false).t.cause ((stC W k W 0 16).set 5 (byt (getW 4 (m0.set (32 + k) W) (fnd (ent s) s (adr (stC W k W 0 16) 2 1) false).f (fnd (ent s) s (adr (stC W k W 0 16) 2 1) false).a) (adr (stC W k W 0 16) 2 1 % 4))) (stC W k W 0 16), m0.set (32 + k) W⟩ = _
  rw [ha, at_dataB s k hk false]
  show endD _ ⟨tr0, (stC W k W 0 16).set 5 (byt (getW 4 (m0.set (32 + k) W) 2 k) ((64 + 4 * (k : Int) + 1) % 4)), m0.set (32 + k) W⟩ = _
  rw [get2 k hk, show (64 + 4 * (k : Int) + 1) % 4 = 1 by omega, byt1 W 1 (by omega)]
  rfl
def stCi (W : Int) (k : Nat) : Nat → List Int
  | 0 => stC W k 0 0 0
  | 1 => stC W k 0 0 4
  | 2 => stC W k W 0 8
  | 3 => stC W k W 0 12
  | _ => stC W k W (W / 256 % 256) 16
def stXi (W : Int) (k : Nat) : Nat → List Int
  | 0 => m0
  | _ => m0.set (32 + k) W
theorem st_all (s W : Int) (k : Nat) (hk : k < 16) (h0 : 0 ≤ W) (h1 : W ≤ 4294967295) (i : Nat) (hi : i < 4) : stepP 4 (stXi W k i) (ent s) s (stCi W k i) = ⟨tr0, stCi W k (i + 1), stXi W k (i + 1)⟩ := by
  have : i = 0 ∨ i = 1 ∨ i = 2 ∨ i = 3 := by omega
  rcases this with rfl | rfl | rfl | rfl
  · exact st0 s W k hk
  · exact st1 s W k hk
  · exact st2 s W k hk h0 h1
  · exact st3 s W k hk h0 h1
theorem stCi_len (W : Int) (k i : Nat) : (stCi W k i).length = 17 := by
  unfold stCi
  split <;> rfl
theorem stC_u (W : Int) (k : Nat) (hk : k < 16) (h0 : 0 ≤ W) (h1 : W ≤ 4294967295) (r3 r5 pc : Int) (a0 : 0 ≤ r3 ∧ r3 ≤ 4294967295) (a1 : 0 ≤ r5 ∧ r5 ≤ 4294967295) (a2 : 0 ≤ pc ∧ pc ≤ 4294967295) : U32s (stC W k r3 r5 pc) := fun j => by
  by_cases hj : j < 17
  · have : j = 0 ∨ j = 1 ∨ j = 2 ∨ j = 3 ∨ j = 4 ∨ j = 5 ∨ j = 6 ∨ j = 7 ∨ j = 8 ∨ j = 9 ∨ j = 10 ∨ j = 11 ∨ j = 12 ∨ j = 13 ∨ j = 14 ∨ j = 15 ∨ j = 16 := by omega
    rcases this with rfl | rfl | rfl | rfl | rfl | rfl | rfl | rfl | rfl | rfl | rfl | rfl | rfl | rfl | rfl | rfl | rfl <;> (show 0 ≤ (_ : Int) ∧ _ ≤ _; simp only [stC, List.getD, List.getElem?_cons_zero, List.getElem?_cons_succ, Option.getD_some]; omega)
  · rw [List.getD_eq_getElem?_getD, List.getElem?_eq_none (by simp only [stC, List.length_cons, List.length_nil]; omega)]
    simp
theorem stCi_u (W : Int) (k : Nat) (hk : k < 16) (h0 : 0 ≤ W) (h1 : W ≤ 4294967295) (i : Nat) : U32s (stCi W k i) := by
  unfold stCi
  split <;> exact stC_u W k hk h0 h1 _ _ _ (by omega) (by omega) (by omega)
theorem range_set {w : World} {b : Nat} {cs : List Value} (h : w.rangeAt b 0 cs) (j : Nat) (hj : j < cs.length) (v : Value) : (w.setCell ⟨b, j, none⟩ v).rangeAt b 0 (cs.set j v) := fun i u hu => by
  rw [Nat.zero_add]
  by_cases e : i = j
  · subst e
    rw [List.getElem?_set_self hj] at hu
    obtain rfl := Option.some.inj hu
    have := h i _ (List.getElem?_eq_getElem hj)
    rw [Nat.zero_add] at this
    exact World.cell?_setCell_same _ _ _ this
  · rw [List.getElem?_set_ne (Ne.symm e)] at hu
    have := h i u hu
    rw [Nat.zero_add] at this
    exact (World.cell?_setCell_other _ _ _ _ (by intro q; injection q with q1 q2; exact e q2.symm)).trans this
theorem stl_len (A0 : Option Addr) (l0 c0 : Nat) (A1 : Option Addr) (l1 c1 : Nat) (s : Int) (c : List Int) (h : c.length = 17) : (stl A0 l0 c0 A1 l1 c1 s c).length = 20 := by simp [stl, cvl_len, h]
theorem u_wds : U32s wds := fun j => by
  rcases j with _ | _ | _ | _ | j <;> simp [wds]
/-- The two slices that the law lays, and the start that names them. -/
theorem st_world (w0 : World) (g h : Nat) (A0 : Option Addr) (l0 c0 : Nat) (A1 : Option Addr) (l1 c1 : Nat) (s : Int) (c : List Int) (hR : w0.rangeAt g 0 (stl A0 l0 c0 A1 l1 c1 s c)) (hg : g < w0.heap.size) (hh : w0.heap.size = h) (W : World)
    (hW : W = ((((w0.setCell ⟨g, 0, none⟩ (.slice (some ⟨h, 0, none⟩) 4 4)).setCell ⟨g, 1, none⟩ (.slice (some ⟨h + 1, 0, none⟩) 2 2)).alloc (.cells #[.int .u32 252837888, .int .u32 238157824, .int .u32 289538049, .int .u32 273809409] 24)).alloc (.cells #[.int .i64 s, .int .i64 0, .int .i64 0, .bool false, .int .i64 s, .int .i64 1, .int .i64 2, .bool true] 55))) :
    W.rangeAt g 0 (stl (some ⟨h, 0, none⟩) 4 4 (some ⟨h + 1, 0, none⟩) 2 2 s c) ∧ Rd .u32 W 0 W.heap.size (some ⟨h, 0, none⟩) wds ∧ Ens W 0 (some ⟨h + 1, 0, none⟩) (ent s) ∧ But [g] w0 W := by
  obtain ⟨u, hu⟩ : ∃ u, u = (w0.setCell ⟨g, 0, none⟩ (.slice (some ⟨h, 0, none⟩) 4 4)).setCell ⟨g, 1, none⟩ (.slice (some ⟨h + 1, 0, none⟩) 2 2) := ⟨_, rfl⟩
  have hu0 : u.rangeAt g 0 (stl (some ⟨h, 0, none⟩) 4 4 (some ⟨h + 1, 0, none⟩) 2 2 s c) := by
    rw [hu]
    exact range_set (range_set hR 0 (by simp [stl]) (.slice (some ⟨h, 0, none⟩) 4 4)) 1 (by simp [stl]) (.slice (some ⟨h + 1, 0, none⟩) 2 2)
  have hus : u.heap.size = h := by rw [hu, ← hh]; simp [World.setCell]
  have hub : But [g] w0 u := by rw [hu]; exact ((But.refl [g] w0).setCell (p := ⟨g, 0, none⟩) (by simp) _).setCell (p := ⟨g, 1, none⟩) (by simp) _
  rw [← hu] at hW
  obtain ⟨r1, r2⟩ := two_range u [.int .u32 252837888, .int .u32 238157824, .int .u32 289538049, .int .u32 273809409] [.int .i64 s, .int .i64 0, .int .i64 0, .bool false, .int .i64 s, .int .i64 1, .int .i64 2, .bool true] 24 55
  have hk : But [] u W := by rw [hW]; exact ((But.refl [] u).alloc _).alloc _
  have hsz : W.heap.size = h + 2 := by rw [hW]; simp [hus]
  rw [hus] at r1 r2
  change World.rangeAt (World.alloc (World.alloc u (.cells #[_, _, _, _] _)) (.cells #[_, _, _, _, _, _, _, _] _)) _ _ _ at r1
  change World.rangeAt (World.alloc (World.alloc u (.cells #[_, _, _, _] _)) (.cells #[_, _, _, _, _, _, _, _] _)) _ _ _ at r2
  rw [← hW] at r1 r2
  clear hW
  refine ⟨range_keep hu0 hk (by simp), .inr ⟨h, 0, rfl, Nat.zero_le _, by omega, fun j hj => ?_⟩, .inr ⟨h + 1, 0, rfl, Nat.zero_le _, by omega, fun j hj => ?_⟩, hub.trans (hk.any _)⟩
  · have hj' : j < 4 := hj
    have : j = 0 ∨ j = 1 ∨ j = 2 ∨ j = 3 := by omega
    rcases this with rfl | rfl | rfl | rfl
    · exact r1 0 _ rfl
    · exact r1 1 _ rfl
    · exact r1 2 _ rfl
    · exact r1 3 _ rfl
  · have hj' : j < 2 := hj
    have : j = 0 ∨ j = 1 := by omega
    rcases this with rfl | rfl
    · exact fun i v hv => by
        have hi : i < 4 := by
          rcases Nat.lt_or_ge i 4 with q | q
          · exact q
          · rw [List.getElem?_eq_none (by simpa [ent, Tl.En.vs] using q)] at hv; simp at hv
        have : i = 0 ∨ i = 1 ∨ i = 2 ∨ i = 3 := by omega
        rcases this with rfl | rfl | rfl | rfl
        · exact r2 0 v hv
        · exact r2 1 v hv
        · exact r2 2 v hv
        · exact r2 3 v hv
    · exact fun i v hv => by
        have hi : i < 4 := by
          rcases Nat.lt_or_ge i 4 with q | q
          · exact q
          · rw [List.getElem?_eq_none (by simpa [ent, Tl.En.vs] using q)] at hv; simp at hv
        have : i = 0 ∨ i = 1 ∨ i = 2 ∨ i = 3 := by omega
        rcases this with rfl | rfl | rfl | rfl
        · exact r2 4 v hv
        · exact r2 5 v hv
        · exact r2 6 v hv
        · exact r2 7 v hv
end Go.Proofs.Ytjlcncdhlcpklaa.Cp
