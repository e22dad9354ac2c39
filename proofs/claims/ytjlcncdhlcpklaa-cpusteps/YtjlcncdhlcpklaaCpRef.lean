/-
  Layer 6 (cpu): the document's machine: contracts of its Find, get and Reckon, over the translated program.
-/
import Derived.Test.YtjlcncdhlcpklaaCpBoth
namespace Go.Proofs.Ytjlcncdhlcpklaa.Cp
open Go.ChangeShapes Go.WideShapes Go.ChangeAt Go.RowKit
open Fr (MemAt Blk hasW hasF) 
open Tl (En TlbAt Ens getE misE ansE en0)
set_option linter.unusedVariables false
set_option maxRecDepth 20000

/-- A result in a slot, and one that is a struct in memory. -/
theorem results_tmp_cell {P : Program} {fn : Func} {u p : Tmp} {ty : TypeId} (h : fn.results = #[.tmp u, .cell p ty]) (tmps : Array Value) (w : World) (b o : Nat) (cs : List Value) (d : TypeDesc)
    (hp : tmps.getD p undef = .pointer (some ⟨b, o, none⟩)) (hc : w.rangeAt b o cs) (hu : P.underlying ty = some d) (hd : d.isRow = true) (hi : (P.info? ty).map (·.size) = some cs.length) :
    (results fn tmps).run P w = .ok (.tuple #[tmps.getD u undef, .agg cs.toArray]) w := by
  have hp' : tmps[p]?.getD undef = .pointer (some ⟨b, o, none⟩) := by simpa using hp
  simp [results, h, hp', asAddr, run_loadVar_mid w b o ty cs d hc hu hd hi]
/-- Where the document's machine finds a word: its number among all, or -1. -/
def plc (r : Fd) : Int := if r.t.cause = 0 ∧ hasW 4 r.f r.a = true then r.f * 16 + r.a else -1
theorem plc_trap {r : Fd} (h : r.t.cause ≠ 0) : plc r = -1 := if_neg fun e => h e.1
theorem plc_no {t : Tr} {f a : Int} (h : hasW 4 f a = false) : plc ⟨t, f, a⟩ = -1 := if_neg fun e => by have := e.2; rw [show hasW 4 f a = false from h] at this; cases this
theorem plc_yes {t : Tr} {f a : Int} (h : t.cause = 0) (hw : hasW 4 f a = true) : plc ⟨t, f, a⟩ = 16 * f + a := (if_pos ⟨h, hw⟩).trans (by show f * 16 + a = 16 * f + a; omega)
theorem plc_bd (r : Fd) : -1 ≤ plc r ∧ plc r < 64 := by
  unfold plc
  split
  · next h =>
    have := h.2
    simp only [hasW, decide_eq_true_eq] at this
    omega
  · omega
/-- The word there. -/
def rgw (xs : List Int) (p : Int) : Int := if p < 0 then 0 else xs.getD p.toNat 0
theorem rgw_plc (xs : List Int) (r : Fd) (h : r.t.cause = 0) : rgw xs (plc r) = getW 4 xs r.f r.a := by
  unfold plc getW
  cases hw : hasW 4 r.f r.a with
  | false => rw [if_neg (by simp), if_neg (by simp)]; rfl
  | true =>
    rw [if_pos ⟨h, rfl⟩, if_pos rfl]
    simp only [hasW, decide_eq_true_eq] at hw
    unfold rgw
    rw [if_neg (by omega), show (r.f * 16 + r.a).toNat = r.f.toNat * 16 + r.a.toNat by omega]

set_option maxHeartbeats 2000000 in
theorem rfind_c (bM bx cx : Nat) (xs : List Int) (A : Option Addr) (cA lo : Nat) (l : List En) (s addr : Int) (wr : Bool) (w : World) (h : RefAt w bM bx cx 4 xs A cA lo l) (hl8 : l.length ≤ 1000) (h0 : 0 ≤ addr) (h1 : addr ≤ 4294967295) :
    Calls Try.prog 24 #[.pointer (some ⟨bM, 0, none⟩), .int .i64 s, .int .u32 addr, .bool wr] w fun e w' => e = .returned (.tuple #[.int .i64 (plc (fnd l s addr wr)), .agg (fnd l s addr wr).t.vs.toArray]) ∧ But [] w w' := by
  obtain ⟨n, hn⟩ : ∃ n, n = l.length := ⟨_, rfl⟩
  have HN : Hid (n = l.length) := hn
  have hc0 := h.mem
  have hc1 := h.tlb
  rw [← hn] at hc1 hl8
  have HE : Hid (Ens w 0 A l) := h.ens.lower (Nat.zero_le _)
  have hbM : bM < w.heap.size := lt_of_cell hc0
  clear h hn
  obtain ⟨g, hg⟩ : ∃ g, g = w.heap.size := ⟨_, rfl⟩
  have HT : Hid (World.there _ _ _ _) := there_new w #[.int .i64 0, .int .i64 0, .bool false, .int .i64 0] 37 4 rfl
  have HGS : Hid (w.heap.size ≤ g) := by show _ ≤ g; omega
  go_enter Try.func24, Try.ntmps24
  go_wp2_with fail
  rw [HN.out]
  refine (Tl.rget_c A cA l s (addr / 64) _ (HE.out.keep ((But.refl [] w).alloc _) (by simp)) (by rw [← HN.out]; exact hl8)).mono ?_
  rintro e w1 ⟨rfl, k1⟩
  rw [← hg] at HT ⊢
  have HB : Hid (But [] w w1) := ((But.refl [] w).alloc _).trans k1
  have HT1 : Hid (w1.there g 0 4) := there_keep HT.out k1 (by simp)
  have x0 : w1.cell? ⟨bM, 0, none⟩ = some (.slice (some ⟨bx, 0, none⟩) (16 * 4) cx) := cell_keep hc0 HB.out (by simp)
  have hbM1 : bM < w1.heap.size := lt_of_cell x0
  have hg1 : g < w1.heap.size := lt_of_there HT1.out (by omega)
  clear k1 hc0 hc1 hbM HT HE hg
  have HS : Hid (∀ o : Obj, (w1.alloc o).there g 0 4) := fun o => there_keep HT1.out ((But.refl [] w1).alloc _) (by simp)
  have HK : Hid (∀ (o : Obj) (cs : List Value), But [] w ((w1.alloc o).setCells g 0 cs)) := fun o cs => but_fresh HB.out (((But.refl [g] w1).alloc o).setCells (by simp) cs 0) (by have := HGS.out; simp; omega)
  cases hge : getE s (addr / 64) l with
  | none =>
    have HF : Hid (fnd l s addr wr = ⟨⟨1, addr / 64, wr, 0⟩, 0, 0⟩) := by show _ = _; simp [fnd, hge]
    clear hge
    simp only [ansE]
    go_wp2_with (first
      | (refine wpList_store_mid rfl 37 _ _ rfl g 0 #[.int .i64 1, .int .i64 (addr / 64), .bool wr, .int .i64 0] rfl rfl ?ht Try.sizeTrap (Tr.vs_all ⟨1, addr / 64, wr, 0⟩) ?_; case ht => exact HS.out _))
    refine bodyPost_ret (results_tmp_cell rfl _ _ g 0 [.int .i64 1, .int .i64 (addr / 64), .bool wr, .int .i64 0] _ rfl (World.rangeAt_setCells_same _ _ _ _ (HS.out _)) Try.underlying37 rfl Try.sizeTrap) rfl ?_
    exact ⟨by rw [HF.out]; rfl, HK.out _ _⟩
  | some e =>
    obtain ⟨es, ep, ef, ew⟩ := e
    simp only [ansE]
    by_cases hgd : (wr && !ew) = true
    · obtain ⟨rfl, hew⟩ : wr = true ∧ ew = false := by cases wr <;> cases ew <;> simp_all
      subst hew
      have HF : Hid (fnd l s addr true = ⟨⟨2, addr / 64, true, 0⟩, 0, 0⟩) := by show _ = _; simp [fnd, hge]
      clear hge hgd
      go_wp2_with (first
        | (refine wpList_store_mid rfl 37 _ _ rfl g 0 #[.int .i64 2, .int .i64 (addr / 64), .bool true, .int .i64 0] rfl rfl ?ht Try.sizeTrap (Tr.vs_all ⟨2, addr / 64, true, 0⟩) ?_; case ht => exact HS.out _))
      refine bodyPost_ret (results_tmp_cell rfl _ _ g 0 [.int .i64 2, .int .i64 (addr / 64), .bool true, .int .i64 0] _ rfl (World.rangeAt_setCells_same _ _ _ _ (HS.out _)) Try.underlying37 rfl Try.sizeTrap) rfl ?_
      exact ⟨by rw [HF.out]; rfl, HK.out _ _⟩
    · have HF : Hid (fnd l s addr wr = ⟨tr0, ef, addr % 64 / 4⟩) := by show _ = _; simp [fnd, hge, hgd]
      have hcw : wr = false ∨ (wr = true ∧ ew = true) := by cases wr <;> cases ew <;> simp_all
      clear hge hgd
      by_cases hin : 0 ≤ ef ∧ ef < 4
      · have HP : Hid (plc ⟨tr0, ef, addr % 64 / 4⟩ = 16 * ef + addr % 64 / 4) := plc_yes rfl (by simp only [hasW, decide_eq_true_eq]; omega)
        obtain ⟨hi0, hi1⟩ := hin
        rcases hcw with rfl | ⟨rfl, rfl⟩
        all_goals
          go_wp2_with (first
            | (refine wpList_store_mid rfl 37 _ _ rfl g 0 #[.int .i64 0, .int .i64 0, .bool false, .int .i64 0] rfl rfl ?ht Try.sizeTrap (Tr.vs_all tr0) ?_; case ht => exact HS.out _))
          refine bodyPost_ret (results_tmp_cell rfl _ _ g 0 [.int .i64 0, .int .i64 0, .bool false, .int .i64 0] _ rfl (World.rangeAt_setCells_same _ _ _ _ (HS.out _)) Try.underlying37 rfl Try.sizeTrap) rfl ?_
          exact ⟨by rw [HF.out, HP.out]; rfl, HK.out _ _⟩
      · have HP : Hid (plc ⟨tr0, ef, addr % 64 / 4⟩ = -1) := plc_no (by simp only [hasW, decide_eq_false_iff_not]; omega)
        have hcs : ef < 0 ∨ 1000 < ef ∨ (4 ≤ ef ∧ ef ≤ 1000) := by omega
        clear hin
        rcases hcw with rfl | ⟨rfl, rfl⟩
        all_goals
          rcases hcs with hc | hc | ⟨hc, hc'⟩
          all_goals
            go_wp2_with (first
              | (refine wpList_store_mid rfl 37 _ _ rfl g 0 #[.int .i64 0, .int .i64 0, .bool false, .int .i64 0] rfl rfl ?ht Try.sizeTrap (Tr.vs_all tr0) ?_; case ht => exact HS.out _))
            refine bodyPost_ret (results_tmp_cell rfl _ _ g 0 [.int .i64 0, .int .i64 0, .bool false, .int .i64 0] _ rfl (World.rangeAt_setCells_same _ _ _ _ (HS.out _)) Try.underlying37 rfl Try.sizeTrap) rfl ?_
            exact ⟨by rw [HF.out, HP.out]; rfl, HK.out _ _⟩

theorem rgetm_c (bM bx cx : Nat) (xs : List Int) (A : Option Addr) (cA lo : Nat) (l : List En) (p : Int) (w : World) (h : RefAt w bM bx cx 4 xs A cA lo l) (hp : p < 64) :
    Calls Try.prog 26 #[.pointer (some ⟨bM, 0, none⟩), .int .i64 p] w fun e w' => e = .returned (.int .u32 (rgw xs p)) ∧ w = w' := by
  by_cases h0 : p < 0
  · have HR : Hid (rgw xs p = 0) := if_pos h0
    clear h
    go_enter Try.func26, Try.ntmps26
    go_wp2
    go_ret
    exact ⟨by rw [HR.out]; rfl, rfl⟩
  · obtain ⟨k, rfl⟩ := Int.eq_ofNat_of_zero_le (by omega : 0 ≤ p)
    have hc0 := h.mem
    have hck := (h.blk k (by rw [h.len]; omega)).1
    have HR : Hid (rgw xs (k : Int) = xs.getD k 0) := if_neg h0
    obtain ⟨x, hx⟩ : ∃ x, x = xs.getD k 0 := ⟨_, rfl⟩
    rw [← hx] at hck HR
    clear h hx
    go_enter Try.func26, Try.ntmps26
    go_wp2
    go_ret
    exact ⟨by rw [HR.out]; rfl, rfl⟩

theorem shl_more (a : Int) (k : Nat) : a * 2 ^ k % 4294967296 * 2 % 4294967296 = a * 2 ^ (k + 1) % 4294967296 := by
  rw [Int.pow_succ, ← Int.mul_assoc]
  generalize a * 2 ^ k = q
  omega
theorem shr_more (a : Int) (k : Nat) : a / 2 ^ k / 2 = a / 2 ^ (k + 1) := by
  rw [Int.pow_succ, Int.ediv_ediv_of_nonneg (Int.pow_nonneg (by omega))]
/-- What is reckoned, as far as k steps of a shift. -/
def shf (op a : Int) (k : Nat) : Int := if op = 11 then a * 2 ^ k % 4294967296 else a / 2 ^ k
theorem shf_zero (op a : Int) (h0 : 0 ≤ a) (h1 : a ≤ 4294967295) : shf op a 0 = a := by unfold shf; split <;> simp <;> omega
theorem shf_bd (op a : Int) (k : Nat) (h0 : 0 ≤ a) (h1 : a ≤ 4294967295) : 0 ≤ shf op a k ∧ shf op a k ≤ 4294967295 := by
  unfold shf
  split
  · generalize a * 2 ^ k = q; omega
  · exact ⟨Int.ediv_nonneg h0 (Int.pow_nonneg (by omega)), Int.le_trans (Int.ediv_le_self _ h0) h1⟩
set_option maxHeartbeats 4000000 in
theorem reckon_sh (op a b : Int) (w : World) (ho : op = 11 ∨ op = 12) (ha : 0 ≤ a ∧ a ≤ 4294967295) (hb : 0 ≤ b ∧ b ≤ 4294967295) :
    Calls Try.prog 29 #[.int .i64 op, .int .u32 a, .int .u32 b] w fun e w' => e = .returned (.tuple #[.int .u32 (rkP op a b b), .bool true]) ∧ w = w' := by
  obtain ⟨ha0, ha1⟩ := ha
  obtain ⟨hb0, hb1⟩ := hb
  obtain ⟨N, hN⟩ : ∃ N : Nat, N = (b % 32).toNat := ⟨_, rfl⟩
  have HR : Hid (rkP op a b b = shf op a N) := by show _ = _; rcases ho with rfl | rfl <;> rw [hN] <;> rfl
  have hNb : b % 32 = (N : Int) := by omega
  have hN32 : (N : Int) < 32 := by omega
  have H0 := shf_zero op a ha0 ha1
  have HS0 : Hid (a = shf op a 0) := H0.symm
  clear H0 hN
  go_enter Try.func29, Try.ntmps29
  rcases ho with rfl | rfl
  · go_wp2_with fail
    go_loopg [1, 8] N (fun g av nv wx => ∃ (k : Nat) (x : Int), k + g = N ∧ av = .int .u32 x ∧ nv = .int .u32 ((N : Int) - k) ∧ Hid (x = shf 11 a k) ∧ (0 ≤ x ∧ x ≤ 4294967295) ∧ wx = w)
    case atStart => exact ⟨0, a, by omega, rfl, by rw [hNb]; simp, HS0, ⟨ha0, ha1⟩, rfl⟩
    case round =>
      obtain ⟨k, x, hkg, rfl, rfl, HX, ⟨hx0, hx1⟩, rfl⟩ := hrel
      by_cases hk : k < N
      · have HX1 : Hid (x * 2 % 4294967296 = shf 11 a (k + 1)) := by show _ = _; rw [HX.out]; exact shl_more a k
        have hk' : (k : Int) < (N : Int) := by omega
        go_wp2
        go_roundg (N - (k + 1))
        case measure => omega
        case rel => exact ⟨k + 1, x * 2 % 4294967296, by omega, by go_num, by go_num, HX1, by omega, rfl⟩
      · obtain rfl : k = N := by omega
        go_wp2
        go_ret2
        exact ⟨by rw [HR.out, ← HX.out]; rfl, rfl⟩
  · go_wp2_with fail
    go_loopg [1, 8] N (fun g av nv wx => ∃ (k : Nat) (x : Int), k + g = N ∧ av = .int .u32 x ∧ nv = .int .u32 ((N : Int) - k) ∧ Hid (x = shf 12 a k) ∧ (0 ≤ x ∧ x ≤ 4294967295) ∧ wx = w)
    case atStart => exact ⟨0, a, by omega, rfl, by rw [hNb]; simp, HS0, ⟨ha0, ha1⟩, rfl⟩
    case round =>
      obtain ⟨k, x, hkg, rfl, rfl, HX, ⟨hx0, hx1⟩, rfl⟩ := hrel
      by_cases hk : k < N
      · have HX1 : Hid (x / 2 = shf 12 a (k + 1)) := by show _ = _; rw [HX.out]; exact shr_more a k
        have hk' : (k : Int) < (N : Int) := by omega
        go_wp2
        go_roundg (N - (k + 1))
        case measure => omega
        case rel => exact ⟨k + 1, x / 2, by omega, by go_num, by go_num, HX1, by omega, rfl⟩
      · obtain rfl : k = N := by omega
        go_wp2
        go_ret2
        exact ⟨by rw [HR.out, ← HX.out]; rfl, rfl⟩
set_option maxHeartbeats 4000000 in
theorem reckon_c (op a b : Int) (w : World) (h1 : 3 ≤ op ∧ op ≤ 13) (h7 : op ≠ 7) (ha : 0 ≤ a ∧ a ≤ 4294967295) (hb : 0 ≤ b ∧ b ≤ 4294967295) :
    Calls Try.prog 29 #[.int .i64 op, .int .u32 a, .int .u32 b] w fun e w' => e = .returned (.tuple #[.int .u32 (rkP op a b b), .bool true]) ∧ w = w' := by
  by_cases hs : op = 11 ∨ op = 12
  · exact reckon_sh op a b w hs ha hb
  obtain ⟨ha0, ha1⟩ := ha
  obtain ⟨hb0, hb1⟩ := hb
  have hop : op = 3 ∨ op = 4 ∨ op = 5 ∨ op = 6 ∨ op = 8 ∨ op = 9 ∨ op = 10 ∨ op = 13 := by omega
  clear h1 h7 hs
  rcases hop with rfl | rfl | rfl | rfl | rfl | rfl | rfl | rfl
  all_goals
    go_enter Try.func29, Try.ntmps29
    go_wp2
    go_ret2
    exact ⟨rfl, rfl⟩
theorem reckon_div (a b : Int) (w : World) (hne : ¬ b = 0) (ha : 0 ≤ a ∧ a ≤ 4294967295) (hb : 0 ≤ b ∧ b ≤ 4294967295) :
    Calls Try.prog 29 #[.int .i64 7, .int .u32 a, .int .u32 b] w fun e w' => e = .returned (.tuple #[.int .u32 (a / b), .bool true]) ∧ w = w' := by
  obtain ⟨ha0, ha1⟩ := ha
  obtain ⟨hb0, hb1⟩ := hb
  have hz : (b == 0) = false := by simp [hne]
  go_enter Try.func29, Try.ntmps29
  go_wp2
  go_ret2
  exact ⟨rfl, rfl⟩
theorem reckon_no (a : Int) (w : World) :
    Calls Try.prog 29 #[.int .i64 7, .int .u32 a, .int .u32 0] w fun e w' => e = .returned (.tuple #[.int .u32 0, .bool false]) ∧ w = w' := by
  go_enter Try.func29, Try.ntmps29
  go_wp2
  go_ret2
  exact ⟨rfl, rfl⟩
end Go.Proofs.Ytjlcncdhlcpklaa.Cp
