/-
  Layer 12 (caps): how a tree lies in the machine's memory; contracts of there, cap, free, derived and Len, over the translated program.
-/
import Derived.Test.YtlppfcoclpdanaaCsMath
import Derived.Test.YtlppfcoclpdanaaSnHas
import Derived.Test.YtlppfcoclpdanaaSnInts
import Derived.ChangeKeysEq
import Derived.Deep.CutBlock
import Derived.Deep.DeepCutAuto
namespace Go.Proofs.Ytlppfcoclpdanaa.Cs
open Go.ChangeShapes Go.WideShapes Go.ChangeAt Go.RowKit
open Wh Sn
set_option linter.unusedVariables false
set_option maxRecDepth 20000

/-- A slice's block is none of these. -/
def Off (Z : List Nat) (A : Option Addr) (n : Nat) : Prop := ∀ g off, A = some ⟨g, off, none⟩ → n ≠ 0 → g ∉ Z
theorem Off.of_lo {w : World} {lo n : Nat} {A : Option Addr} {f : Nat → Bool} {Z : List Nat} (h : SetAt w lo A n f) (hz : ∀ z, z ∈ Z → z < lo) : Off Z A n := fun g off e h0 hm => by
  obtain ⟨g', off', e', h1, _⟩ := h.at_ (k := 0) (by omega)
  rw [e] at e'
  injection e' with e'
  injection e' with e' _ _
  subst e'
  have := hz _ hm
  omega
/-- The tree at block b: f tells its cells; no set of it lies in a block of Z. -/
structure TrAt (w : World) (b : Nat) (Z : List Nat) (T : Tr) (m : Nat) (f : Nat → Value) : Prop where
  vb : VB w b 193 f
  mem : b ∈ Z
  low : ∀ z, z ∈ Z → z < w.heap.size
  gen : ∀ p, p < 64 → f (p * 3) = .int .u64 (T p).gen
  par : ∀ p, p < 64 → f (p * 3 + 1) = .int .i64 (T p).par
  set : ∀ p, p < 64 → ∃ A n c, f (p * 3 + 2) = .slice A n c ∧ SetAt w 0 A n (T p).st ∧ Off Z A n
  made : f 192 = .int .u64 m
def TrA (w : World) (b : Nat) (Z : List Nat) (T : Tr) (m : Nat) : Prop := ∃ f, TrAt w b Z T m f
theorem TrAt.keep {l : List Nat} {w w' : World} {b m : Nat} {Z : List Nat} {T : Tr} {f : Nat → Value} (h : TrAt w b Z T m f) (k : But l w w') (hb : b ∉ l) (hl : ∀ x, x ∈ l → x ∈ Z) : TrAt w' b Z T m f :=
  ⟨h.vb.keep k hb, h.mem, fun z hz => Nat.lt_of_lt_of_le (h.low z hz) k.size, h.gen, h.par, fun p hp => by
    obtain ⟨A, n, c, e, h1, h2⟩ := h.set p hp
    exact ⟨A, n, c, e, h1.keep k (fun g off e0 h0 hm => h2 g off e0 h0 (hl g hm)), h2⟩, h.made⟩
theorem TrAt.keep0 {w w' : World} {b m : Nat} {Z : List Nat} {T : Tr} {f : Nat → Value} (h : TrAt w b Z T m f) (k : But [] w w') : TrAt w' b Z T m f := h.keep k (by simp) (by simp)
theorem TrA.keep {l : List Nat} {w w' : World} {b m : Nat} {Z : List Nat} {T : Tr} (h : TrA w b Z T m) (k : But l w w') (hb : b ∉ l) (hl : ∀ x, x ∈ l → x ∈ Z) : TrA w' b Z T m := by
  obtain ⟨f, hf⟩ := h
  exact ⟨f, hf.keep k hb hl⟩
theorem TrA.keep0 {w w' : World} {b m : Nat} {Z : List Nat} {T : Tr} (h : TrA w b Z T m) (k : But [] w w') : TrA w' b Z T m := h.keep k (by simp) (by simp)

/-- The places' cells. -/
def sv (f : Nat → Value) : List Value := (List.range 192).map f
theorem sv_len (f : Nat → Value) : (sv f).length = 192 := by simp [sv]
theorem sv_get (f : Nat → Value) (j : Nat) (h : j < 192) : (sv f)[j]? = some (f j) := by simp [sv, h]
theorem svs (f : Nat → Value) : (sv f).toArray.size = 192 := by simp [sv_len]
theorem szArr : (Try.prog.info? 71).map (·.size) = some 192 := by kernel_rfl
theorem iArr (f : Nat → Value) : (Try.prog.info? 71).map (·.size) = some (sv f).length := by rw [sv_len]; exact szArr
attribute [irreducible] sv
theorem TrAt.arr {w : World} {b m : Nat} {Z : List Nat} {T : Tr} {f : Nat → Value} (h : TrAt w b Z T m f) : w.rangeAt b 0 (sv f) :=
  h.vb.range (sv f) (by rw [sv_len]; omega) (fun i hi => by rw [sv_len] at hi; rw [sv_get f i hi, Nat.zero_add])
/-- A place of an array of places. -/
theorem idx_sv (f : Nat → Value) (j : Nat) (hj : j < 64) (w : World) : (Instr.index 71 (.agg (sv f).toArray) (.int .i64 j)).run Try.prog w = .ok (.agg #[f (j * 3), f (j * 3 + 1), f (j * 3 + 2)]) w := by
  have h1 := svs f
  obtain ⟨i0, hi⟩ : ∃ i0, Try.prog.info? 70 = some i0 := Option.isSome_iff_exists.1 (by kernel_rfl)
  have hs : i0.size = 3 := by
    have : (Try.prog.info? 70).map (·.size) = some 3 := by kernel_rfl
    rw [hi] at this
    simpa using this
  have e : List.take 3 (List.drop (j * 3) (sv f)) = [f (j * 3), f (j * 3 + 1), f (j * 3 + 2)] := by
    apply List.ext_getElem?
    intro i
    rcases Nat.lt_or_ge i 3 with h | h
    · rw [List.getElem?_take, if_pos h, List.getElem?_drop, sv_get f _ (by omega)]
      match i, h with
      | 0, _ => rfl
      | 1, _ => rfl
      | 2, _ => rfl
    · rw [List.getElem?_eq_none (by rw [List.length_take]; omega), List.getElem?_eq_none (by simpa using h)]
  simp [Instr.index, asIntOf, run_underlying Try.underlying71, hj, part, isAgg, run_underlying Try.underlying70, sizeOf, typeInfo, hi, hs, e]

theorem TrAt.cells {w : World} {b m : Nat} {Z : List Nat} {T : Tr} {f : Nat → Value} (h : TrAt w b Z T m f) {p : Nat} (hp : p < 64) :
    w.cell? ⟨b, p * 3, none⟩ = some (.int .u64 (T p).gen) ∧ w.cell? ⟨b, p * 3 + 1, none⟩ = some (.int .i64 (T p).par) ∧ ∃ A n c, f (p * 3 + 2) = .slice A n c ∧ w.cell? ⟨b, p * 3 + 2, none⟩ = some (.slice A n c) ∧ SetAt w 0 A n (T p).st ∧ Off Z A n := by
  obtain ⟨A, n, c, e, h1, h2⟩ := h.set p hp
  refine ⟨?_, ?_, A, n, c, e, ?_, h1, h2⟩
  · rw [(h.vb (p * 3) (by omega)).1, h.gen p hp]
  · rw [(h.vb (p * 3 + 1) (by omega)).1, h.par p hp]
  · rw [(h.vb (p * 3 + 2) (by omega)).1, e]
set_option maxHeartbeats 1000000 in
theorem there_c (b m : Nat) (Z : List Nat) (T : Tr) (f : Nat → Value) (at_ : Int) (g : Nat) (w : World) (h : TrAt w b Z T m f) :
    Calls Try.prog 37 #[.pointer (some ⟨b, 0, none⟩), .agg #[.int .i64 at_, .int .u64 g]] w fun e w' => e = .returned (.bool (isB T at_ g)) ∧ But [] w w' := by
  obtain ⟨B, hB⟩ : ∃ B, B = w.heap.size := ⟨_, rfl⟩
  have HK0 : Hid (But [] w (w.alloc (.cells #[.int .i64 at_, .int .u64 g] 26))) := (But.refl [] w).alloc _
  have H1 := hid (h.keep0 HK0.out)
  have hc1 : (w.alloc (.cells #[.int .i64 at_, .int .u64 g] 26)).cell? ⟨B, 0, none⟩ = some (.int .i64 at_) := by rw [hB]; simp
  have hc2 : (w.alloc (.cells #[.int .i64 at_, .int .u64 g] 26)).cell? ⟨B, 1, none⟩ = some (.int .u64 g) := by rw [hB]; simp
  by_cases h0 : at_ < 0
  · have e : isB T at_ g = false := by unfold isB; rw [decide_eq_false (by omega)]; rfl
    rw [e]
    have hd : decide (0 ≤ at_) = false := decide_eq_false (by omega)
    clear h e
    go_enter Try.func37, Try.ntmps37
    go_upto_region 1 with fail
    rw [← hB]
    generalize w.alloc (.cells #[.int .i64 at_, .int .u64 g] 26) = w1 at *
    clear hB
    go_quiet (fail)
    go_wp2
    go_ret
    exact ⟨rfl, HK0.out.drewN _⟩
  obtain ⟨a, rfl⟩ : ∃ a : Nat, at_ = a := ⟨at_.toNat, by omega⟩
  have hd : decide ((0 : Int) ≤ (a : Int)) = true := decide_eq_true (by omega)
  by_cases h1 : 64 ≤ a
  · have e : isB T a g = false := by unfold isB; rw [decide_eq_false (show ¬ (a : Int) < 64 by omega), Bool.and_false]; rfl
    rw [e]
    have hd1 : decide ((a : Int) < 64) = false := decide_eq_false (by omega)
    clear h e
    go_enter Try.func37, Try.ntmps37
    go_upto_region 1 with fail
    rw [← hB]
    generalize w.alloc (.cells #[.int .i64 a, .int .u64 g] 26) = w1 at *
    clear hB
    go_quiet (fail)
    go_wp2
    go_ret
    exact ⟨rfl, HK0.out.drewN _⟩
  have h1' : a < 64 := by omega
  have hd1 : decide ((a : Int) < 64) = true := decide_eq_true (by omega)
  by_cases h2 : g = 0
  · subst h2
    have e : isB T a 0 = false := by unfold isB; rw [decide_eq_false (show ¬ 0 < 0 by omega), Bool.and_false]; rfl
    rw [e]
    have hd2 : decide ((0 : Int) < ((0 : Nat) : Int)) = false := rfl
    clear h e
    go_enter Try.func37, Try.ntmps37
    go_upto_region 1 with fail
    rw [← hB]
    generalize w.alloc (.cells #[.int .i64 a, .int .u64 (0 : Nat)] 26) = w1 at *
    clear hB
    go_quiet (fail)
    go_wp2
    go_ret
    exact ⟨rfl, HK0.out.drewN _⟩
  have hd2 : decide ((0 : Int) < (g : Int)) = true := decide_eq_true (by omega)
  have hd2' : decide (0 < g) = true := decide_eq_true (by omega)
  obtain ⟨hcg, -, -⟩ := H1.out.cells h1'
  by_cases h3 : (T a).gen = g
  · have e : isB T a g = true := isB_nat h1' (by omega) h3
    rw [e]
    rw [h3] at hcg
    have hd3 : ((g : Int) == (g : Int)) = true := by simp
    clear h e h3
    go_enter Try.func37, Try.ntmps37
    go_upto_region 1 with fail
    rw [← hB]
    generalize w.alloc (.cells #[.int .i64 a, .int .u64 g] 26) = w1 at *
    clear hB
    go_quiet (fail)
    go_wp2
    go_ret
    exact ⟨rfl, HK0.out.drewN _⟩
  · have e : isB T a g = false := by unfold isB; rw [Int.toNat_natCast, decide_eq_false h3, Bool.and_false]
    rw [e]
    have hd3 : (((T a).gen : Int) == (g : Int)) = false := by simp; omega
    generalize (T a).gen = x at hcg hd3
    clear h e h3
    go_enter Try.func37, Try.ntmps37
    go_upto_region 1 with fail
    rw [← hB]
    generalize w.alloc (.cells #[.int .i64 a, .int .u64 g] 26) = w1 at *
    clear hB
    go_quiet (fail)
    go_wp2
    go_ret
    exact ⟨rfl, HK0.out.drewN _⟩
set_option maxHeartbeats 1000000 in
theorem there_nil (at_ : Int) (g : Nat) (w : World) :
    Calls Try.prog 37 #[.pointer none, .agg #[.int .i64 at_, .int .u64 g]] w fun e w' => e = .returned (.bool false) ∧ But [] w w' := by
  have HK0 : Hid (But [] w (w.alloc (.cells #[.int .i64 at_, .int .u64 g] 26))) := (But.refl [] w).alloc _
  go_enter Try.func37, Try.ntmps37
  go_upto_region 1 with fail
  generalize w.alloc (.cells #[.int .i64 at_, .int .u64 g] 26) = w1 at *
  go_quiet (fail)
  go_wp2
  go_ret
  exact ⟨rfl, HK0.out.drewN _⟩
end Go.Proofs.Ytlppfcoclpdanaa.Cs
