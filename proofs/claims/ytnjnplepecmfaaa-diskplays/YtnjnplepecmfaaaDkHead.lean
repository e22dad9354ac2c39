/-
  Layer 8 (disk): what the statements' walks share.
-/
import Derived.Test.YtnjnplepecmfaaaDkDoes
import Derived.Test.YtnjnplepecmfaaaDkAwake
namespace Go.Proofs.Ytnjnplepecmfaaa.Dk
open Go.ChangeShapes Go.WideShapes Go.ChangeAt Go.RowKit
set_option linter.unusedVariables false
set_option maxRecDepth 20000

theorem DkAt.lower {tw : TypeId} {w : World} {lo lo' b bl cl n : Nat} {v : Value} {L : Nat → Dat} {W : List Wr} (h : DkAt tw w lo b bl cl n v L W) (hl : lo' ≤ lo) : DkAt tw w lo' b bl cl n v L W :=
  ⟨Nat.le_trans hl h.lob, Nat.le_trans hl h.lol, h.ne, h.hd, h.rows, own_base h.own hl, h.vne, h.inn, h.pos, h.most⟩
/-- Two new disks. -/
theorem st_new {w1 w2 : World} {lo b bl cl b' bl' cl' n : Nat} (h1 : DkAt tP w1 lo b bl cl n (.slice none 0 0) L0 []) (h2 : DkAt tR w2 w1.heap.size b' bl' cl' n (.slice none 0 0) L0 []) (hk : But [] w1 w2) (hlo : lo ≤ w1.heap.size) :
    St w2 lo b bl cl (.slice none 0 0) b' bl' cl' (.slice none 0 0) n L0 [] :=
  ⟨h1.keep0 hk, h2.lower hlo, fun k hm hm' => by
    have a1 := h1.lt hm
    have a2 := h2.low hm'
    omega⟩
/-- One of the deeds that came in. -/
theorem deed_at {w wr : World} {A : Option Addr} {len lo j : Nat} (hlo : w.heap.size ≤ lo) (HR : len = 0 ∨ ∃ b off, A = some ⟨b, off, none⟩ ∧ b < w.heap.size ∧ ∀ i, i < len → ∃ vs, w.rangeAt b (off + i * 4) vs ∧ DeedOk w vs) (hb : Below w.heap.size w wr) (hj : j < len) :
    ∃ (b off : Nat) (K B : Int) (AX : Option Addr) (cX : Nat) (xs : List Int) (AK : Option Addr) (cK : Nat) (ks : List Bool), A = some ⟨b, off, none⟩ ∧ wr.rangeAt b (off + j * 4) [.int .i64 K, .int .i64 B, .slice AX xs.length cX, .slice AK ks.length cK] ∧
      Rd .u8 wr 0 lo AX xs ∧ xs.length ≤ 9223372036854775807 ∧ BlL wr lo AK ks ∧ ks.length ≤ maxLen := by
  obtain ⟨b, off, hA, hbl, hall⟩ : ∃ b off, A = some ⟨b, off, none⟩ ∧ b < w.heap.size ∧ ∀ i, i < len → ∃ vs, w.rangeAt b (off + i * 4) vs ∧ DeedOk w vs := by
    rcases HR with h | h
    · omega
    · exact h
  obtain ⟨vs, hr, K, B, AX, cX, xs, AK, cK, ks, rfl, h1, h2, h3, h4⟩ := hall j hj
  refine ⟨b, off, K, B, AX, cX, xs, AK, cK, ks, hA, fun i u hu => (hb.cell (p := ⟨b, off + j * 4 + i, none⟩) hbl).trans (hr i u hu), (h1.keep hb).wider (Nat.le_refl _) hlo, h2, ?_, h4⟩
  rcases h3 with h3 | ⟨g, o, e, hg, hc⟩
  · exact .inl h3
  · exact .inr ⟨g, o, e, by omega, fun i hi => (hb.cell (p := ⟨g, o + i, none⟩) hg).trans (hc i hi)⟩
theorem infoDeed : (Try.prog.info? 31).map (·.size) = some 4 := by kernel_rfl
/-- A write, of whatever number. -/
theorem write_any {w : World} {lo b bl cl n : Nat} {v : Value} {L : Nat → Dat} {W : List Wr} (k : Int) (x : Dat) (h : DkAt tP w lo b bl cl n v L W) (hW : W.length ≤ 1000) (hlo : lo ≤ w.heap.size) :
    Calls Try.prog 17 #[.pointer (some ⟨b, 0, none⟩), .int .i64 k, .agg (dv x).toArray] w fun e w' =>
      e = .returned (.bool (inB n k)) ∧ ∃ v' W', DkAt tP w' lo b bl cl n v' L W' ∧ But (fp b bl v) w w' ∧ (∀ g ∈ fp b bl v', g ∈ fp b bl v ∨ w.heap.size ≤ g) ∧ W' = (if inB n k then W ++ [(k.toNat, x)] else W) := by
  cases hin : inB n k with
  | true =>
    obtain ⟨j, rfl, hj⟩ := inB_of hin
    refine (write_c j x h hj hW hlo).mono ?_
    rintro e w' ⟨rfl, v', h1, h2, h3⟩
    exact ⟨rfl, v', _, h1, h2, h3, by simp⟩
  | false =>
    refine (write_no k x h hin).mono ?_
    rintro e w' ⟨rfl, h2⟩
    exact ⟨rfl, v, W, h.keep0 h2, h2.wider (by simp), fun g hg => .inl hg, by simp⟩
theorem wany_len {n : Nat} {k : Int} {x : Dat} {W : List Wr} : (if inB n k then W ++ [(k.toNat, x)] else W).length ≤ W.length + 1 := by
  split <;> simp
theorem and7 (x : Int) : bits .and .i64 x 7 = x % 8 := by
  have key : (BitVec.ofInt 64 x &&& BitVec.ofInt 64 7).toNat = (x % ((2 ^ 64 : Nat) : Int)).toNat % 2 ^ 3 := by
    rw [BitVec.toNat_and, BitVec.toNat_ofInt, show (BitVec.ofInt 64 7).toNat = 2 ^ 3 - 1 by decide, Nat.and_two_pow_sub_one_eq_mod]
  show IntKind.i64.wrap ((BitVec.ofInt 64 x &&& BitVec.ofInt 64 7).toNat : Nat) = x % 8
  rw [key]
  have e : (((x % ((2 ^ 64 : Nat) : Int)).toNat % 2 ^ 3 : Nat) : Int) = x % 8 := by omega
  rw [e]
  have : x % 8 = 0 ∨ x % 8 = 1 ∨ x % 8 = 2 ∨ x % 8 = 3 ∨ x % 8 = 4 ∨ x % 8 = 5 ∨ x % 8 = 6 ∨ x % 8 = 7 := by omega
  rcases this with h | h | h | h | h | h | h | h <;> rw [h] <;> rfl
/-- What Read tells, of whatever number. -/
theorem read_any {w : World} {lo b bl cl n : Nat} {v : Value} {L : Nat → Dat} {W : List Wr} (k : Int) (h : DkAt tP w lo b bl cl n v L W) (hW : W.length ≤ 1000) :
    Calls Try.prog 12 #[.pointer (some ⟨b, 0, none⟩), .int .i64 k] w fun e w' => ∃ y, e = .returned (.tuple #[.agg (dv y).toArray, .bool (inB n k)]) ∧ But [] w w' := by
  cases hin : inB n k with
  | true =>
    obtain ⟨j, rfl, hj⟩ := inB_of hin
    refine (read_c j h hj hW).mono ?_
    rintro e w' ⟨rfl, h2⟩
    exact ⟨_, rfl, h2⟩
  | false =>
    refine (read_no k h hin).mono ?_
    rintro e w' ⟨rfl, h2⟩
    exact ⟨_, rfl, h2⟩
def Bools (w : World) (A : Option Addr) (len cap : Nat) : Prop := ∃ ks : List Bool, ks.length = len ∧ Bl w A ks ∧ len ≤ maxLen
theorem bools_open {H : Type} {enc : TypeId × Value → H} {w : World} {A : Option Addr} {len cap : Nat} {d : DataW H} {p : List MemPlace} (h : DataW.Trod enc Try.prog w 0 (fun _ => true) true 29 (.slice A len cap) d p) : Bools w A len cap := by
  have r := rowOf_open Try.underlying29 flatBool (by decide) h
  obtain ⟨ks, h1, h2⟩ := bools_of r
  exact ⟨ks, h1, h2, Nat.le_trans r.1 r.2.1⟩
theorem Bl.below {w w' : World} {A : Option Addr} {ks : List Bool} (h : Bl w A ks) (hb : Below w.heap.size w w') : Bl w' A ks := h.keep (But.of_below (l := []) hb) (by simp)
theorem deed_lt {w : World} {b off len j : Nat} (HR : len = 0 ∨ ∃ b' off', some (⟨b, off, none⟩ : Addr) = some ⟨b', off', none⟩ ∧ b' < w.heap.size ∧ ∀ i, i < len → ∃ vs, w.rangeAt b' (off' + i * 4) vs ∧ DeedOk w vs) (hj : j < len) : b < w.heap.size := by
  rcases HR with h | ⟨b', off', e, h, -⟩
  · omega
  · injection e with e
    injection e with e
    omega
theorem n_keep {w w' : World} {g g2 : Nat} {cs : List Value} {u1 u2 : Value} (h : w.rangeAt g2 0 cs ∧ w.cell? ⟨g, 1, none⟩ = some u1 ∧ w.cell? ⟨g, 3, none⟩ = some u2) (hk : But [] w w') : w'.rangeAt g2 0 cs ∧ w'.cell? ⟨g, 1, none⟩ = some u1 ∧ w'.cell? ⟨g, 3, none⟩ = some u2 :=
  ⟨range_keep h.1 hk (by simp), cell_keep h.2.1 hk (by simp), cell_keep h.2.2 hk (by simp)⟩
/-- A deed's data. -/
structure Dd where
  K : Int
  B : Int
  AX : Option Addr
  cX : Nat
  xs : List Int
  AK : Option Addr
  cK : Nat
  ks : List Bool
def Dd.vs (d : Dd) : List Value := [.int .i64 d.K, .int .i64 d.B, .slice d.AX d.xs.length d.cX, .slice d.AK d.ks.length d.cK]
/-- .. as it lies in memory. -/
structure DdAt (w : World) (lo b off j : Nat) (d : Dd) : Prop where
  row : w.rangeAt b (off + j * 4) d.vs
  x : Rd .u8 w 0 lo d.AX d.xs
  xl : d.xs.length ≤ 9223372036854775807
  p : BlL w lo d.AK d.ks
  pl : d.ks.length ≤ maxLen
theorem DdAt.keep {w w' : World} {lo b off j : Nat} {d : Dd} (h : DdAt w lo b off j d) (hb : Below lo w w') (hl : b < lo) : DdAt w' lo b off j d :=
  ⟨fun i u hu => (hb.cell (p := ⟨b, off + j * 4 + i, none⟩) hl).trans (h.row i u hu), h.x.keep hb, h.xl, h.p.keep hb, h.pl⟩
/-- All deeds that came in, by a function. -/
theorem deeds_fun {w : World} {A : Option Addr} {len : Nat} (HR : len = 0 ∨ ∃ b off, A = some ⟨b, off, none⟩ ∧ b < w.heap.size ∧ ∀ i, i < len → ∃ vs, w.rangeAt b (off + i * 4) vs ∧ DeedOk w vs) :
    ∃ f : Nat → Dd, len = 0 ∨ ∃ b off, A = some ⟨b, off, none⟩ ∧ b < w.heap.size ∧ ∀ i, i < len → DdAt w w.heap.size b off i (f i) := by
  rcases HR with h | ⟨b, off, hA, hb, hall⟩
  · exact ⟨fun _ => ⟨0, 0, none, 0, [], none, 0, []⟩, .inl h⟩
  · have H : ∀ i, i < len → ∃ d : Dd, DdAt w w.heap.size b off i d := fun i hi => by
      obtain ⟨vs, hr, K, B, AX, cX, xs, AK, cK, ks, rfl, h1, h2, h3, h4⟩ := hall i hi
      refine ⟨⟨K, B, AX, cX, xs, AK, cK, ks⟩, hr, h1, h2, ?_, h4⟩
      rcases h3 with h3 | ⟨g, o, e, hg, hc⟩
      · exact .inl h3
      · exact .inr ⟨g, o, e, hg, hc⟩
    refine ⟨fun i => if hi : i < len then (H i hi).choose else ⟨0, 0, none, 0, [], none, 0, []⟩, .inr ⟨b, off, hA, hb, fun i hi => ?_⟩⟩
    simp only [dif_pos hi]
    exact (H i hi).choose_spec
end Go.Proofs.Ytnjnplepecmfaaa.Dk
