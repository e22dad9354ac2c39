/-
  Layer 1 (word), for the layers above: the document's own Flat and Words, over the translated program.
-/
import Derived.Test.YtjlcncdhlcpklaaWdBase
import Derived.Test.YtjlcncdhlcpklaaMem
import Derived.Deep.QuietTactic
import Derived.BigQuiet
import Derived.WalkSpells
import Derived.WalkSmall
namespace Go.Proofs.Ytjlcncdhlcpklaa.Wd
open Go.ChangeShapes Go.WideShapes Go.ChangeAt Go.RowKit
set_option linter.unusedVariables false
set_option maxRecDepth 20000

/-- Byte j of the bytes of numbers. -/
def flj (xs : List Int) (j : Nat) : Int := byt (xs.getD (j / 4) 0) ((j % 4 : Nat) : Int)
theorem flj_bd (xs : List Int) (j : Nat) : 0 ≤ flj xs j ∧ flj xs j ≤ 255 := byt_bd _ _
theorem flj_at (xs : List Int) (m q : Nat) (hq : q < 4) : flj xs (4 * m + q) = byt (xs.getD m 0) q := by
  unfold flj; rw [show (4 * m + q) / 4 = m by omega, show (4 * m + q) % 4 = q by omega]
theorem Try.infoU8 : (Try.prog.info? 5).map (fun i => (i.zero, i.size, i.bytes)) = some (some (.int .u8 0), 1, 1) := by kernel_rfl
theorem Try.infoU32 : (Try.prog.info? 24).map (fun i => (i.zero, i.size, i.bytes)) = some (some (.int .u32 0), 1, 4) := by kernel_rfl

theorem own_step {w1 : World} {B m : Nat} {e : TypeId} {k : IntKind} {f : Nat → Int} {v' : Value} {y : Int} (h : w1.ownsRow B e 1 v' (m + 1) ((tab m f).map (Value.int k) ++ [.int k y])) (hy : y = f m) :
    w1.ownsRow B e 1 v' (m + 1) ((tab (m + 1) f).map (Value.int k)) := by
  rw [tab_snoc, ← hy]; simpa using h

set_option maxHeartbeats 1000000 in
theorem rflat_c (A : Option Addr) (n c : Nat) (xs : List Int) (w : World) (hn : n = xs.length) (hr : Rd .u32 w 0 w.heap.size A xs) (hx : ∀ j, 0 ≤ xs.getD j 0 ∧ xs.getD j 0 ≤ 4294967295) (hm : n ≤ 100000) :
    Calls Try.prog 68 #[.slice A n c] w fun e w' => ∃ v, e = .returned v ∧ w'.ownsRow w.heap.size 5 1 v (4 * n) ((tab (4 * n) (flj xs)).map (Value.int .u8)) ∧ Below w.heap.size w w' := by
  obtain ⟨i0, hi, hz0, hz1, hz2⟩ := info_parts Try.infoU8
  have HN : Hid (n = xs.length) := hn
  have HX : Hid (∀ j, 0 ≤ xs.getD j 0 ∧ xs.getD j 0 ≤ 4294967295) := hx
  have HR : Hid (Rd .u32 w 0 w.heap.size A xs) := hr
  have HI : Hid (Try.prog.info? 5 = some i0) := hi
  have HZ0 : Hid (i0.zero = some (.int .u8 0)) := hz0
  have HZ1 : Hid (i0.size = 1) := hz1
  have HZ2 : Hid (i0.bytes = 1) := hz2
  clear hn hx hr hi hz0 hz1 hz2
  go_enter Try.func68, Try.ntmps68
  go_wp2
  go_loopw [3, 4] (fun v i wr => ∃ m : Nat, m ≤ n ∧ i = .int .i64 m ∧ wr.ownsRow w.heap.size 5 1 v (4 * m) ((tab (4 * m) (flj xs)).map (Value.int .u8)) ∧ Below w.heap.size w wr) (fun _ i _ => n - (intOf i).toNat)
  case atStart => exact ⟨0, Nat.zero_le _, rfl, World.ownsRow_nil _ _ _ _, Below.refl _ _⟩
  case round =>
    obtain ⟨m, hmn, rfl, hown, hbel⟩ := hrel
    by_cases hlt : m < n
    · have hlx : m < xs.length := by have := HN.out; omega
      obtain ⟨b, off, hA, _, hb, hcell⟩ := HR.out.at_ hlx
      obtain ⟨q, hq⟩ : ∃ q, q = xs.getD m 0 := ⟨_, rfl⟩
      have hcm := hcell m hlx
      rw [← hq] at hcm
      have hqb := HX.out m
      rw [← hq] at hqb
      obtain ⟨hq0, hq1⟩ := hqb
      subst hA
      have HQ : Hid (q = xs.getD m 0) := hq
      clear hcell hq hlx
      go_wp2
      go_loopw [3, 5] (fun v k wi => ∃ j : Nat, j ≤ 4 ∧ k = .int .i64 j ∧ wi.ownsRow w.heap.size 5 1 v (4 * m + j) ((tab (4 * m + j) (flj xs)).map (Value.int .u8)) ∧ Below w.heap.size w wi) (fun _ k _ => 4 - (intOf k).toNat)
      case atStart => exact ⟨0, Nat.zero_le _, rfl, hown, hbel⟩
      case round =>
        obtain ⟨j, hj4, rfl, hown2, hbel2⟩ := hrel
        have hsz := hbel2.size
        have hcw : wr.cell? ⟨b, off + m, none⟩ = some (.int .u32 q) := (hbel2.cell (p := ⟨b, off + m, none⟩) hb).trans hcm
        by_cases hj : j < 4
        · go_wp2_with fail
          refine (rbyte_c _ _ _ hq0 hq1).mono ?_
          rintro e w1 ⟨rfl, rfl⟩
          go_wp2_with (first
            | (at_builtin; refine wpList_append_own _ rfl _ _ 141 rfl w.heap.size 5 i0 (.int .u8 0) 1 1 Try.underlying141 HI.out HZ0.out HZ1.out HZ2.out rfl (by decide) _ _ _ rfl (hown2.alloc _) ⟨wr.heap.size, 0, none⟩ 1 1 [.int .u8 (byt q j)] rfl rfl (cell_one_new _ _ _) (one_int _ _) ?c3 ?c4 ?c5 ?_))
          case c3 => unfold maxLen; omega
          case c4 => omega
          case c5 => first | omega | (simp; omega)
          · intro v' w2 hown3 hgrow _
            have R := own_step hown3 (by rw [flj_at xs m j hj, ← HQ.out])
            have B2 : Below w.heap.size w w2 := (hbel2.alloc hsz _).grown hgrow (by simp; omega) (fun k h => (hown2.lt k h).1)
            clear hown3 hgrow
            go_wp2
            go_roundw
            case rel => exact ⟨j + 1, by omega, by go_num, R, B2⟩
            case measure => simp [intOf] <;> omega
        · obtain rfl : j = 4 := by omega
          go_wp2
          go_roundw
          case rel => exact ⟨m + 1, by omega, by go_num, hown2, hbel2⟩
          case measure => simp [intOf] <;> omega
    · obtain rfl : m = n := by omega
      go_wp2
      go_ret
      exact ⟨_, rfl, hown, hbel⟩
/-- The four bytes from 4 i on as a number, noughts behind the last ones. -/
def wdi (bs : List Int) (i : Nat) : Int := num4 (bs.getD (4 * i) 0) (bs.getD (4 * i + 1) 0) (bs.getD (4 * i + 2) 0) (bs.getD (4 * i + 3) 0)
/-- The bytes from place m on (of four) as a number. -/
def hi4 (bs : List Int) (i : Nat) : Nat → Int
  | 0 => wdi bs i
  | 1 => bs.getD (4 * i + 1) 0 + 256 * bs.getD (4 * i + 2) 0 + 65536 * bs.getD (4 * i + 3) 0
  | 2 => bs.getD (4 * i + 2) 0 + 256 * bs.getD (4 * i + 3) 0
  | 3 => bs.getD (4 * i + 3) 0
  | _ => 0
theorem hi4_step (bs : List Int) (i m : Nat) (hm : m < 4) : hi4 bs i m = hi4 bs i (m + 1) * 256 + bs.getD (4 * i + m) 0 := by
  have : m = 0 ∨ m = 1 ∨ m = 2 ∨ m = 3 := by omega
  rcases this with rfl | rfl | rfl | rfl <;> simp only [hi4, wdi, num4, Nat.add_zero] <;> omega
theorem hi4_bd (bs : List Int) (i m : Nat) (hb : ∀ j, 0 ≤ bs.getD j 0 ∧ bs.getD j 0 ≤ 255) : 0 ≤ hi4 bs i (m + 1) ∧ hi4 bs i (m + 1) ≤ 16777215 := by
  have h1 := hb (4 * i + 1); have h2 := hb (4 * i + 2); have h3 := hb (4 * i + 3)
  match m with
  | 0 => simp only [hi4]; omega
  | 1 => simp only [hi4]; omega
  | 2 => simp only [hi4]; omega
  | (m + 3) => simp only [hi4]; omega
theorem wdi_bd (bs : List Int) (i : Nat) (hb : ∀ j, 0 ≤ bs.getD j 0 ∧ bs.getD j 0 ≤ 255) : 0 ≤ wdi bs i ∧ wdi bs i ≤ 4294967295 :=
  num4_bd _ _ _ _ (hb _) (hb _) (hb _) (hb _)

set_option maxHeartbeats 1000000 in
theorem rwords_c (A : Option Addr) (n c : Nat) (bs : List Int) (w : World) (hn : n = bs.length) (hr : Rd .u8 w 0 w.heap.size A bs) (hx : ∀ j, 0 ≤ bs.getD j 0 ∧ bs.getD j 0 ≤ 255) (hm : n ≤ 100000) :
    Calls Try.prog 69 #[.slice A n c] w fun e w' => ∃ v, e = .returned v ∧ w'.ownsRow w.heap.size 24 1 v ((n + 3) / 4) ((tab ((n + 3) / 4) (wdi bs)).map (Value.int .u32)) ∧ Below w.heap.size w w' := by
  obtain ⟨i0, hi, hz0, hz1, hz2⟩ := info_parts Try.infoU32
  have HN : Hid (n = bs.length) := hn
  have HX : Hid (∀ j, 0 ≤ bs.getD j 0 ∧ bs.getD j 0 ≤ 255) := hx
  have HR : Hid (Rd .u8 w 0 w.heap.size A bs) := hr
  have HI : Hid (Try.prog.info? 24 = some i0) := hi
  have HZ0 : Hid (i0.zero = some (.int .u32 0)) := hz0
  have HZ1 : Hid (i0.size = 1) := hz1
  have HZ2 : Hid (i0.bytes = 4) := hz2
  clear hn hx hr hi hz0 hz1 hz2
  go_enter Try.func69, Try.ntmps69
  go_wp2
  go_loopw [3, 4] (fun v i wr => ∃ m : Nat, m ≤ (n + 3) / 4 ∧ i = .int .i64 (4 * m : Nat) ∧ wr.ownsRow w.heap.size 24 1 v m ((tab m (wdi bs)).map (Value.int .u32)) ∧ Below w.heap.size w wr) (fun _ i _ => (n + 3) - (intOf i).toNat)
  case atStart => exact ⟨0, Nat.zero_le _, rfl, World.ownsRow_nil _ _ _ _, Below.refl _ _⟩
  case round =>
    obtain ⟨m, hmn, rfl, hown, hbel⟩ := hrel
    have hsz := hbel.size
    by_cases hlt : 4 * m < n
    · have hlx : 4 * m < bs.length := by have := HN.out; omega
      obtain ⟨b, off, hA, _, hb, hcell⟩ := HR.out.at_ hlx
      subst hA
      have HC : Hid (∀ j, j < bs.length → wr.cell? ⟨b, off + j, none⟩ = some (.int .u8 (bs.getD j 0))) := fun j hj => (hbel.cell (p := ⟨b, off + j, none⟩) hb).trans (hcell j hj)
      clear hcell hlx
      go_wp2
      go_loop [5, 6] (fun a k => ∃ j : Nat, j ≤ 4 ∧ k = .int .i64 ((j : Int) - 1) ∧ a = .int .u32 (hi4 bs m j)) (fun _ k => (intOf k + 1).toNat)
      case atStart => exact ⟨4, by omega, rfl, rfl⟩
      case round =>
        obtain ⟨j, hj4, rfl, rfl⟩ := hrel
        rcases j with _ | j
        · rw [show (((0 : Nat) : Int) - 1) = -1 from rfl]
          go_wp2_with (first
            | (at_builtin; refine wpList_append_own _ rfl _ _ 22 rfl w.heap.size 24 i0 (.int .u32 0) 1 4 Try.underlying22 HI.out HZ0.out HZ1.out HZ2.out rfl (by decide) _ _ _ rfl (hown.alloc _) ⟨wr.heap.size, 0, none⟩ 1 1 [.int .u32 (hi4 bs m 0)] rfl rfl (cell_one_new _ _ _) (one_int _ _) ?c3 ?c4 ?c5 ?_))
          case c3 => unfold maxLen; omega
          case c4 => omega
          case c5 => first | omega | (simp; omega)
          · intro v' w2 hown3 hgrow _
            have R := own_step hown3 rfl
            have B2 : Below w.heap.size w w2 := (hbel.alloc hsz _).grown hgrow (by simp; omega) (fun k h => (hown.lt k h).1)
            clear hown3 hgrow
            go_wp2
            go_roundw
            case rel => exact ⟨m + 1, by omega, by go_num, R, B2⟩
            case measure => simp [intOf] <;> omega
        · rw [show (((j + 1 : Nat) : Int) - 1) = (j : Int) by omega]
          have hbd := hi4_bd bs m j HX.out
          obtain ⟨hb0, hb1⟩ := hbd
          have hst : Hid (hi4 bs m j = hi4 bs m (j + 1) * 256 + bs.getD (4 * m + j) 0) := hi4_step bs m j (by omega)
          by_cases hin : 4 * m + j < n
          · have hc := HC.out (4 * m + j) (by have := HN.out; omega)
            have hqb := HX.out (4 * m + j)
            obtain ⟨q, hq⟩ : ∃ q, q = bs.getD (4 * m + j) 0 := ⟨_, rfl⟩
            rw [← hq] at hc hqb
            obtain ⟨hq0, hq1⟩ := hqb
            have HQ : Hid (q = bs.getD (4 * m + j) 0) := hq
            clear hq
            go_wp2
            go_round
            case rel => exact ⟨j, by omega, by go_num, by rw [hst.out, ← HQ.out]⟩
            case measure => simp [intOf] <;> omega
          · have HQ : Hid (bs.getD (4 * m + j) 0 = 0) := by
              show bs.getD (4 * m + j) 0 = 0
              rw [List.getD_eq_getElem?_getD, List.getElem?_eq_none (by have := HN.out; omega)]; rfl
            go_wp2
            go_round
            case rel => exact ⟨j, by omega, by go_num, by rw [hst.out, HQ.out, Int.add_zero]⟩
            case measure => simp [intOf] <;> omega
    · obtain rfl : m = (n + 3) / 4 := by omega
      go_wp2
      go_ret
      exact ⟨_, rfl, hown, hbel⟩
end Go.Proofs.Ytjlcncdhlcpklaa.Wd
