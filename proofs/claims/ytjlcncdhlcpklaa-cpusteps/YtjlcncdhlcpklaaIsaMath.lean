/-
  Plain mathematics of layer 2 (isa): which fields an Op has, which instructions may be, their words. Nothing of the program is named here.
-/
import Derived.Below
import Derived.Laws.BitsAllLaws
import Derived.Laws.BitsLemmas
namespace Go.Proofs.Ytjlcncdhlcpklaa
open Go.RowKit
set_option linter.unusedVariables false

def knB (op : Int) : Bool := decide (1 ≤ op) && decide (op ≤ 24)
def faB (op : Int) : Bool := knB op && !(decide (op = 18) || decide (op = 22) || decide (op = 24))
def fbB (op : Int) : Bool := (decide (3 ≤ op) && decide (op ≤ 12)) || ((decide (14 ≤ op) && decide (op ≤ 17)) || decide (op = 21))
def fiB (op : Int) : Bool := knB op && !(decide (3 ≤ op) && decide (op ≤ 12)) && !decide (op = 23)
def mayB (has : Bool) (n lo hi : Int) : Bool := if has then decide (lo ≤ n) && decide (n ≤ hi) else decide (n = 0)
def vldB (op a b i : Int) : Bool := knB op && mayB (faB op) a 0 15 && mayB (fbB op) b 0 15 && mayB (fiB op) i (-32768) 32767
/-- The four cells of an Op's row: known, A, B, Imm. -/
def rowB (op : Int) (k : Nat) : Bool := if k = 0 then knB op else if k = 1 then faB op else if k = 2 then fbB op else fiB op
/-- The hundred cells of a table that is filled. -/
def flB (k : Nat) : Bool := rowB ((k / 4 : Nat) : Int) (k % 4)

theorem op_cases (op : Int) : op < 1 ∨ 24 < op ∨ op = 1 ∨ op = 2 ∨ op = 3 ∨ op = 4 ∨ op = 5 ∨ op = 6 ∨ op = 7 ∨ op = 8 ∨ op = 9 ∨ op = 10 ∨ op = 11 ∨ op = 12 ∨ op = 13 ∨ op = 14 ∨ op = 15 ∨ op = 16 ∨ op = 17 ∨ op = 18 ∨ op = 19 ∨ op = 20 ∨ op = 21 ∨ op = 22 ∨ op = 23 ∨ op = 24 := by omega
theorem kn_lo (op : Int) (h : op < 1) : knB op = false ∧ faB op = false ∧ fbB op = false ∧ fiB op = false := by
  have h1 : decide (1 ≤ op) = false := by simp; omega
  have h3 : decide (3 ≤ op) = false := by simp; omega
  have h4 : decide (14 ≤ op) = false := by simp; omega
  have h5 : decide (op = 21) = false := by simp; omega
  simp [knB, faB, fbB, fiB, h1, h3, h4, h5]
theorem kn_hi (op : Int) (h : 24 < op) : knB op = false ∧ faB op = false ∧ fbB op = false ∧ fiB op = false := by
  have h1 : decide (op ≤ 24) = false := by simp; omega
  have h3 : decide (op ≤ 12) = false := by simp; omega
  have h4 : decide (op ≤ 17) = false := by simp; omega
  have h5 : decide (op = 21) = false := by simp; omega
  simp [knB, faB, fbB, fiB, h1, h3, h4, h5]
theorem row0 : rowB 0 0 = false ∧ rowB 0 1 = false ∧ rowB 0 2 = false ∧ rowB 0 3 = false := by decide
theorem flB_at (op : Nat) (k : Nat) (hk : k < 4) : flB (4 * op + k) = rowB (op : Int) k := by
  unfold flB
  rw [show (4 * op + k) / 4 = op by omega, show (4 * op + k) % 4 = k by omega]
/-- Some Ops' rows are laid. -/
def updB (f : Nat → Bool) (ops : List Int) (g : Nat → Bool) (k : Nat) : Bool := if ((k / 4 : Nat) : Int) ∈ ops then g (k % 4) else f k
/-- The four cells of a row, known. -/
def rowOf (a b i : Bool) (k : Nat) : Bool := if k = 0 then true else if k = 1 then a else if k = 2 then b else i
theorem upd_nil (f g : Nat → Bool) : updB f [] g = f := by funext k; simp [updB]
theorem upd_snoc (f g : Nat → Bool) (l : List Int) (q k : Nat) : updB f (l ++ [(q : Int)]) g k = if k / 4 = q then g (k % 4) else updB f l g k := by
  unfold updB
  by_cases h : k / 4 = q
  · rw [if_pos h, if_pos (by rw [h]; simp)]
  · rw [if_neg h]
    have e : (((k / 4 : Nat) : Int) ∈ l ++ [(q : Int)]) ↔ (((k / 4 : Nat) : Int) ∈ l) := by
      simp only [List.mem_append, List.mem_singleton]
      constructor
      · rintro (h' | h')
        · exact h'
        · exact absurd (by omega) h
      · exact .inl
    by_cases hm : ((k / 4 : Nat) : Int) ∈ l
    · rw [if_pos (e.2 hm), if_pos hm]
    · rw [if_neg (fun h' => hm (e.1 h')), if_neg hm]
def fillB : Nat → Bool :=
  updB (updB (updB (updB (updB (fun _ => false) [1, 2, 13, 19, 20] (rowOf true false true)) [3, 4, 5, 6, 7, 8, 9, 10, 11, 12] (rowOf true true false)) [14, 15, 16, 17, 21] (rowOf true true true)) [18, 22, 24] (rowOf false false true)) [23] (rowOf true false false)
theorem fillB_eq : ∀ k, k < 100 → fillB k = flB k := by decide

/-- The word of an instruction. -/
def encI (op a b i : Int) : Int := ((op * 16 + a) * 16 + b) * 65536 + i % 65536
def dopI (w : Int) : Int := w / 16777216
def daI (w : Int) : Int := w / 1048576 % 16
def dbI (w : Int) : Int := w / 65536 % 16
def diI (w : Int) : Int := if 32768 ≤ w % 65536 then w % 65536 - 65536 else w % 65536
theorem vld_bounds {op a b i : Int} (h : vldB op a b i = true) : (1 ≤ op ∧ op ≤ 24) ∧ (0 ≤ a ∧ a ≤ 15) ∧ (0 ≤ b ∧ b ≤ 15) ∧ (-32768 ≤ i ∧ i ≤ 32767) := by
  unfold vldB mayB knB at h
  simp only [Bool.and_eq_true] at h
  obtain ⟨⟨⟨⟨h1, h2⟩, h3⟩, h4⟩, h5⟩ := h
  refine ⟨⟨of_decide_eq_true h1, of_decide_eq_true h2⟩, ?_, ?_, ?_⟩
  · split at h3
    · simpa using h3
    · have := of_decide_eq_true h3; omega
  · split at h4
    · simpa using h4
    · have := of_decide_eq_true h4; omega
  · split at h5
    · simpa using h5
    · have := of_decide_eq_true h5; omega
theorem enc_bd {op a b i : Int} (h : vldB op a b i = true) : 0 ≤ encI op a b i ∧ encI op a b i ≤ 4294967295 := by
  obtain ⟨h1, h2, h3, h4⟩ := vld_bounds h
  unfold encI
  omega
theorem dec_enc {op a b i : Int} (h : vldB op a b i = true) : dopI (encI op a b i) = op ∧ daI (encI op a b i) = a ∧ dbI (encI op a b i) = b ∧ diI (encI op a b i) = i := by
  obtain ⟨h1, h2, h3, h4⟩ := vld_bounds h
  unfold dopI daI dbI diI encI
  refine ⟨by omega, by omega, by omega, ?_⟩
  split <;> omega
theorem enc_dec (w : Int) (h0 : 0 ≤ w) (h1 : w ≤ 4294967295) : encI (dopI w) (daI w) (dbI w) (diI w) = w := by
  unfold dopI daI dbI diI encI
  split <;> omega
theorem enc_inj {op a b i op' a' b' i' : Int} (h : vldB op a b i = true) (h' : vldB op' a' b' i' = true) (e : encI op a b i = encI op' a' b' i') : op = op' ∧ a = a' ∧ b = b' ∧ i = i' := by
  obtain ⟨x1, x2, x3, x4⟩ := dec_enc h
  obtain ⟨y1, y2, y3, y4⟩ := dec_enc h'
  rw [e] at x1 x2 x3 x4
  exact ⟨x1.symm.trans y1, x2.symm.trans y2, x3.symm.trans y3, x4.symm.trans y4⟩
end Go.Proofs.Ytjlcncdhlcpklaa
