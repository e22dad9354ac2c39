/-
  Numbers' texts, as plain functions: what they are worth, and what is read of them. (The plain part of AsmNum and AsmEq, for a program that does not hold the document's Read.)
-/
import Derived.Test.YtpnmnokedpagmaaGreatDoorAsmOps
namespace Go.Proofs.YtpnmnokedpagmaaGreatDoor
open Go.RowKit
set_option linter.unusedVariables false
set_option linter.unusedSimpArgs false
set_option maxRecDepth 20000

/-- The number that digits spell. -/
def digVal (l : Bs) (acc : Nat) : Nat := l.foldl (fun a c => 10 * a + (c.toNat - 48)) acc
theorem digVal_snoc (l : Bs) (c : UInt8) : digVal (l ++ [c]) 0 = 10 * digVal l 0 + (c.toNat - 48) := by simp [digVal]
def stripM (q : Bs) : Bs := Lib.trimPrefix q [45]
theorem strip_cons (c : UInt8) (t : Bs) : stripM (c :: t) = if c = 45 then t else c :: t := by
  unfold stripM Lib.trimPrefix Lib.hasPrefix
  by_cases h : c = 45
  · subst h; simp
  · have h' : ¬ (45 : UInt8) = c := fun e => h e.symm
    simp [h, h', List.isPrefixOf]
theorem digVal_cons (c : UInt8) (t : Bs) (acc : Nat) : digVal (c :: t) acc = digVal t (10 * acc + (c.toNat - 48)) := by unfold digVal; rw [List.foldl_cons]
theorem digVal_ge : ∀ (l : Bs) (acc : Nat), acc ≤ digVal l acc
  | [], acc => Nat.le_refl _
  | c :: t, acc => by rw [digVal_cons]; exact Nat.le_trans (by omega) (digVal_ge t _)
theorem parseM (M : Nat) (hM : M < 1844674407370955162) : ∀ (l : Bs) (acc : Nat), (∀ c ∈ l, digB c = true) → acc ≤ M → Lib.parseUintM M acc l = if digVal l acc ≤ M then .ok (digVal l acc) else .range
  | [], acc, _, ha => by rw [Lib.parseUintM]; exact (if_pos ha).symm
  | c :: t, acc, hd, ha => by
    have hc := hd c (List.mem_cons_self ..)
    simp [digB] at hc
    rw [Lib.parseUintM, if_pos hc, if_neg (by omega), digVal_cons]
    by_cases h : M < acc * 10 + (c.toNat - 48)
    · rw [if_pos h, if_neg]
      have := digVal_ge t (10 * acc + (c.toNat - 48))
      omega
    · rw [if_neg h, show acc * 10 + (c.toNat - 48) = 10 * acc + (c.toNat - 48) by omega]
      exact parseM M hM t _ (fun x hx => hd x (List.mem_cons_of_mem _ hx)) (by omega)

/-- What a number's text is worth. -/
def sval (p : Bs) : Int := if (stripM p).length < p.length then -((digVal (stripM p) 0 : Nat) : Int) else (digVal (stripM p) 0 : Nat)
theorem isNum_yes {p : Bs} (h : isNum p = true) : stripM p ≠ [] ∧ (∀ c ∈ stripM p, digB c = true) ∧ ((stripM p).head? = some 48 → p = [48]) := by
  unfold isNum at h
  change (match stripM p with | [] => false | c :: _ => if c = 48 then p == [48] else (stripM p).all digB) = true at h
  cases hs : stripM p with
  | nil => rw [hs] at h; cases h
  | cons c t =>
    rw [hs] at h
    by_cases hc : c = 48
    · simp [hc] at h
      subst h
      have : stripM [48] = [48] := by decide
      rw [this] at hs
      injection hs with h1 h2
      subst h1; subst h2
      exact ⟨by simp, by intro c hc; simp at hc; subst hc; decide, fun _ => rfl⟩
    · simp only [if_neg hc] at h
      exact ⟨by simp, fun x hx => List.all_eq_true.1 h x hx, fun e => by simp at e; exact absurd e hc⟩
theorem isNum_neg {p : Bs} (h : isNum p = true) (r : Bs) (hp : p = 45 :: r) : 1 ≤ digVal r 0 := by
  obtain ⟨h1, h2, h3⟩ := isNum_yes h
  have hs : stripM p = r := by rw [hp, strip_cons, if_pos rfl]
  rw [hs] at h1 h2 h3
  cases r with
  | nil => exact absurd rfl h1
  | cons c t =>
    have hc := h2 c (List.mem_cons_self ..)
    simp [digB] at hc
    have hc48 : c.toNat ≠ 48 := fun e => by
      have := h3 (by simp; exact UInt8.toNat_inj.1 e)
      rw [hp] at this; cases this
    rw [digVal_cons]
    exact Nat.le_trans (by omega) (digVal_ge t _)
theorem parse16 {p : Bs} (h : isNum p = true) : (match Lib.parseIntB 16 p with | .ok v => some v | _ => none) = if -32768 ≤ sval p ∧ sval p ≤ 32767 then some (sval p) else none := by
  obtain ⟨h1, h2, h3⟩ := isNum_yes h
  cases p with
  | nil => exact absurd rfl h1
  | cons c r =>
    by_cases hc : c = 45
    · subst hc
      have hs : stripM (45 :: r) = r := by rw [strip_cons, if_pos rfl]
      rw [hs] at h1 h2
      have hv : sval (45 :: r) = -((digVal r 0 : Nat) : Int) := by unfold sval; rw [hs, if_pos (by simp)]
      have hu : Lib.parseUintB 16 r = if digVal r 0 ≤ 65535 then .ok (digVal r 0) else .range := by unfold Lib.parseUintB; rw [if_neg h1]; exact parseM 65535 (by decide) r 0 h2 (by decide)
      rw [hv]
      by_cases h6 : digVal r 0 ≤ 65535
      · rw [if_pos h6] at hu
        by_cases h7 : 32768 < digVal r 0
        · rw [if_neg (by omega)]; simp [Lib.parseIntB, hu, h7]
        · rw [if_pos (by omega)]; simp [Lib.parseIntB, hu, h7]
      · rw [if_neg h6] at hu
        rw [if_neg (by omega)]; simp [Lib.parseIntB, hu]
    · have hs : stripM (c :: r) = c :: r := by rw [strip_cons, if_neg hc]
      rw [hs] at h1 h2
      have hv : sval (c :: r) = ((digVal (c :: r) 0 : Nat) : Int) := by unfold sval; rw [hs, if_neg (by omega)]
      have hd := h2 c (List.mem_cons_self ..)
      simp [digB] at hd
      have hu : Lib.parseUintB 16 (c :: r) = if digVal (c :: r) 0 ≤ 65535 then .ok (digVal (c :: r) 0) else .range := by unfold Lib.parseUintB; rw [if_neg h1]; exact parseM 65535 (by decide) (c :: r) 0 h2 (by decide)
      have n1 : ¬ c.toNat = 45 := by omega
      have n2 : ¬ c.toNat = 43 := by omega
      rw [hv]
      by_cases h6 : digVal (c :: r) 0 ≤ 65535
      · rw [if_pos h6] at hu
        by_cases h7 : 32768 ≤ digVal (c :: r) 0
        · rw [if_neg (by omega)]; simp [Lib.parseIntB, hu, h7, n1, n2]
        · rw [if_pos (by omega)]; simp [Lib.parseIntB, hu, h7, n1, n2]
      · rw [if_neg h6] at hu
        rw [if_neg (by omega)]; simp [Lib.parseIntB, hu, n1, n2]
theorem parse32 {p : Bs} (h : isNum p = true) : (match Lib.parseUintB 32 p with | .ok v => some (v : Int) | _ => none) = if 0 ≤ sval p ∧ sval p < 4294967296 then some (sval p) else none := by
  obtain ⟨h1, h2, h3⟩ := isNum_yes h
  cases p with
  | nil => exact absurd rfl h1
  | cons c r =>
    by_cases hc : c = 45
    · have h5 := isNum_neg h r (by rw [hc])
      subst hc
      have hs : stripM (45 :: r) = r := by rw [strip_cons, if_pos rfl]
      have hv : sval (45 :: r) = -((digVal r 0 : Nat) : Int) := by unfold sval; rw [hs, if_pos (by simp)]
      rw [hv, if_neg (by omega)]
      unfold Lib.parseUintB; rw [if_neg (by simp), Lib.parseUintM, if_neg (by decide)]
    · have hs : stripM (c :: r) = c :: r := by rw [strip_cons, if_neg hc]
      rw [hs] at h1 h2
      have hv : sval (c :: r) = ((digVal (c :: r) 0 : Nat) : Int) := by unfold sval; rw [hs, if_neg (by omega)]
      have hu : Lib.parseUintB 32 (c :: r) = if digVal (c :: r) 0 ≤ 4294967295 then .ok (digVal (c :: r) 0) else .range := by unfold Lib.parseUintB; rw [if_neg h1]; exact parseM 4294967295 (by decide) (c :: r) 0 h2 (by decide)
      rw [hu, hv]
      by_cases h6 : digVal (c :: r) 0 ≤ 4294967295
      · rw [if_pos h6]; simp only []; rw [if_pos (by omega)]
      · rw [if_neg h6]; simp only []; rw [if_neg (by omega)]

theorem immOf_num (L : Labs) (here op : Nat) (x : Bs) (hn : isNum x = true) : immOf L here op x = if -32768 ≤ sval x ∧ sval x ≤ 32767 then some (sval x) else none := by
  unfold immOf; rw [if_pos hn]; exact parse16 hn
theorem wordOf_num (L : Labs) (here : Nat) (q : Bs) (hn : isNum q = true) : wordOf L here [[119, 111, 114, 100], q] = if 0 ≤ sval q ∧ sval q < 4294967296 then some (sval q) else none := by
  unfold wordOf; simp only [if_true, hn]; exact parse32 hn
end Go.Proofs.YtpnmnokedpagmaaGreatDoor
