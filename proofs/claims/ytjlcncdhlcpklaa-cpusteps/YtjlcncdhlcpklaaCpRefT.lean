/-
  Layer 6 (cpu): the document's machine: the contract of its Step: it answers as the plain step does.
-/
import Derived.Test.YtjlcncdhlcpklaaCpRefS2
import Derived.Test.YtjlcncdhlcpklaaCpRefS3
namespace Go.Proofs.Ytjlcncdhlcpklaa.Cp
open Go.ChangeShapes Go.WideShapes Go.ChangeAt Go.RowKit
open Fr (MemAt Blk hasW hasF) 
open Tl (En TlbAt Ens getE misE ansE en0)
set_option linter.unusedVariables false
set_option maxRecDepth 20000

theorem rstep_c (bM bx cx : Nat) (xs : List Int) (A : Option Addr) (cA lo : Nat) (l : List En) (s : Int) (c : List Int) (w : World) (h : RefAt w bM bx cx 4 xs A cA lo l) (hl8 : l.length ≤ 1000) (hux : U32s xs) (hl : c.length = 17) (hu : U32s c) :
    Calls Try.prog 9 #[.pointer (some ⟨bM, 0, none⟩), .int .i64 s, .agg (cvl c).toArray] w fun e w' => e = .returned (stepP 4 xs l s c).ans ∧ RefAt w' bM bx cx 4 (stepP 4 xs l s c).xs A cA lo l ∧ But [bx] w w' := by
  by_cases hal : c.getD 16 0 % 4 = 0
  case neg => exact rst_al bM bx cx xs A cA lo l s c w h hl8 hux hl hu hal
  obtain ⟨r, hr⟩ : ∃ r, fnd l s (c.getD 16 0) false = r := ⟨_, rfl⟩
  by_cases h0 : r.t.cause = 0
  case neg => exact rst_tr bM bx cx xs A cA lo l s c w h hl8 hux hl hu hal r hr h0
  obtain ⟨v, hv⟩ : ∃ v, getW 4 xs r.f r.a = v := ⟨_, rfl⟩
  cases hn : vldD v with
  | false => exact rst_il bM bx cx xs A cA lo l s c w h hl8 hux hl hu hal r hr h0 v hv hn
  | true =>
    have hvb := vldD_bounds v
    rw [hn] at hvb
    obtain ⟨⟨o1, o2⟩, ⟨a1, a2⟩, ⟨b1, b2⟩, hib⟩ := vld_bounds hvb
    obtain ⟨a, hea⟩ := Int.eq_ofNat_of_zero_le a1
    obtain ⟨b, heb⟩ := Int.eq_ofNat_of_zero_le b1
    obtain ⟨o, ho⟩ : ∃ o, doR v = o := ⟨_, rfl⟩
    obtain ⟨i, hi⟩ : ∃ i, diR v = i := ⟨_, rfl⟩
    rw [ho] at o1 o2
    rw [hi] at hib
    have ha : a < 16 := by omega
    have hb : b < 16 := by omega
    have hc : o = 1 ∨ o = 2 ∨ o = 7 ∨ o = 13 ∨ (14 ≤ o ∧ o ≤ 17) ∨ (18 ≤ o ∧ o ≤ 22) ∨ o = 23 ∨ o = 24 ∨ ((3 ≤ o ∧ o ≤ 12) ∧ o ≠ 7) := by omega
    rcases hc with hc | hc | hc | hc | hc | hc | hc | hc | ⟨hc, h7⟩
    · exact rst_set bM bx cx xs A cA lo l s c w h hl8 hux hl hu hal r hr h0 v hv hn o a b i ho hea heb hi ha hb hib hc
    · exact rst_high bM bx cx xs A cA lo l s c w h hl8 hux hl hu hal r hr h0 v hv hn o a b i ho hea heb hi ha hb hib hc
    · by_cases hs : c.getD b 0 = 0
      · exact rst_div0 bM bx cx xs A cA lo l s c w h hl8 hux hl hu hal r hr h0 v hv hn o a b i ho hea heb hi ha hb hib hc hs
      · exact rst_div bM bx cx xs A cA lo l s c w h hl8 hux hl hu hal r hr h0 v hv hn o a b i ho hea heb hi ha hb hib hc hs
    · exact rst_addi bM bx cx xs A cA lo l s c w h hl8 hux hl hu hal r hr h0 v hv hn o a b i ho hea heb hi ha hb hib hc
    · exact rst_mem bM bx cx xs A cA lo l s c w h hl8 hux hl hu hal r hr h0 v hv hn o a b i ho hea heb hi ha hb hib hc
    · exact rst_jmp bM bx cx xs A cA lo l s c w h hl8 hux hl hu hal r hr h0 v hv hn o a b i ho hea heb hi ha hb hib hc
    · exact rst_ret bM bx cx xs A cA lo l s c w h hl8 hux hl hu hal r hr h0 v hv hn o a b i ho hea heb hi ha hb hib hc
    · by_cases hs : i < 0
      · exact rst_sysn bM bx cx xs A cA lo l s c w h hl8 hux hl hu hal r hr h0 v hv hn o a b i ho hea heb hi ha hb hib hc hs
      · exact rst_sysp bM bx cx xs A cA lo l s c w h hl8 hux hl hu hal r hr h0 v hv hn o a b i ho hea heb hi ha hb hib hc hs
    · exact rst_rk bM bx cx xs A cA lo l s c w h hl8 hux hl hu hal r hr h0 v hv hn o a b i ho hea heb hi ha hb hib hc h7
end Go.Proofs.Ytjlcncdhlcpklaa.Cp
