/-
  Numbers that lie at a slice; the contract of the document's SameInts (layer 10), over the translated program. (As SnInts, but for seats that hold nothing else of layer 10.)
-/
import Derived.Test.YtiklneamdfgahaaWhole
import Derived.Test.YtiklneamdfgahaaChecked
import Derived.Deep.LoopGhost
import Derived.Deep.QuietTactic
import Derived.BigQuiet
namespace Go.Proofs.Ytiklneamdfgahaa.Nt
open Go.ChangeShapes Go.WideShapes Go.ChangeAt Go.RowKit
open Wh
set_option linter.unusedVariables false
set_option maxRecDepth 20000

theorem hid {p : Prop} (h : p) : Hid p := h
/-- Numbers that lie at A. -/
def Li (w : World) (A : Option Addr) (l : List Nat) : Prop := Rd .i64 w 0 w.heap.size A (il l)
theorem Li.keep {w w' : World} {A : Option Addr} {l : List Nat} (h : Li w A l) (k : But [] w w') : Li w' A l := by
  rcases h with h0 | ⟨b, off, e, h1, h2, hc⟩
  · exact .inl h0
  · exact .inr ⟨b, off, e, h1, Nat.lt_of_lt_of_le h2 k.size, fun j hj => (k.cell (p := ⟨b, off + j, none⟩) h2 (by simp)).trans (hc j hj)⟩
theorem Li.of {w : World} {lo : Nat} {A : Option Addr} {l : List Nat} (h : Rd .i64 w lo w.heap.size A (il l)) : Li w A l := h.wider (Nat.zero_le _) (Nat.le_refl _)
theorem Li.at_ {w : World} {A : Option Addr} {l : List Nat} (h : Li w A l) {k : Nat} (hk : k < l.length) : ∃ g off, A = some ⟨g, off, none⟩ ∧ g < w.heap.size ∧ ∀ j, j < l.length → w.cell? ⟨g, off + j, none⟩ = some (.int .i64 (l.getD j 0 : Nat)) := by
  obtain ⟨g, off, e, h1, h2, h3⟩ := Rd.at_ h (j := k) (by rw [il_len]; exact hk)
  refine ⟨g, off, e, h2, fun j hj => ?_⟩
  have := h3 j (by rw [il_len]; exact hj)
  rwa [il_get _ _ hj] at this
set_option maxHeartbeats 1000000 in
theorem ints_c (A B : Option Addr) (n c d : Nat) (l : List Nat) (w : World) (hn : l.length = n) (hm : n ≤ 100000) (hr : Li w A l) (hs : Li w B l) :
    Calls Try.prog 10 #[.slice A n c, .slice B n d] w fun e w' => e = .returned (.bool true) ∧ But [] w w' := by
  have HN := hid hn
  have HR := hid hr
  have HS := hid hs
  clear hn hr hs
  go_enter Try.func10, Try.ntmps10
  go_wp2
  go_loopg [5] (n + 1) (fun g0 i wr => ∃ m : Nat, m + g0 = n + 1 ∧ m ≤ n ∧ i = .int .i64 m ∧ Hid (But [] w wr))
  case atStart => exact ⟨0, by omega, Nat.zero_le _, rfl, But.refl _ _⟩
  case round =>
    obtain ⟨m, hmg, hmn, rfl, hbel⟩ := hrel
    by_cases hlt : m < n
    · have hlx : m < l.length := by have := HN.out; omega
      obtain ⟨b, off, hA, hb, hcell⟩ := HR.out.at_ hlx
      obtain ⟨b2, off2, hB, hb2, hcell2⟩ := HS.out.at_ hlx
      have hc1 := cell_keep (hcell m hlx) hbel.out (by simp)
      have hc2 := cell_keep (hcell2 m hlx) hbel.out (by simp)
      generalize l.getD m 0 = q at *
      subst hA
      subst hB
      clear hcell hcell2 hlx
      go_wp2
      go_quiet (fail)
      go_wp2
      go_roundg (n + 1 - (m + 1))
      case measure => omega
      case rel => exact ⟨m + 1, by omega, by omega, by go_num, hbel.out.drewN _⟩
    · obtain rfl : m = n := by omega
      go_wp2
      go_ret
      exact ⟨rfl, hbel.out⟩

end Go.Proofs.Ytiklneamdfgahaa.Nt
