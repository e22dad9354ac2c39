/-
  Layer 9 (port): contracts of what the statements call (Same, awake), over the translated program.
-/
import Derived.Test.YtlpibbbjmmoifaaPtMore
import Derived.Deep.QuietTactic
import Derived.BigQuiet
import Derived.WalkSmall
namespace Go.Proofs.Ytlpibbbjmmoifaa.Pt
open Go.ChangeShapes Go.WideShapes Go.ChangeAt Go.RowKit
set_option linter.unusedVariables false
set_option maxRecDepth 20000

set_option maxHeartbeats 1000000 in
theorem same_c (A B : Option Addr) (n c d : Nat) (xs : List Int) (w : World) (hn : n = xs.length) (hm : n ≤ 100000) (hr : Rd .u32 w 0 w.heap.size A xs) (hs : Rd .u32 w 0 w.heap.size B xs) :
    Calls Try.prog 12 #[.slice A n c, .slice B n d] w fun e w' => e = .returned (.bool true) ∧ But [] w w' := by
  have HN : Hid (n = xs.length) := hn
  have HR : Hid (Rd .u32 w 0 w.heap.size A xs) := hr
  have HS : Hid (Rd .u32 w 0 w.heap.size B xs) := hs
  clear hn hr hs
  go_enter Try.func12, Try.ntmps12
  go_wp2
  go_loopg [5] (n + 1) (fun g0 i wr => ∃ m : Nat, m + g0 = n + 1 ∧ m ≤ n ∧ i = .int .i64 m ∧ Hid (But [] w wr))
  case atStart => exact ⟨0, by omega, Nat.zero_le _, rfl, But.refl _ _⟩
  case round =>
    obtain ⟨m, hmg, hmn, rfl, hbel⟩ := hrel
    by_cases hlt : m < n
    · have hlx : m < xs.length := by have := HN.out; omega
      obtain ⟨b, off, hA, _, hb, hcell⟩ := HR.out.at_ hlx
      obtain ⟨b2, off2, hB, _, hb2, hcell2⟩ := HS.out.at_ hlx
      obtain ⟨q, hq⟩ : ∃ q, q = xs.getD m 0 := ⟨_, rfl⟩
      have hc1 : wr.cell? ⟨b, off + m, none⟩ = some (.int .u32 q) := by rw [hq]; exact (hbel.out.cell (p := ⟨b, off + m, none⟩) hb (by simp)).trans (hcell m hlx)
      have hc2 : wr.cell? ⟨b2, off2 + m, none⟩ = some (.int .u32 q) := by rw [hq]; exact (hbel.out.cell (p := ⟨b2, off2 + m, none⟩) hb2 (by simp)).trans (hcell2 m hlx)
      subst hA
      subst hB
      clear hcell hcell2 hq hlx
      go_wp2
      go_quiet (fail)
      go_wp2
      go_roundg (n + 1 - (m + 1))
      case measure => omega
      case rel => exact ⟨m + 1, by omega, by omega, by go_num, hbel.out.drewN _⟩
    · obtain rfl : m = n := by omega
      go_wp2
      go_ret
      exact ⟨rfl, hbel.out⟩

set_option maxHeartbeats 1000000 in
theorem awake_c (w : World) :
    Calls Try.prog 14 #[] w fun e w' => e = .returned (.bool true) ∧ But [] w w' := by
  have hz := zport_zero
  obtain ⟨b, hb⟩ : ∃ b, b = w.heap.size := ⟨_, rfl⟩
  have H0 : Hid (PtAt (w.alloc (.cells zport 27)) b 0 0 []) := by show PtAt _ _ _ _ _; rw [hb]; exact port_new w
  have HK : Hid (∀ w', But [b] w w' → But [] w w') := by
    show ∀ w', _ → _
    intro w' h
    exact h.strike (fun k hk hl => by simp at hk; omega)
  go_enter Try.func14, Try.ntmps14
  go_wp2_with fail
  rw [← hb]
  have K0 : Hid (But [b] w (w.alloc (.cells zport 27))) := (But.refl _ _).alloc _
  clear hb hz
  generalize w.alloc (.cells zport 27) = w0 at H0 K0 ⊢
  refine (send_c b 0 0 1 [] _ H0.out (by simp)).mono ?_
  rintro e w1 ⟨rfl, h1, k1⟩
  have H1 : Hid (PtAt w1 b 0 0 [1]) := h1
  have K1 : Hid (But [b] w w1) := K0.out.trans k1
  clear h1 k1
  go_wp2_with fail
  refine (send_c b 0 0 2 [1] _ H1.out (by simp)).mono ?_
  rintro e w2 ⟨rfl, h2, k2⟩
  have H2 : Hid (PtAt w2 b 0 0 [1, 2]) := h2
  have K2 : Hid (But [b] w w2) := K1.out.trans k2
  clear h2 k2
  go_wp2_with fail
  refine (receive_c b 0 0 1 [2] _ H2.out).mono ?_
  rintro e w3 ⟨rfl, h3, k3⟩
  have H3 : Hid (PtAt w3 b 0 1 [2]) := h3
  have K3 : Hid (But [b] w w3) := K2.out.trans k3
  clear h3 k3
  go_wp2_with fail
  refine (all_c b 0 1 [2] _ H3.out).mono ?_
  rintro e w4 ⟨v, rfl, h4, k4⟩
  obtain ⟨A, c, rfl, _, _, _, hr⟩ := Rd.of_own (xs := [2]) h4
  have K4 : Hid (But [b] w w4) := K3.out.trans (k4.any _)
  have HR : Hid (Rd .u32 (w4.alloc (.cells #[.int .u32 2] 24)) 0 (w4.alloc (.cells #[.int .u32 2] 24)).heap.size A [2]) := (hr.keep (((But.refl [] w4).alloc (.cells #[.int .u32 2] 24)).below (Nat.le_refl _) (by simp))).wider (Nat.zero_le _) (by simp)
  have HR2 : Hid (Rd .u32 (w4.alloc (.cells #[.int .u32 2] 24)) 0 (w4.alloc (.cells #[.int .u32 2] 24)).heap.size (some ⟨w4.heap.size, 0, none⟩) [2]) := .inr ⟨_, 0, rfl, Nat.zero_le _, by simp, fun j hj => by
    obtain rfl : j = 0 := by simp at hj; omega
    simp⟩
  have K5 : Hid (But [b] w (w4.alloc (.cells #[.int .u32 2] 24))) := K4.out.alloc _
  clear h4 k4 hr
  go_wp2_with fail
  refine (same_c _ _ 1 c 1 [2] _ rfl (by omega) HR.out HR2.out).mono ?_
  rintro e w6 ⟨rfl, k6⟩
  have K6 : Hid (But [b] w w6) := K5.out.trans (k6.any _)
  clear k6
  go_wp2
  go_ret
  exact ⟨rfl, HK.out _ K6.out⟩
end Go.Proofs.Ytlpibbbjmmoifaa.Pt
