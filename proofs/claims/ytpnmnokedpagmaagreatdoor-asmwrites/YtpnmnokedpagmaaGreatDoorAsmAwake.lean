/-
  The chapter's examples are read as it says.
-/
import Derived.Test.YtpnmnokedpagmaaGreatDoorAsmRead
namespace Go.Proofs.YtpnmnokedpagmaaGreatDoor
open Go.RowKit
set_option linter.unusedVariables false
set_option linter.unusedSimpArgs false
set_option maxRecDepth 20000

def awTxt : Bs := [97, 58, 32, 106, 109, 112, 32, 97, 10, 115, 101, 116, 32, 114, 49, 32, 53]
theorem aw_rd : rdOf awTxt = ([301989888, 17825797], 0, 0) := by kernel_rfl
theorem aw_ascii : AsciiL awTxt := by unfold AsciiL awTxt; decide

set_option maxHeartbeats 1000000 in
theorem awake_c (w : World) (hN : NamesOk w) (hE : ErrsOk w) : Calls Tryz.prog 8 #[] w fun e w' => e = .returned (.bool true) ∧ Below w.heap.size w w' := by
  have hr := read_c awTxt aw_ascii (by decide) w hN hE
  have hr' : Calls Tryz.prog 5 #[.string ⟨#[97, 58, 32, 106, 109, 112, 32, 97, 10, 115, 101, 116, 32, 114, 49, 32, 53]⟩] w fun e w' => ∃ g cap, e = .returned (.tuple #[.slice (some ⟨g, 0, none⟩) 2 cap, .int .i64 0, .int .i64 0]) ∧ w'.cell? ⟨g, 0, none⟩ = some (.int .u32 301989888) ∧ w'.cell? ⟨g, 1, none⟩ = some (.int .u32 17825797) ∧ Below w.heap.size w w' :=
    hr.mono fun e w' ⟨hb, v, he, ho⟩ => by
      rw [aw_rd] at he ho
      obtain ⟨g, cap, rfl, _, _, _, _, hc⟩ := own_row ho (by decide)
      exact ⟨g, cap, he, hc 0 (by decide), hc 1 (by decide), hb⟩
  clear hr hN hE
  go_enter Tryz.func8, Tryz.ntmps8
  go_wp2_with (go_at_call 5; refine hr'.mono ?_; clear hr'; rintro e w1 ⟨g, cap, rfl, c0, c1, hb⟩)
  go_ret
  exact ⟨rfl, hb⟩

end Go.Proofs.YtpnmnokedpagmaaGreatDoor
