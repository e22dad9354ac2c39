/-
  Layer 13 (ledger): the chapter's example, over the translated program.
-/
import Derived.Test.YtcdbdgmjdmkfeaaLgNew
import Derived.Test.YtcdbdgmjdmkfeaaLgMove
namespace Go.Proofs.Ytcdbdgmjdmkfeaa.Lg
open Go.ChangeShapes Go.WideShapes Go.ChangeAt Go.RowKit
set_option linter.unusedVariables false
set_option maxRecDepth 20000

theorem hid {p : Prop} (h : p) : Hid p := h
/-- The example's quotas. -/
def aw : Nat → Int
  | 0 => 10
  | _ => 0
def qa : Tb := mvQ (q0 aw 4) u0 0 1 0 4
def ua : Tb := tkU qa u0 1 0 4
theorem awake_c (w : World) : Calls Try.prog 12 #[] w fun e w' => e = .returned (.bool true) ∧ But [] w w' := by
  have hA : (av aw).toArray = #[.int .i64 10, .int .i64 0, .int .i64 0, .int .i64 0] := rfl
  have c1 : mvC (q0 aw 4) u0 0 1 0 4 = 0 := by decide
  have c2 : tkC qa u0 1 0 5 = 21 := by decide
  have c3 : tkU qa u0 1 0 5 = u0 := if_neg (by decide)
  have c4 : tkC qa u0 1 0 4 = 0 := by decide
  have c5 : gt qa 1 0 - gt ua 1 0 = 0 := by decide
  have c6 : gt qa 0 0 - gt ua 0 0 = 6 := by decide
  have HO0 : Hid (Ok (q0 aw 4) u0 (fun k => clm (aw k))) := Ok.first aw
  have HO1 : Hid (Ok qa u0 (fun k => clm (aw k))) := HO0.out.moved 0 1 0 4
  have HO2 : Hid (Ok qa ua (fun k => clm (aw k))) := HO1.out.take 1 0 4
  have HC1 := hid c1
  have HC2 := hid c2
  have HC3 := hid c3
  have HC4 := hid c4
  have HC5 := hid c5
  have HC6 := hid c6
  have HN := hid (new_c aw w)
  rw [hA] at HN
  clear c1 c2 c3 c4 c5 c6 hA
  go_enter Try.func12, Try.ntmps12
  go_wp2_with fail
  refine HN.out.mono ?_
  rintro e w1 ⟨b, rfl, hbs, h1, k1⟩
  have H1 := hid h1
  have K1 := hid (k1.any [b])
  have HB := hid hbs
  clear h1 k1 hbs HN
  go_wp2_with fail
  refine (move_c b (q0 aw 4) u0 _ 0 1 0 4 _ H1.out HO0.out).mono ?_
  rw [HC1.out]
  rintro e w2 ⟨rfl, l2⟩
  have H2 : Hid (LdAt w2 b 0 qa u0) := l2.1
  have K2 : Hid (But [b] w w2) := K1.out.trans l2.2
  clear l2
  go_wp2_with fail
  refine (take_c b qa u0 _ 1 0 5 _ H2.out HO1.out).mono ?_
  rw [HC2.out, HC3.out]
  rintro e w3 ⟨rfl, l3⟩
  have H3 : Hid (LdAt w3 b 0 qa u0) := l3.1
  have K3 : Hid (But [b] w w3) := K2.out.trans l3.2
  clear l3
  go_wp2_with fail
  refine (take_c b qa u0 _ 1 0 4 _ H3.out HO1.out).mono ?_
  rw [HC4.out]
  rintro e w4 ⟨rfl, l4⟩
  have H4 : Hid (LdAt w4 b 0 qa ua) := l4.1
  have K4 : Hid (But [b] w w4) := K3.out.trans l4.2
  clear l4
  go_wp2_with fail
  refine (left_c b qa ua _ 1 0 _ H4.out HO2.out).mono ?_
  rw [HC5.out]
  rintro e w5 ⟨rfl, h5, k5⟩
  have H5 : Hid (LdAt w5 b 0 qa ua) := h5
  have K5 : Hid (But [b] w w5) := K4.out.trans k5
  clear h5 k5
  go_wp2_with fail
  refine (left_c b qa ua _ 0 0 _ H5.out HO2.out).mono ?_
  rw [HC6.out]
  rintro e w6 ⟨rfl, h6, k6⟩
  have K6 : Hid (But [b] w w6) := K5.out.trans k6
  clear h6 k6
  go_wp2
  go_ret
  exact ⟨rfl, K6.out.strike (fun i hi hlt => by have := HB.out; simp at hi; omega)⟩
end Go.Proofs.Ytcdbdgmjdmkfeaa.Lg
