/-
  DERIVED. GIVEN WITH THE SEED: THE CARDS: each row of YtecgeoafahohjaaDoorRows.lean that lists a variable, with what it lists TIED to the program's text (the seventh form; the later family's looks); each row that meets fmt, with fmt's text TOLD by the authors' own Lean function (tested against real Go, not proved from fmt's source: count such statements apart). THE CARD IS WHAT COUNTS. Prove the row's statement (the work); the ties are given (YtecgeoafahohjaaDoorTie.lean); close each card by the builder's one call (the guide's Derived/Test/ToyasCard.lean, 'card_holds'). Laid BY PROGRAM, IN A SANDBOX (cutbox-door.mjs). By AI agents, Wed Nov 11 2026. No macro, syntax, notation, axiom, sorry.
-/
import Derived.Test.YtecgeoafahohjaaDoorRows
import GoSem.ClaimSeven
namespace Go.Proofs.YtecgeoafahohjaaDoor
namespace Rows

/-- THE TIED CARD OF 'onionskinlaw14.AbiChecks'. -/
def abiChecksCard : Claim7 := { stood := { row := abiChecksRow, standIns := [], harness := (true, "25ac808b4ca8b78b0f5ba0b625e62b86e1fa5a0a263b9ab105f01f504ec6659b"), looks := false }, kinds := [], alts := [], laidByText := true, laidKinds := [.data], laidTests := true, laidLooks := .later }
def AbiChecksCardSaid : Prop := Claim7.holds Tryd.pinned (.plain (OpenSpec.ofChange abiChecksSpec)) abiChecksCard

/-- THE TIED CARD OF 'onionskinlaw14.AbiNames'. -/
def abiNamesCard : Claim7 := { stood := { row := abiNamesRow, standIns := [], harness := (true, "25ac808b4ca8b78b0f5ba0b625e62b86e1fa5a0a263b9ab105f01f504ec6659b"), looks := false }, kinds := [], alts := [], laidByText := true, laidKinds := [.data], laidTests := true, laidLooks := .later }
def AbiNamesCardSaid : Prop := Claim7.holds Tryd.pinned (.plain (OpenSpec.ofChange abiNamesSpec)) abiNamesCard

/-- THE TIED CARD OF 'onionskinlaw14.AbiRenames'. -/
def abiRenamesCard : Claim7 := { stood := { row := abiRenamesRow, standIns := [], harness := (true, "25ac808b4ca8b78b0f5ba0b625e62b86e1fa5a0a263b9ab105f01f504ec6659b"), looks := false }, kinds := [], alts := [], laidByText := true, laidKinds := [.data], laidTests := true, laidLooks := .later }
def AbiRenamesCardSaid : Prop := Claim7.holds Tryd.pinned (.plain (OpenSpec.ofChange abiRenamesSpec)) abiRenamesCard

/-- THE TIED CARD OF 'onionskinlaw14.AbiForty'. -/
def abiFortyCard : Claim7 := { stood := { row := abiFortyRow, standIns := [], harness := (true, "25ac808b4ca8b78b0f5ba0b625e62b86e1fa5a0a263b9ab105f01f504ec6659b"), looks := false }, kinds := [], alts := [], laidByText := true, laidKinds := [.data], laidTests := true, laidLooks := .later }
def AbiFortyCardSaid : Prop := Claim7.holds Tryd.pinned (.plain (OpenSpec.ofChange abiFortySpec)) abiFortyCard

/-- THE SECOND FORM's CARD OF 'onionskinlaw14.AbiChecks'. -/
def abiChecksUptoCard : Claim7 := { stood := { row := abiChecksUptoRow, standIns := [], harness := (true, "25ac808b4ca8b78b0f5ba0b625e62b86e1fa5a0a263b9ab105f01f504ec6659b"), looks := false }, kinds := [], alts := [], laidByText := true, laidKinds := [.data], laidTests := true, laidLooks := .later }
def AbiChecksUptoCardSaid : Prop := Claim7.holds Tryd.pinned (.plain (OpenSpec.upto abiChecksSpec)) abiChecksUptoCard

/-- THE SECOND FORM's CARD OF 'onionskinlaw14.AbiNames'. -/
def abiNamesUptoCard : Claim7 := { stood := { row := abiNamesUptoRow, standIns := [], harness := (true, "25ac808b4ca8b78b0f5ba0b625e62b86e1fa5a0a263b9ab105f01f504ec6659b"), looks := false }, kinds := [], alts := [], laidByText := true, laidKinds := [.data], laidTests := true, laidLooks := .later }
def AbiNamesUptoCardSaid : Prop := Claim7.holds Tryd.pinned (.plain (OpenSpec.upto abiNamesSpec)) abiNamesUptoCard

/-- THE SECOND FORM's CARD OF 'onionskinlaw14.AbiRenames'. -/
def abiRenamesUptoCard : Claim7 := { stood := { row := abiRenamesUptoRow, standIns := [], harness := (true, "25ac808b4ca8b78b0f5ba0b625e62b86e1fa5a0a263b9ab105f01f504ec6659b"), looks := false }, kinds := [], alts := [], laidByText := true, laidKinds := [.data], laidTests := true, laidLooks := .later }
def AbiRenamesUptoCardSaid : Prop := Claim7.holds Tryd.pinned (.plain (OpenSpec.upto abiRenamesSpec)) abiRenamesUptoCard

/-- THE SECOND FORM's CARD OF 'onionskinlaw14.AbiForty'. -/
def abiFortyUptoCard : Claim7 := { stood := { row := abiFortyUptoRow, standIns := [], harness := (true, "25ac808b4ca8b78b0f5ba0b625e62b86e1fa5a0a263b9ab105f01f504ec6659b"), looks := false }, kinds := [], alts := [], laidByText := true, laidKinds := [.data], laidTests := true, laidLooks := .later }
def AbiFortyUptoCardSaid : Prop := Claim7.holds Tryd.pinned (.plain (OpenSpec.upto abiFortySpec)) abiFortyUptoCard
end Rows
end Go.Proofs.YtecgeoafahohjaaDoor
