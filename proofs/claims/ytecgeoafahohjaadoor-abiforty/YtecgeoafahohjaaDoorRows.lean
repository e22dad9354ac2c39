/-
  NARROWER THAN 'FOR EVERY INPUT', by the rows' own cells (each row's printed sentence says how): AbiChecks: laid · AbiNames: laid · AbiRenames: laid · AbiForty: laid.
  DERIVED. THE GIVEN ROWS OF THIS SEAT. 4 by the template 'for every input the law returns true; each argument reads behind the call as it read before'; 0 by the template 'total and deterministic' (their statements: YtecgeoafahohjaaDoorTotals.lean).
  GIVEN WITH THE SEED: the statements are not yours to turn. If you find one false, say at which input.
  Laid BY PROGRAM, IN A SANDBOX (cutbox-rows.mjs): the forced cells as the released guide's own fill.sh prints them over the translation 7442cc82450b79c1… (all of the seat's roots in one cut). By AI agents, Wed Nov 11 2026. No macro, syntax, notation, axiom, sorry.
-/
import Derived.Test.YtecgeoafahohjaaDoorChecked
import GoSem.Claim
import GoSem.ClaimJoined
import GoSem.ClaimMapViews
import Derived.JoinedTies
import Derived.KernelRfl
namespace Go.Proofs.YtecgeoafahohjaaDoor
/- THE CELL 'sum', in the pinned program and in every row, IS THE sha256 OF THE DUMP (.gsa) THAT YtecgeoafahohjaaDoorProg.lean LOADS. Nothing in Lean hashes anything: it is a label: what it is worth is what the hold of that sum in a sandbox is worth. -/
noncomputable def Tryd.pinned : Pinned := { name := "ytecgeoafahohjaadoor", sum := "7442cc82450b79c171948cc6f3595c3c415138a72a7da87f26e85e3194c5658a", checked := Tryd.checked }
namespace Rows
def none {H : Type} : Left H := { results := [], args := [] }

/- WHAT THE LISTED PACKAGE-LEVEL VARIABLES READ AS WHEN THE CALL BEGINS. Each datum BY PROGRAM (the guide's laid-datum.mjs) off the statement by which the dump's own 'gosem.cut.vars' lays the variable. In a bare row this is a premise. The card (YtecgeoafahohjaaDoorCards.lean) ties it to the program's text. -/
def laid_onionskin_abi_numbers {H : Type} : DataW H := .agg [.lit (.string []), .lit (.string [102, 97]), .lit (.string [102, 97, 119]), .lit (.string [102]), .lit (.string [102]), .lit (.string [102, 102]), .lit (.string [102]), .lit (.string [102, 102]), .lit (.string [102]), .lit (.string [102, 119]), .lit (.string [102, 102]), .lit (.string [115, 103, 102, 116]), .lit (.string [115, 103]), .lit (.string [115, 103]), .lit (.string [115]), .lit (.string [115]), .lit (.string [115, 103]), .lit (.string [115, 117]), .lit (.string [115, 119]), .lit (.string [115, 119, 119]), .lit (.string [102]), .lit (.string [98]), .lit (.string [98]), .lit (.string [98]), .lit (.string [98]), .lit (.string [98, 102]), .lit (.string [102, 98]), .lit (.string [98]), .lit (.string [98, 98]), .lit (.string [112, 119]), .lit (.string [112]), .lit (.string [112]), .lit (.string [112]), .lit (.string [107, 110]), .lit (.string [107]), .lit (.string [107, 110]), .lit (.string [107]), .lit (.string [107, 110]), .lit (.string []), .lit (.string []), .lit (.string [])]

/-- 'onionskinlaw14.AbiChecks': WHATEVER THE INPUT: true; the input reads as it did. -/
def abiChecksSpec : ChangeSpec := { name := "abiChecks", fn := fun _ => fun
  | [d] => { results := [.lit (.bool true)], args := [d] }
  | _ => none }
def abiChecksRow : OpenClaim := { program := "ytecgeoafahohjaadoor", sum := "7442cc82450b79c171948cc6f3595c3c415138a72a7da87f26e85e3194c5658a", func := "onionskin/onionskinlaw14.AbiChecks", spec := "abiChecks", named := ["onionskin/abi.numbers"], apart := false, laid := [("onionskin/abi.numbers", laid_onionskin_abi_numbers)] }
def AbiChecksSaid : Prop := abiChecksRow.holds Tryd.pinned (OpenSpec.ofChange abiChecksSpec)

/-- ITS FALSE NEIGHBOUR: 'it returns false'. Refute it at one input. -/
def abiChecksWrong : ChangeSpec := { name := "abiChecks", fn := fun _ => fun
  | [d] => { results := [.lit (.bool false)], args := [d] }
  | _ => none }
def AbiChecksWrongFalsely : Prop := abiChecksRow.holds Tryd.pinned (OpenSpec.ofChange abiChecksWrong)

/-- 'onionskinlaw14.AbiNames': WHATEVER THE INPUT: true; the input reads as it did. -/
def abiNamesSpec : ChangeSpec := { name := "abiNames", fn := fun _ => fun
  | [d] => { results := [.lit (.bool true)], args := [d] }
  | _ => none }
def abiNamesRow : OpenClaim := { program := "ytecgeoafahohjaadoor", sum := "7442cc82450b79c171948cc6f3595c3c415138a72a7da87f26e85e3194c5658a", func := "onionskin/onionskinlaw14.AbiNames", spec := "abiNames", named := ["onionskin/abi.numbers"], apart := false, laid := [("onionskin/abi.numbers", laid_onionskin_abi_numbers)] }
def AbiNamesSaid : Prop := abiNamesRow.holds Tryd.pinned (OpenSpec.ofChange abiNamesSpec)

/-- ITS FALSE NEIGHBOUR: 'it returns false'. Refute it at one input. -/
def abiNamesWrong : ChangeSpec := { name := "abiNames", fn := fun _ => fun
  | [d] => { results := [.lit (.bool false)], args := [d] }
  | _ => none }
def AbiNamesWrongFalsely : Prop := abiNamesRow.holds Tryd.pinned (OpenSpec.ofChange abiNamesWrong)

/-- 'onionskinlaw14.AbiRenames': WHATEVER THE INPUT: true; the input reads as it did. -/
def abiRenamesSpec : ChangeSpec := { name := "abiRenames", fn := fun _ => fun
  | [d1, d2, d3] => { results := [.lit (.bool true)], args := [d1, d2, d3] }
  | _ => none }
def abiRenamesRow : OpenClaim := { program := "ytecgeoafahohjaadoor", sum := "7442cc82450b79c171948cc6f3595c3c415138a72a7da87f26e85e3194c5658a", func := "onionskin/onionskinlaw14.AbiRenames", spec := "abiRenames", unfollowed := true, recurses := true, named := ["onionskin/abi.numbers"], apart := false, laid := [("onionskin/abi.numbers", laid_onionskin_abi_numbers)] }
def AbiRenamesSaid : Prop := abiRenamesRow.holds Tryd.pinned (OpenSpec.ofChange abiRenamesSpec)

/-- ITS FALSE NEIGHBOUR: 'it returns false'. Refute it at one input. -/
def abiRenamesWrong : ChangeSpec := { name := "abiRenames", fn := fun _ => fun
  | [d1, d2, d3] => { results := [.lit (.bool false)], args := [d1, d2, d3] }
  | _ => none }
def AbiRenamesWrongFalsely : Prop := abiRenamesRow.holds Tryd.pinned (OpenSpec.ofChange abiRenamesWrong)

/-- 'onionskinlaw14.AbiForty': WHATEVER THE INPUT: true; the input reads as it did. -/
def abiFortySpec : ChangeSpec := { name := "abiForty", fn := fun _ => fun
  | [d] => { results := [.lit (.bool true)], args := [d] }
  | _ => none }
def abiFortyRow : OpenClaim := { program := "ytecgeoafahohjaadoor", sum := "7442cc82450b79c171948cc6f3595c3c415138a72a7da87f26e85e3194c5658a", func := "onionskin/onionskinlaw14.AbiForty", spec := "abiForty", named := ["onionskin/abi.numbers"], apart := false, laid := [("onionskin/abi.numbers", laid_onionskin_abi_numbers)] }
def AbiFortySaid : Prop := abiFortyRow.holds Tryd.pinned (OpenSpec.ofChange abiFortySpec)

/-- ITS FALSE NEIGHBOUR: 'it returns false'. Refute it at one input. -/
def abiFortyWrong : ChangeSpec := { name := "abiForty", fn := fun _ => fun
  | [d] => { results := [.lit (.bool false)], args := [d] }
  | _ => none }
def AbiFortyWrongFalsely : Prop := abiFortyRow.holds Tryd.pinned (OpenSpec.ofChange abiFortyWrong)

/- THE SECOND FORM. 'bulk': how many values and letters a reading holds, each counted each time it is reached (what is shared counts as often as it is met; a slice's spare places count too). A statement '..UptoSaid' is the law's where the arguments, and the package variables that the reading takes, are together of bulk at most 1048576: NARROWER than '..Said'. Prove '..Said' where nothing that the law and all that it calls make is longer than what came in: it says more and counts as full. Else prove '..UptoSaid'. A law counts once. -/
mutual
def uptoBulk {H : Type} : DataW H → Nat
  | .lit (.string bytes) => bytes.length + 1
  | .lit _ => 1
  | .nil => 1
  | .ptr d => uptoBulk d + 1
  | .slice elems spare => uptoBulkAll elems + uptoBulkAll spare + 1
  | .agg parts => uptoBulkAll parts + 1
  | .iface _ d => uptoBulk d + 1
  | .map entries => uptoBulkEntries entries + 1
  | .held _ => 1
def uptoBulkAll {H : Type} : List (DataW H) → Nat
  | [] => 0
  | d :: r => uptoBulk d + uptoBulkAll r
def uptoBulkEntries {H : Type} : List (Lit × DataW H) → Nat
  | [] => 0
  | x :: r => uptoBulkEntry x + uptoBulkEntries r
def uptoBulkEntry {H : Type} : Lit × DataW H → Nat
  | (.string bytes, d) => bytes.length + uptoBulk d + 1
  | (_, d) => uptoBulk d + 1
 end
def uptoSmall : (H : Type) → List (DataW H) → Bool := fun _ ds => decide (uptoBulkAll ds ≤ 1048576)
def OpenSpec.upto (s : _root_.Go.ChangeSpec) : _root_.Go.OpenSpec := { _root_.Go.OpenSpec.ofChange s with cond := some uptoSmall }

/-- 'onionskinlaw14.AbiChecks', WHERE WHAT IT READS IS OF BULK AT MOST 1048576: true; the input reads as it did. -/
def abiChecksUptoRow : OpenClaim := { program := "ytecgeoafahohjaadoor", sum := "7442cc82450b79c171948cc6f3595c3c415138a72a7da87f26e85e3194c5658a", func := "onionskin/onionskinlaw14.AbiChecks", spec := "abiChecks", named := ["onionskin/abi.numbers"], apart := false, laid := [("onionskin/abi.numbers", laid_onionskin_abi_numbers)], narrowed := true }
def AbiChecksUptoSaid : Prop := abiChecksUptoRow.holds Tryd.pinned (OpenSpec.upto abiChecksSpec)

/-- 'onionskinlaw14.AbiNames', WHERE WHAT IT READS IS OF BULK AT MOST 1048576: true; the input reads as it did. -/
def abiNamesUptoRow : OpenClaim := { program := "ytecgeoafahohjaadoor", sum := "7442cc82450b79c171948cc6f3595c3c415138a72a7da87f26e85e3194c5658a", func := "onionskin/onionskinlaw14.AbiNames", spec := "abiNames", named := ["onionskin/abi.numbers"], apart := false, laid := [("onionskin/abi.numbers", laid_onionskin_abi_numbers)], narrowed := true }
def AbiNamesUptoSaid : Prop := abiNamesUptoRow.holds Tryd.pinned (OpenSpec.upto abiNamesSpec)

/-- 'onionskinlaw14.AbiRenames', WHERE WHAT IT READS IS OF BULK AT MOST 1048576: true; the input reads as it did. -/
def abiRenamesUptoRow : OpenClaim := { program := "ytecgeoafahohjaadoor", sum := "7442cc82450b79c171948cc6f3595c3c415138a72a7da87f26e85e3194c5658a", func := "onionskin/onionskinlaw14.AbiRenames", spec := "abiRenames", unfollowed := true, recurses := true, named := ["onionskin/abi.numbers"], apart := false, laid := [("onionskin/abi.numbers", laid_onionskin_abi_numbers)], narrowed := true }
def AbiRenamesUptoSaid : Prop := abiRenamesUptoRow.holds Tryd.pinned (OpenSpec.upto abiRenamesSpec)

/-- 'onionskinlaw14.AbiForty', WHERE WHAT IT READS IS OF BULK AT MOST 1048576: true; the input reads as it did. -/
def abiFortyUptoRow : OpenClaim := { program := "ytecgeoafahohjaadoor", sum := "7442cc82450b79c171948cc6f3595c3c415138a72a7da87f26e85e3194c5658a", func := "onionskin/onionskinlaw14.AbiForty", spec := "abiForty", named := ["onionskin/abi.numbers"], apart := false, laid := [("onionskin/abi.numbers", laid_onionskin_abi_numbers)], narrowed := true }
def AbiFortyUptoSaid : Prop := abiFortyUptoRow.holds Tryd.pinned (OpenSpec.upto abiFortySpec)

end Rows
end Go.Proofs.YtecgeoafahohjaaDoor
