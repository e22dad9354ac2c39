/-
  No cell of these rows narrows 'for every input' (looked for: loops, veiled, ifaces, maps, wideKeys, modest, calm, conditions, laid).
  DERIVED. THE GIVEN ROWS OF THIS SEAT. 3 by the template 'for every input the law returns true; each argument reads behind the call as it read before'; 0 by the template 'total and deterministic' (their statements: YtfopmdiepaonnaaTotals.lean).
  GIVEN WITH THE SEED: the statements are not yours to turn. If you find one false, say at which input.
  Laid BY PROGRAM, IN A SANDBOX (cutbox-rows.mjs): the forced cells as the released guide's own fill.sh prints them over the translation e794ca8e41139794… (all of the seat's roots in one cut). By AI agents, Wed Nov 11 2026. No macro, syntax, notation, axiom, sorry.
-/
import Derived.Test.YtfopmdiepaonnaaChecked
import GoSem.Claim
import GoSem.ClaimJoined
import GoSem.ClaimMapViews
import Derived.JoinedTies
import Derived.KernelRfl
namespace Go.Proofs.Ytfopmdiepaonnaa
/- THE CELL 'sum', in the pinned program and in every row, IS THE sha256 OF THE DUMP (.gsa) THAT YtfopmdiepaonnaaProg.lean LOADS. Nothing in Lean hashes anything: it is a label: what it is worth is what the hold of that sum in a sandbox is worth. -/
noncomputable def Try.pinned : Pinned := { name := "ytfopmdiepaonnaa", sum := "e794ca8e41139794dd64005f1d40b324edeca959a18c1e0825ae854fc412452f", checked := Try.checked }
namespace Rows
def none {H : Type} : Left H := { results := [], args := [] }

/-- 'onionskinlaw17.AbortPlays': WHATEVER THE INPUT: true; the input reads as it did. -/
def abortPlaysSpec : ChangeSpec := { name := "abortPlays", fn := fun _ => fun
  | [d] => { results := [.lit (.bool true)], args := [d] }
  | _ => none }
def abortPlaysRow : OpenClaim := { program := "ytfopmdiepaonnaa", sum := "e794ca8e41139794dd64005f1d40b324edeca959a18c1e0825ae854fc412452f", func := "onionskin/onionskinlaw17.AbortPlays", spec := "abortPlays", unfollowed := true, recurses := true, apart := false }
def AbortPlaysSaid : Prop := abortPlaysRow.holds Try.pinned (OpenSpec.ofChange abortPlaysSpec)

/-- ITS FALSE NEIGHBOUR: 'it returns false'. Refute it at one input. -/
def abortPlaysWrong : ChangeSpec := { name := "abortPlays", fn := fun _ => fun
  | [d] => { results := [.lit (.bool false)], args := [d] }
  | _ => none }
def AbortPlaysWrongFalsely : Prop := abortPlaysRow.holds Try.pinned (OpenSpec.ofChange abortPlaysWrong)

/-- 'onionskinlaw17.AbortDue': WHATEVER THE INPUT: true; the input reads as it did. -/
def abortDueSpec : ChangeSpec := { name := "abortDue", fn := fun _ => fun
  | [d1, d2, d3] => { results := [.lit (.bool true)], args := [d1, d2, d3] }
  | _ => none }
def abortDueRow : OpenClaim := { program := "ytfopmdiepaonnaa", sum := "e794ca8e41139794dd64005f1d40b324edeca959a18c1e0825ae854fc412452f", func := "onionskin/onionskinlaw17.AbortDue", spec := "abortDue", unfollowed := true, recurses := true, apart := false }
def AbortDueSaid : Prop := abortDueRow.holds Try.pinned (OpenSpec.ofChange abortDueSpec)

/-- ITS FALSE NEIGHBOUR: 'it returns false'. Refute it at one input. -/
def abortDueWrong : ChangeSpec := { name := "abortDue", fn := fun _ => fun
  | [d1, d2, d3] => { results := [.lit (.bool false)], args := [d1, d2, d3] }
  | _ => none }
def AbortDueWrongFalsely : Prop := abortDueRow.holds Try.pinned (OpenSpec.ofChange abortDueWrong)

/-- 'onionskinlaw17.AbortMost': WHATEVER THE INPUT: true; the input reads as it did. -/
def abortMostSpec : ChangeSpec := { name := "abortMost", fn := fun _ => fun
  | [d] => { results := [.lit (.bool true)], args := [d] }
  | _ => none }
def abortMostRow : OpenClaim := { program := "ytfopmdiepaonnaa", sum := "e794ca8e41139794dd64005f1d40b324edeca959a18c1e0825ae854fc412452f", func := "onionskin/onionskinlaw17.AbortMost", spec := "abortMost", unfollowed := true, recurses := true, apart := false }
def AbortMostSaid : Prop := abortMostRow.holds Try.pinned (OpenSpec.ofChange abortMostSpec)

/-- ITS FALSE NEIGHBOUR: 'it returns false'. Refute it at one input. -/
def abortMostWrong : ChangeSpec := { name := "abortMost", fn := fun _ => fun
  | [d] => { results := [.lit (.bool false)], args := [d] }
  | _ => none }
def AbortMostWrongFalsely : Prop := abortMostRow.holds Try.pinned (OpenSpec.ofChange abortMostWrong)

/- THE SECOND FORM. 'bulk': how many values and letters a reading holds, each counted each time it is reached (what is shared counts as often as it is met; a slice's spare places count too). A statement '..UptoSaid' is the law's where the arguments, and the package variables that the reading takes, are together of bulk at most 1048576: NARROWER than '..Said'. Prove '..Said' where nothing that the law and all that it calls make is longer than what came in: it says more and counts as full. Else prove '..UptoSaid'. A law counts once. -/
mutual
def uptoBulk {H : Type} : DataW H → Nat
  | .lit (.string bytes) => bytes.length + 1
  | .lit _ => 1
  | .nil => 1
  | .ptr d => uptoBulk d + 1
  | .slice elems spare => uptoBulkAll elems + uptoBulkAll spare + 1
  | .agg parts => uptoBulkAll parts + 1
  | .iface _ d => uptoBulk d + 1
  | .map entries => uptoBulkEntries entries + 1
  | .held _ => 1
def uptoBulkAll {H : Type} : List (DataW H) → Nat
  | [] => 0
  | d :: r => uptoBulk d + uptoBulkAll r
def uptoBulkEntries {H : Type} : List (Lit × DataW H) → Nat
  | [] => 0
  | x :: r => uptoBulkEntry x + uptoBulkEntries r
def uptoBulkEntry {H : Type} : Lit × DataW H → Nat
  | (.string bytes, d) => bytes.length + uptoBulk d + 1
  | (_, d) => uptoBulk d + 1
 end
def uptoSmall : (H : Type) → List (DataW H) → Bool := fun _ ds => decide (uptoBulkAll ds ≤ 1048576)
def OpenSpec.upto (s : _root_.Go.ChangeSpec) : _root_.Go.OpenSpec := { _root_.Go.OpenSpec.ofChange s with cond := some uptoSmall }

/-- 'onionskinlaw17.AbortPlays', WHERE WHAT IT READS IS OF BULK AT MOST 1048576: true; the input reads as it did. -/
def abortPlaysUptoRow : OpenClaim := { program := "ytfopmdiepaonnaa", sum := "e794ca8e41139794dd64005f1d40b324edeca959a18c1e0825ae854fc412452f", func := "onionskin/onionskinlaw17.AbortPlays", spec := "abortPlays", unfollowed := true, recurses := true, apart := false, narrowed := true }
def AbortPlaysUptoSaid : Prop := abortPlaysUptoRow.holds Try.pinned (OpenSpec.upto abortPlaysSpec)

/-- 'onionskinlaw17.AbortDue', WHERE WHAT IT READS IS OF BULK AT MOST 1048576: true; the input reads as it did. -/
def abortDueUptoRow : OpenClaim := { program := "ytfopmdiepaonnaa", sum := "e794ca8e41139794dd64005f1d40b324edeca959a18c1e0825ae854fc412452f", func := "onionskin/onionskinlaw17.AbortDue", spec := "abortDue", unfollowed := true, recurses := true, apart := false, narrowed := true }
def AbortDueUptoSaid : Prop := abortDueUptoRow.holds Try.pinned (OpenSpec.upto abortDueSpec)

/-- 'onionskinlaw17.AbortMost', WHERE WHAT IT READS IS OF BULK AT MOST 1048576: true; the input reads as it did. -/
def abortMostUptoRow : OpenClaim := { program := "ytfopmdiepaonnaa", sum := "e794ca8e41139794dd64005f1d40b324edeca959a18c1e0825ae854fc412452f", func := "onionskin/onionskinlaw17.AbortMost", spec := "abortMost", unfollowed := true, recurses := true, apart := false, narrowed := true }
def AbortMostUptoSaid : Prop := abortMostUptoRow.holds Try.pinned (OpenSpec.upto abortMostSpec)

end Rows
end Go.Proofs.Ytfopmdiepaonnaa
