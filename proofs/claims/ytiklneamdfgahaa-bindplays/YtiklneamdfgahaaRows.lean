/-
  No cell of these rows narrows 'for every input' (looked for: loops, veiled, ifaces, maps, wideKeys, modest, calm, conditions, laid).
  DERIVED. THE GIVEN ROWS OF THIS SEAT. 3 by the template 'for every input the law returns true; each argument reads behind the call as it read before'; 0 by the template 'total and deterministic' (their statements: YtiklneamdfgahaaTotals.lean).
  GIVEN WITH THE SEED: the statements are not yours to turn. If you find one false, say at which input.
  Laid BY PROGRAM, IN A SANDBOX (cutbox-rows.mjs): the forced cells as the released guide's own fill.sh prints them over the translation 84399c9ef5ae0c62… (all of the seat's roots in one cut). By AI agents, Wed Nov 11 2026. No macro, syntax, notation, axiom, sorry.
-/
import Derived.Test.YtiklneamdfgahaaChecked
import GoSem.Claim
import GoSem.ClaimJoined
import GoSem.ClaimMapViews
import Derived.JoinedTies
import Derived.KernelRfl
namespace Go.Proofs.Ytiklneamdfgahaa
/- THE CELL 'sum', in the pinned program and in every row, IS THE sha256 OF THE DUMP (.gsa) THAT YtiklneamdfgahaaProg.lean LOADS. Nothing in Lean hashes anything: it is a label: what it is worth is what the hold of that sum in a sandbox is worth. -/
noncomputable def Try.pinned : Pinned := { name := "ytiklneamdfgahaa", sum := "84399c9ef5ae0c62bece9adc63b6fef439b2c63bbc4a0f9d9c1ffb6c0e6a59ad", checked := Try.checked }
namespace Rows
def none {H : Type} : Left H := { results := [], args := [] }

/-- 'onionskinlaw15.BindPlays': WHATEVER THE INPUT: true; the input reads as it did. -/
def bindPlaysSpec : ChangeSpec := { name := "bindPlays", fn := fun _ => fun
  | [d] => { results := [.lit (.bool true)], args := [d] }
  | _ => none }
def bindPlaysRow : OpenClaim := { program := "ytiklneamdfgahaa", sum := "84399c9ef5ae0c62bece9adc63b6fef439b2c63bbc4a0f9d9c1ffb6c0e6a59ad", func := "onionskin/onionskinlaw15.BindPlays", spec := "bindPlays", unfollowed := true, recurses := true, plainKeys := false, apart := false }
def BindPlaysSaid : Prop := bindPlaysRow.holds Try.pinned (OpenSpec.ofChange bindPlaysSpec)

/-- ITS FALSE NEIGHBOUR: 'it returns false'. Refute it at one input. -/
def bindPlaysWrong : ChangeSpec := { name := "bindPlays", fn := fun _ => fun
  | [d] => { results := [.lit (.bool false)], args := [d] }
  | _ => none }
def BindPlaysWrongFalsely : Prop := bindPlaysRow.holds Try.pinned (OpenSpec.ofChange bindPlaysWrong)

/-- 'onionskinlaw15.BindGone': WHATEVER THE INPUT: true; the input reads as it did. -/
def bindGoneSpec : ChangeSpec := { name := "bindGone", fn := fun _ => fun
  | [d1, d2] => { results := [.lit (.bool true)], args := [d1, d2] }
  | _ => none }
def bindGoneRow : OpenClaim := { program := "ytiklneamdfgahaa", sum := "84399c9ef5ae0c62bece9adc63b6fef439b2c63bbc4a0f9d9c1ffb6c0e6a59ad", func := "onionskin/onionskinlaw15.BindGone", spec := "bindGone", unfollowed := true, recurses := true, plainKeys := false, apart := false }
def BindGoneSaid : Prop := bindGoneRow.holds Try.pinned (OpenSpec.ofChange bindGoneSpec)

/-- ITS FALSE NEIGHBOUR: 'it returns false'. Refute it at one input. -/
def bindGoneWrong : ChangeSpec := { name := "bindGone", fn := fun _ => fun
  | [d1, d2] => { results := [.lit (.bool false)], args := [d1, d2] }
  | _ => none }
def BindGoneWrongFalsely : Prop := bindGoneRow.holds Try.pinned (OpenSpec.ofChange bindGoneWrong)

/-- 'onionskinlaw15.BindNone': WHATEVER THE INPUT: true; the input reads as it did. -/
def bindNoneSpec : ChangeSpec := { name := "bindNone", fn := fun _ => fun
  | [d] => { results := [.lit (.bool true)], args := [d] }
  | _ => none }
def bindNoneRow : OpenClaim := { program := "ytiklneamdfgahaa", sum := "84399c9ef5ae0c62bece9adc63b6fef439b2c63bbc4a0f9d9c1ffb6c0e6a59ad", func := "onionskin/onionskinlaw15.BindNone", spec := "bindNone", unfollowed := true, recurses := true, plainKeys := false, apart := false }
def BindNoneSaid : Prop := bindNoneRow.holds Try.pinned (OpenSpec.ofChange bindNoneSpec)

/-- ITS FALSE NEIGHBOUR: 'it returns false'. Refute it at one input. -/
def bindNoneWrong : ChangeSpec := { name := "bindNone", fn := fun _ => fun
  | [d] => { results := [.lit (.bool false)], args := [d] }
  | _ => none }
def BindNoneWrongFalsely : Prop := bindNoneRow.holds Try.pinned (OpenSpec.ofChange bindNoneWrong)

/- THE SECOND FORM. 'bulk': how many values and letters a reading holds, each counted each time it is reached (what is shared counts as often as it is met; a slice's spare places count too). A statement '..UptoSaid' is the law's where the arguments, and the package variables that the reading takes, are together of bulk at most 1048576: NARROWER than '..Said'. Prove '..Said' where nothing that the law and all that it calls make is longer than what came in: it says more and counts as full. Else prove '..UptoSaid'. A law counts once. -/
mutual
def uptoBulk {H : Type} : DataW H → Nat
  | .lit (.string bytes) => bytes.length + 1
  | .lit _ => 1
  | .nil => 1
  | .ptr d => uptoBulk d + 1
  | .slice elems spare => uptoBulkAll elems + uptoBulkAll spare + 1
  | .agg parts => uptoBulkAll parts + 1
  | .iface _ d => uptoBulk d + 1
  | .map entries => uptoBulkEntries entries + 1
  | .held _ => 1
def uptoBulkAll {H : Type} : List (DataW H) → Nat
  | [] => 0
  | d :: r => uptoBulk d + uptoBulkAll r
def uptoBulkEntries {H : Type} : List (Lit × DataW H) → Nat
  | [] => 0
  | x :: r => uptoBulkEntry x + uptoBulkEntries r
def uptoBulkEntry {H : Type} : Lit × DataW H → Nat
  | (.string bytes, d) => bytes.length + uptoBulk d + 1
  | (_, d) => uptoBulk d + 1
 end
def uptoSmall : (H : Type) → List (DataW H) → Bool := fun _ ds => decide (uptoBulkAll ds ≤ 1048576)
def OpenSpec.upto (s : _root_.Go.ChangeSpec) : _root_.Go.OpenSpec := { _root_.Go.OpenSpec.ofChange s with cond := some uptoSmall }

/-- 'onionskinlaw15.BindPlays', WHERE WHAT IT READS IS OF BULK AT MOST 1048576: true; the input reads as it did. -/
def bindPlaysUptoRow : OpenClaim := { program := "ytiklneamdfgahaa", sum := "84399c9ef5ae0c62bece9adc63b6fef439b2c63bbc4a0f9d9c1ffb6c0e6a59ad", func := "onionskin/onionskinlaw15.BindPlays", spec := "bindPlays", unfollowed := true, recurses := true, plainKeys := false, apart := false, narrowed := true }
def BindPlaysUptoSaid : Prop := bindPlaysUptoRow.holds Try.pinned (OpenSpec.upto bindPlaysSpec)

/-- 'onionskinlaw15.BindGone', WHERE WHAT IT READS IS OF BULK AT MOST 1048576: true; the input reads as it did. -/
def bindGoneUptoRow : OpenClaim := { program := "ytiklneamdfgahaa", sum := "84399c9ef5ae0c62bece9adc63b6fef439b2c63bbc4a0f9d9c1ffb6c0e6a59ad", func := "onionskin/onionskinlaw15.BindGone", spec := "bindGone", unfollowed := true, recurses := true, plainKeys := false, apart := false, narrowed := true }
def BindGoneUptoSaid : Prop := bindGoneUptoRow.holds Try.pinned (OpenSpec.upto bindGoneSpec)

/-- 'onionskinlaw15.BindNone', WHERE WHAT IT READS IS OF BULK AT MOST 1048576: true; the input reads as it did. -/
def bindNoneUptoRow : OpenClaim := { program := "ytiklneamdfgahaa", sum := "84399c9ef5ae0c62bece9adc63b6fef439b2c63bbc4a0f9d9c1ffb6c0e6a59ad", func := "onionskin/onionskinlaw15.BindNone", spec := "bindNone", unfollowed := true, recurses := true, plainKeys := false, apart := false, narrowed := true }
def BindNoneUptoSaid : Prop := bindNoneUptoRow.holds Try.pinned (OpenSpec.upto bindNoneSpec)

end Rows
end Go.Proofs.Ytiklneamdfgahaa
