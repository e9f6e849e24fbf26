/-
  No cell of these rows narrows 'for every input' (looked for: loops, veiled, ifaces, maps, wideKeys, modest, calm, conditions, laid).
  DERIVED. THE GIVEN ROWS OF THIS SEAT. 15 by the template 'for every input the law returns true; each argument reads behind the call as it read before'; 0 by the template 'total and deterministic' (their statements: YtpmbojbdppbkgaaTotals.lean).
  GIVEN WITH THE SEED: the statements are not yours to turn. If you find one false, say at which input.
  Laid BY PROGRAM, IN A SANDBOX (cutbox-rows.mjs): the forced cells as the released guide's own fill.sh prints them over the translation 94d652a7317198c1… (all of the seat's roots in one cut). By AI agents, Wed Nov 11 2026. No macro, syntax, notation, axiom, sorry.
-/
import Derived.Test.YtpmbojbdppbkgaaChecked
import GoSem.Claim
import GoSem.ClaimJoined
import GoSem.ClaimMapViews
import Derived.JoinedTies
import Derived.KernelRfl
namespace Go.Proofs.Ytpmbojbdppbkgaa
/- THE CELL 'sum', in the pinned program and in every row, IS THE sha256 OF THE DUMP (.gsa) THAT YtpmbojbdppbkgaaProg.lean LOADS. Nothing in Lean hashes anything: it is a label: what it is worth is what the hold of that sum in a sandbox is worth. -/
noncomputable def Try.pinned : Pinned := { name := "ytpmbojbdppbkgaa", sum := "94d652a7317198c1e36ed7a396f66aca2004e5d581046de3b90ad39182cf32f0", checked := Try.checked }
namespace Rows
def none {H : Type} : Left H := { results := [], args := [] }

/-- 'laws.FnExactInverseOfLaw': WHATEVER THE INPUT: true; the input reads as it did. -/
def fnExactInverseOfLawSpec : ChangeSpec := { name := "fnExactInverseOfLaw", fn := fun _ => fun
  | [d] => { results := [.lit (.bool true)], args := [d] }
  | _ => none }
def fnExactInverseOfLawRow : OpenClaim := { program := "ytpmbojbdppbkgaa", sum := "94d652a7317198c1e36ed7a396f66aca2004e5d581046de3b90ad39182cf32f0", func := "loop.example/g01152/laws.FnExactInverseOfLaw", spec := "fnExactInverseOfLaw", unfollowed := true, recurses := true, apart := false }
def FnExactInverseOfLawSaid : Prop := fnExactInverseOfLawRow.holds Try.pinned (OpenSpec.ofChange fnExactInverseOfLawSpec)

/-- ITS FALSE NEIGHBOUR: 'it returns false'. Refute it at one input. -/
def fnExactInverseOfLawWrong : ChangeSpec := { name := "fnExactInverseOfLaw", fn := fun _ => fun
  | [d] => { results := [.lit (.bool false)], args := [d] }
  | _ => none }
def FnExactInverseOfLawWrongFalsely : Prop := fnExactInverseOfLawRow.holds Try.pinned (OpenSpec.ofChange fnExactInverseOfLawWrong)

/-- 'laws.FnExactSumUnder': WHATEVER THE INPUT: true; the input reads as it did. -/
def fnExactSumUnderSpec : ChangeSpec := { name := "fnExactSumUnder", fn := fun _ => fun
  | [d1, d2, d3] => { results := [.lit (.bool true)], args := [d1, d2, d3] }
  | _ => none }
def fnExactSumUnderRow : OpenClaim := { program := "ytpmbojbdppbkgaa", sum := "94d652a7317198c1e36ed7a396f66aca2004e5d581046de3b90ad39182cf32f0", func := "loop.example/g01152/laws.FnExactSumUnder", spec := "fnExactSumUnder", unfollowed := true, recurses := true, apart := false }
def FnExactSumUnderSaid : Prop := fnExactSumUnderRow.holds Try.pinned (OpenSpec.ofChange fnExactSumUnderSpec)

/-- ITS FALSE NEIGHBOUR: 'it returns false'. Refute it at one input. -/
def fnExactSumUnderWrong : ChangeSpec := { name := "fnExactSumUnder", fn := fun _ => fun
  | [d1, d2, d3] => { results := [.lit (.bool false)], args := [d1, d2, d3] }
  | _ => none }
def FnExactSumUnderWrongFalsely : Prop := fnExactSumUnderRow.holds Try.pinned (OpenSpec.ofChange fnExactSumUnderWrong)

/-- 'laws.FnExactOppositeUnder': WHATEVER THE INPUT: true; the input reads as it did. -/
def fnExactOppositeUnderSpec : ChangeSpec := { name := "fnExactOppositeUnder", fn := fun _ => fun
  | [d1, d2] => { results := [.lit (.bool true)], args := [d1, d2] }
  | _ => none }
def fnExactOppositeUnderRow : OpenClaim := { program := "ytpmbojbdppbkgaa", sum := "94d652a7317198c1e36ed7a396f66aca2004e5d581046de3b90ad39182cf32f0", func := "loop.example/g01152/laws.FnExactOppositeUnder", spec := "fnExactOppositeUnder", unfollowed := true, recurses := true, apart := false }
def FnExactOppositeUnderSaid : Prop := fnExactOppositeUnderRow.holds Try.pinned (OpenSpec.ofChange fnExactOppositeUnderSpec)

/-- ITS FALSE NEIGHBOUR: 'it returns false'. Refute it at one input. -/
def fnExactOppositeUnderWrong : ChangeSpec := { name := "fnExactOppositeUnder", fn := fun _ => fun
  | [d1, d2] => { results := [.lit (.bool false)], args := [d1, d2] }
  | _ => none }
def FnExactOppositeUnderWrongFalsely : Prop := fnExactOppositeUnderRow.holds Try.pinned (OpenSpec.ofChange fnExactOppositeUnderWrong)

/-- 'laws.FnExactDifferenceUnder': WHATEVER THE INPUT: true; the input reads as it did. -/
def fnExactDifferenceUnderSpec : ChangeSpec := { name := "fnExactDifferenceUnder", fn := fun _ => fun
  | [d1, d2, d3] => { results := [.lit (.bool true)], args := [d1, d2, d3] }
  | _ => none }
def fnExactDifferenceUnderRow : OpenClaim := { program := "ytpmbojbdppbkgaa", sum := "94d652a7317198c1e36ed7a396f66aca2004e5d581046de3b90ad39182cf32f0", func := "loop.example/g01152/laws.FnExactDifferenceUnder", spec := "fnExactDifferenceUnder", unfollowed := true, recurses := true, apart := false }
def FnExactDifferenceUnderSaid : Prop := fnExactDifferenceUnderRow.holds Try.pinned (OpenSpec.ofChange fnExactDifferenceUnderSpec)

/-- ITS FALSE NEIGHBOUR: 'it returns false'. Refute it at one input. -/
def fnExactDifferenceUnderWrong : ChangeSpec := { name := "fnExactDifferenceUnder", fn := fun _ => fun
  | [d1, d2, d3] => { results := [.lit (.bool false)], args := [d1, d2, d3] }
  | _ => none }
def FnExactDifferenceUnderWrongFalsely : Prop := fnExactDifferenceUnderRow.holds Try.pinned (OpenSpec.ofChange fnExactDifferenceUnderWrong)

/-- 'laws.FnExactMultipleUnder': WHATEVER THE INPUT: true; the input reads as it did. -/
def fnExactMultipleUnderSpec : ChangeSpec := { name := "fnExactMultipleUnder", fn := fun _ => fun
  | [d1, d2, d3] => { results := [.lit (.bool true)], args := [d1, d2, d3] }
  | _ => none }
def fnExactMultipleUnderRow : OpenClaim := { program := "ytpmbojbdppbkgaa", sum := "94d652a7317198c1e36ed7a396f66aca2004e5d581046de3b90ad39182cf32f0", func := "loop.example/g01152/laws.FnExactMultipleUnder", spec := "fnExactMultipleUnder", unfollowed := true, recurses := true, apart := false }
def FnExactMultipleUnderSaid : Prop := fnExactMultipleUnderRow.holds Try.pinned (OpenSpec.ofChange fnExactMultipleUnderSpec)

/-- ITS FALSE NEIGHBOUR: 'it returns false'. Refute it at one input. -/
def fnExactMultipleUnderWrong : ChangeSpec := { name := "fnExactMultipleUnder", fn := fun _ => fun
  | [d1, d2, d3] => { results := [.lit (.bool false)], args := [d1, d2, d3] }
  | _ => none }
def FnExactMultipleUnderWrongFalsely : Prop := fnExactMultipleUnderRow.holds Try.pinned (OpenSpec.ofChange fnExactMultipleUnderWrong)

/-- 'laws.FnExactMultipleOf': WHATEVER THE INPUT: true; the input reads as it did. -/
def fnExactMultipleOfSpec : ChangeSpec := { name := "fnExactMultipleOf", fn := fun _ => fun
  | [d1, d2] => { results := [.lit (.bool true)], args := [d1, d2] }
  | _ => none }
def fnExactMultipleOfRow : OpenClaim := { program := "ytpmbojbdppbkgaa", sum := "94d652a7317198c1e36ed7a396f66aca2004e5d581046de3b90ad39182cf32f0", func := "loop.example/g01152/laws.FnExactMultipleOf", spec := "fnExactMultipleOf", unfollowed := true, recurses := true, apart := false }
def FnExactMultipleOfSaid : Prop := fnExactMultipleOfRow.holds Try.pinned (OpenSpec.ofChange fnExactMultipleOfSpec)

/-- ITS FALSE NEIGHBOUR: 'it returns false'. Refute it at one input. -/
def fnExactMultipleOfWrong : ChangeSpec := { name := "fnExactMultipleOf", fn := fun _ => fun
  | [d1, d2] => { results := [.lit (.bool false)], args := [d1, d2] }
  | _ => none }
def FnExactMultipleOfWrongFalsely : Prop := fnExactMultipleOfRow.holds Try.pinned (OpenSpec.ofChange fnExactMultipleOfWrong)

/-- 'laws.FnExactDifferentialOf': WHATEVER THE INPUT: true; the input reads as it did. -/
def fnExactDifferentialOfSpec : ChangeSpec := { name := "fnExactDifferentialOf", fn := fun _ => fun
  | [d] => { results := [.lit (.bool true)], args := [d] }
  | _ => none }
def fnExactDifferentialOfRow : OpenClaim := { program := "ytpmbojbdppbkgaa", sum := "94d652a7317198c1e36ed7a396f66aca2004e5d581046de3b90ad39182cf32f0", func := "loop.example/g01152/laws.FnExactDifferentialOf", spec := "fnExactDifferentialOf", unfollowed := true, recurses := true, apart := false }
def FnExactDifferentialOfSaid : Prop := fnExactDifferentialOfRow.holds Try.pinned (OpenSpec.ofChange fnExactDifferentialOfSpec)

/-- ITS FALSE NEIGHBOUR: 'it returns false'. Refute it at one input. -/
def fnExactDifferentialOfWrong : ChangeSpec := { name := "fnExactDifferentialOf", fn := fun _ => fun
  | [d] => { results := [.lit (.bool false)], args := [d] }
  | _ => none }
def FnExactDifferentialOfWrongFalsely : Prop := fnExactDifferentialOfRow.holds Try.pinned (OpenSpec.ofChange fnExactDifferentialOfWrong)

/-- 'laws.FnExactLogarithmOf': WHATEVER THE INPUT: true; the input reads as it did. -/
def fnExactLogarithmOfSpec : ChangeSpec := { name := "fnExactLogarithmOf", fn := fun _ => fun
  | [d] => { results := [.lit (.bool true)], args := [d] }
  | _ => none }
def fnExactLogarithmOfRow : OpenClaim := { program := "ytpmbojbdppbkgaa", sum := "94d652a7317198c1e36ed7a396f66aca2004e5d581046de3b90ad39182cf32f0", func := "loop.example/g01152/laws.FnExactLogarithmOf", spec := "fnExactLogarithmOf", unfollowed := true, recurses := true, apart := false }
def FnExactLogarithmOfSaid : Prop := fnExactLogarithmOfRow.holds Try.pinned (OpenSpec.ofChange fnExactLogarithmOfSpec)

/-- ITS FALSE NEIGHBOUR: 'it returns false'. Refute it at one input. -/
def fnExactLogarithmOfWrong : ChangeSpec := { name := "fnExactLogarithmOf", fn := fun _ => fun
  | [d] => { results := [.lit (.bool false)], args := [d] }
  | _ => none }
def FnExactLogarithmOfWrongFalsely : Prop := fnExactLogarithmOfRow.holds Try.pinned (OpenSpec.ofChange fnExactLogarithmOfWrong)

/-- 'laws.FnExactExponentialOf': WHATEVER THE INPUT: true; the input reads as it did. -/
def fnExactExponentialOfSpec : ChangeSpec := { name := "fnExactExponentialOf", fn := fun _ => fun
  | [d] => { results := [.lit (.bool true)], args := [d] }
  | _ => none }
def fnExactExponentialOfRow : OpenClaim := { program := "ytpmbojbdppbkgaa", sum := "94d652a7317198c1e36ed7a396f66aca2004e5d581046de3b90ad39182cf32f0", func := "loop.example/g01152/laws.FnExactExponentialOf", spec := "fnExactExponentialOf", unfollowed := true, recurses := true, apart := false }
def FnExactExponentialOfSaid : Prop := fnExactExponentialOfRow.holds Try.pinned (OpenSpec.ofChange fnExactExponentialOfSpec)

/-- ITS FALSE NEIGHBOUR: 'it returns false'. Refute it at one input. -/
def fnExactExponentialOfWrong : ChangeSpec := { name := "fnExactExponentialOf", fn := fun _ => fun
  | [d] => { results := [.lit (.bool false)], args := [d] }
  | _ => none }
def FnExactExponentialOfWrongFalsely : Prop := fnExactExponentialOfRow.holds Try.pinned (OpenSpec.ofChange fnExactExponentialOfWrong)

/-- 'laws.FnExactIsLogarithm': WHATEVER THE INPUT: true; the input reads as it did. -/
def fnExactIsLogarithmSpec : ChangeSpec := { name := "fnExactIsLogarithm", fn := fun _ => fun
  | [d1, d2] => { results := [.lit (.bool true)], args := [d1, d2] }
  | _ => none }
def fnExactIsLogarithmRow : OpenClaim := { program := "ytpmbojbdppbkgaa", sum := "94d652a7317198c1e36ed7a396f66aca2004e5d581046de3b90ad39182cf32f0", func := "loop.example/g01152/laws.FnExactIsLogarithm", spec := "fnExactIsLogarithm", unfollowed := true, recurses := true, apart := false }
def FnExactIsLogarithmSaid : Prop := fnExactIsLogarithmRow.holds Try.pinned (OpenSpec.ofChange fnExactIsLogarithmSpec)

/-- ITS FALSE NEIGHBOUR: 'it returns false'. Refute it at one input. -/
def fnExactIsLogarithmWrong : ChangeSpec := { name := "fnExactIsLogarithm", fn := fun _ => fun
  | [d1, d2] => { results := [.lit (.bool false)], args := [d1, d2] }
  | _ => none }
def FnExactIsLogarithmWrongFalsely : Prop := fnExactIsLogarithmRow.holds Try.pinned (OpenSpec.ofChange fnExactIsLogarithmWrong)

/-- 'laws.FnExactLawOfCurve': WHATEVER THE INPUT: true; the input reads as it did. -/
def fnExactLawOfCurveSpec : ChangeSpec := { name := "fnExactLawOfCurve", fn := fun _ => fun
  | [d] => { results := [.lit (.bool true)], args := [d] }
  | _ => none }
def fnExactLawOfCurveRow : OpenClaim := { program := "ytpmbojbdppbkgaa", sum := "94d652a7317198c1e36ed7a396f66aca2004e5d581046de3b90ad39182cf32f0", func := "loop.example/g01152/laws.FnExactLawOfCurve", spec := "fnExactLawOfCurve", unfollowed := true, recurses := true, apart := false }
def FnExactLawOfCurveSaid : Prop := fnExactLawOfCurveRow.holds Try.pinned (OpenSpec.ofChange fnExactLawOfCurveSpec)

/-- ITS FALSE NEIGHBOUR: 'it returns false'. Refute it at one input. -/
def fnExactLawOfCurveWrong : ChangeSpec := { name := "fnExactLawOfCurve", fn := fun _ => fun
  | [d] => { results := [.lit (.bool false)], args := [d] }
  | _ => none }
def FnExactLawOfCurveWrongFalsely : Prop := fnExactLawOfCurveRow.holds Try.pinned (OpenSpec.ofChange fnExactLawOfCurveWrong)

/-- 'laws.FnExactLawOfDifferential': WHATEVER THE INPUT: true; the input reads as it did. -/
def fnExactLawOfDifferentialSpec : ChangeSpec := { name := "fnExactLawOfDifferential", fn := fun _ => fun
  | [d] => { results := [.lit (.bool true)], args := [d] }
  | _ => none }
def fnExactLawOfDifferentialRow : OpenClaim := { program := "ytpmbojbdppbkgaa", sum := "94d652a7317198c1e36ed7a396f66aca2004e5d581046de3b90ad39182cf32f0", func := "loop.example/g01152/laws.FnExactLawOfDifferential", spec := "fnExactLawOfDifferential", unfollowed := true, recurses := true, apart := false }
def FnExactLawOfDifferentialSaid : Prop := fnExactLawOfDifferentialRow.holds Try.pinned (OpenSpec.ofChange fnExactLawOfDifferentialSpec)

/-- ITS FALSE NEIGHBOUR: 'it returns false'. Refute it at one input. -/
def fnExactLawOfDifferentialWrong : ChangeSpec := { name := "fnExactLawOfDifferential", fn := fun _ => fun
  | [d] => { results := [.lit (.bool false)], args := [d] }
  | _ => none }
def FnExactLawOfDifferentialWrongFalsely : Prop := fnExactLawOfDifferentialRow.holds Try.pinned (OpenSpec.ofChange fnExactLawOfDifferentialWrong)

/-- 'laws.FnExactMultipleByLogarithm': WHATEVER THE INPUT: true; the input reads as it did. -/
def fnExactMultipleByLogarithmSpec : ChangeSpec := { name := "fnExactMultipleByLogarithm", fn := fun _ => fun
  | [d1, d2] => { results := [.lit (.bool true)], args := [d1, d2] }
  | _ => none }
def fnExactMultipleByLogarithmRow : OpenClaim := { program := "ytpmbojbdppbkgaa", sum := "94d652a7317198c1e36ed7a396f66aca2004e5d581046de3b90ad39182cf32f0", func := "loop.example/g01152/laws.FnExactMultipleByLogarithm", spec := "fnExactMultipleByLogarithm", unfollowed := true, recurses := true, apart := false }
def FnExactMultipleByLogarithmSaid : Prop := fnExactMultipleByLogarithmRow.holds Try.pinned (OpenSpec.ofChange fnExactMultipleByLogarithmSpec)

/-- ITS FALSE NEIGHBOUR: 'it returns false'. Refute it at one input. -/
def fnExactMultipleByLogarithmWrong : ChangeSpec := { name := "fnExactMultipleByLogarithm", fn := fun _ => fun
  | [d1, d2] => { results := [.lit (.bool false)], args := [d1, d2] }
  | _ => none }
def FnExactMultipleByLogarithmWrongFalsely : Prop := fnExactMultipleByLogarithmRow.holds Try.pinned (OpenSpec.ofChange fnExactMultipleByLogarithmWrong)

/-- 'laws.FnExactIsHomomorphism': WHATEVER THE INPUT: true; the input reads as it did. -/
def fnExactIsHomomorphismSpec : ChangeSpec := { name := "fnExactIsHomomorphism", fn := fun _ => fun
  | [d1, d2, d3] => { results := [.lit (.bool true)], args := [d1, d2, d3] }
  | _ => none }
def fnExactIsHomomorphismRow : OpenClaim := { program := "ytpmbojbdppbkgaa", sum := "94d652a7317198c1e36ed7a396f66aca2004e5d581046de3b90ad39182cf32f0", func := "loop.example/g01152/laws.FnExactIsHomomorphism", spec := "fnExactIsHomomorphism", unfollowed := true, recurses := true, apart := false }
def FnExactIsHomomorphismSaid : Prop := fnExactIsHomomorphismRow.holds Try.pinned (OpenSpec.ofChange fnExactIsHomomorphismSpec)

/-- ITS FALSE NEIGHBOUR: 'it returns false'. Refute it at one input. -/
def fnExactIsHomomorphismWrong : ChangeSpec := { name := "fnExactIsHomomorphism", fn := fun _ => fun
  | [d1, d2, d3] => { results := [.lit (.bool false)], args := [d1, d2, d3] }
  | _ => none }
def FnExactIsHomomorphismWrongFalsely : Prop := fnExactIsHomomorphismRow.holds Try.pinned (OpenSpec.ofChange fnExactIsHomomorphismWrong)

/-- 'laws.FnExactLawInCoordinate': WHATEVER THE INPUT: true; the input reads as it did. -/
def fnExactLawInCoordinateSpec : ChangeSpec := { name := "fnExactLawInCoordinate", fn := fun _ => fun
  | [d1, d2] => { results := [.lit (.bool true)], args := [d1, d2] }
  | _ => none }
def fnExactLawInCoordinateRow : OpenClaim := { program := "ytpmbojbdppbkgaa", sum := "94d652a7317198c1e36ed7a396f66aca2004e5d581046de3b90ad39182cf32f0", func := "loop.example/g01152/laws.FnExactLawInCoordinate", spec := "fnExactLawInCoordinate", unfollowed := true, recurses := true, apart := false }
def FnExactLawInCoordinateSaid : Prop := fnExactLawInCoordinateRow.holds Try.pinned (OpenSpec.ofChange fnExactLawInCoordinateSpec)

/-- ITS FALSE NEIGHBOUR: 'it returns false'. Refute it at one input. -/
def fnExactLawInCoordinateWrong : ChangeSpec := { name := "fnExactLawInCoordinate", fn := fun _ => fun
  | [d1, d2] => { results := [.lit (.bool false)], args := [d1, d2] }
  | _ => none }
def FnExactLawInCoordinateWrongFalsely : Prop := fnExactLawInCoordinateRow.holds Try.pinned (OpenSpec.ofChange fnExactLawInCoordinateWrong)

/- THE SECOND FORM. 'bulk': how many values and letters a reading holds, each counted each time it is reached (what is shared counts as often as it is met; a slice's spare places count too). A statement '..UptoSaid' is the law's where the arguments, and the package variables that the reading takes, are together of bulk at most 1048576: NARROWER than '..Said'. Prove '..Said' where nothing that the law and all that it calls make is longer than what came in: it says more and counts as full. Else prove '..UptoSaid'. A law counts once. -/
mutual
def uptoBulk {H : Type} : DataW H → Nat
  | .lit (.string bytes) => bytes.length + 1
  | .lit _ => 1
  | .nil => 1
  | .ptr d => uptoBulk d + 1
  | .slice elems spare => uptoBulkAll elems + uptoBulkAll spare + 1
  | .agg parts => uptoBulkAll parts + 1
  | .iface _ d => uptoBulk d + 1
  | .map entries => uptoBulkEntries entries + 1
  | .held _ => 1
def uptoBulkAll {H : Type} : List (DataW H) → Nat
  | [] => 0
  | d :: r => uptoBulk d + uptoBulkAll r
def uptoBulkEntries {H : Type} : List (Lit × DataW H) → Nat
  | [] => 0
  | x :: r => uptoBulkEntry x + uptoBulkEntries r
def uptoBulkEntry {H : Type} : Lit × DataW H → Nat
  | (.string bytes, d) => bytes.length + uptoBulk d + 1
  | (_, d) => uptoBulk d + 1
 end
def uptoSmall : (H : Type) → List (DataW H) → Bool := fun _ ds => decide (uptoBulkAll ds ≤ 1048576)
def OpenSpec.upto (s : _root_.Go.ChangeSpec) : _root_.Go.OpenSpec := { _root_.Go.OpenSpec.ofChange s with cond := some uptoSmall }

/-- 'laws.FnExactInverseOfLaw', WHERE WHAT IT READS IS OF BULK AT MOST 1048576: true; the input reads as it did. -/
def fnExactInverseOfLawUptoRow : OpenClaim := { program := "ytpmbojbdppbkgaa", sum := "94d652a7317198c1e36ed7a396f66aca2004e5d581046de3b90ad39182cf32f0", func := "loop.example/g01152/laws.FnExactInverseOfLaw", spec := "fnExactInverseOfLaw", unfollowed := true, recurses := true, apart := false, narrowed := true }
def FnExactInverseOfLawUptoSaid : Prop := fnExactInverseOfLawUptoRow.holds Try.pinned (OpenSpec.upto fnExactInverseOfLawSpec)

/-- 'laws.FnExactSumUnder', WHERE WHAT IT READS IS OF BULK AT MOST 1048576: true; the input reads as it did. -/
def fnExactSumUnderUptoRow : OpenClaim := { program := "ytpmbojbdppbkgaa", sum := "94d652a7317198c1e36ed7a396f66aca2004e5d581046de3b90ad39182cf32f0", func := "loop.example/g01152/laws.FnExactSumUnder", spec := "fnExactSumUnder", unfollowed := true, recurses := true, apart := false, narrowed := true }
def FnExactSumUnderUptoSaid : Prop := fnExactSumUnderUptoRow.holds Try.pinned (OpenSpec.upto fnExactSumUnderSpec)

/-- 'laws.FnExactOppositeUnder', WHERE WHAT IT READS IS OF BULK AT MOST 1048576: true; the input reads as it did. -/
def fnExactOppositeUnderUptoRow : OpenClaim := { program := "ytpmbojbdppbkgaa", sum := "94d652a7317198c1e36ed7a396f66aca2004e5d581046de3b90ad39182cf32f0", func := "loop.example/g01152/laws.FnExactOppositeUnder", spec := "fnExactOppositeUnder", unfollowed := true, recurses := true, apart := false, narrowed := true }
def FnExactOppositeUnderUptoSaid : Prop := fnExactOppositeUnderUptoRow.holds Try.pinned (OpenSpec.upto fnExactOppositeUnderSpec)

/-- 'laws.FnExactDifferenceUnder', WHERE WHAT IT READS IS OF BULK AT MOST 1048576: true; the input reads as it did. -/
def fnExactDifferenceUnderUptoRow : OpenClaim := { program := "ytpmbojbdppbkgaa", sum := "94d652a7317198c1e36ed7a396f66aca2004e5d581046de3b90ad39182cf32f0", func := "loop.example/g01152/laws.FnExactDifferenceUnder", spec := "fnExactDifferenceUnder", unfollowed := true, recurses := true, apart := false, narrowed := true }
def FnExactDifferenceUnderUptoSaid : Prop := fnExactDifferenceUnderUptoRow.holds Try.pinned (OpenSpec.upto fnExactDifferenceUnderSpec)

/-- 'laws.FnExactMultipleUnder', WHERE WHAT IT READS IS OF BULK AT MOST 1048576: true; the input reads as it did. -/
def fnExactMultipleUnderUptoRow : OpenClaim := { program := "ytpmbojbdppbkgaa", sum := "94d652a7317198c1e36ed7a396f66aca2004e5d581046de3b90ad39182cf32f0", func := "loop.example/g01152/laws.FnExactMultipleUnder", spec := "fnExactMultipleUnder", unfollowed := true, recurses := true, apart := false, narrowed := true }
def FnExactMultipleUnderUptoSaid : Prop := fnExactMultipleUnderUptoRow.holds Try.pinned (OpenSpec.upto fnExactMultipleUnderSpec)

/-- 'laws.FnExactMultipleOf', WHERE WHAT IT READS IS OF BULK AT MOST 1048576: true; the input reads as it did. -/
def fnExactMultipleOfUptoRow : OpenClaim := { program := "ytpmbojbdppbkgaa", sum := "94d652a7317198c1e36ed7a396f66aca2004e5d581046de3b90ad39182cf32f0", func := "loop.example/g01152/laws.FnExactMultipleOf", spec := "fnExactMultipleOf", unfollowed := true, recurses := true, apart := false, narrowed := true }
def FnExactMultipleOfUptoSaid : Prop := fnExactMultipleOfUptoRow.holds Try.pinned (OpenSpec.upto fnExactMultipleOfSpec)

/-- 'laws.FnExactDifferentialOf', WHERE WHAT IT READS IS OF BULK AT MOST 1048576: true; the input reads as it did. -/
def fnExactDifferentialOfUptoRow : OpenClaim := { program := "ytpmbojbdppbkgaa", sum := "94d652a7317198c1e36ed7a396f66aca2004e5d581046de3b90ad39182cf32f0", func := "loop.example/g01152/laws.FnExactDifferentialOf", spec := "fnExactDifferentialOf", unfollowed := true, recurses := true, apart := false, narrowed := true }
def FnExactDifferentialOfUptoSaid : Prop := fnExactDifferentialOfUptoRow.holds Try.pinned (OpenSpec.upto fnExactDifferentialOfSpec)

/-- 'laws.FnExactLogarithmOf', WHERE WHAT IT READS IS OF BULK AT MOST 1048576: true; the input reads as it did. -/
def fnExactLogarithmOfUptoRow : OpenClaim := { program := "ytpmbojbdppbkgaa", sum := "94d652a7317198c1e36ed7a396f66aca2004e5d581046de3b90ad39182cf32f0", func := "loop.example/g01152/laws.FnExactLogarithmOf", spec := "fnExactLogarithmOf", unfollowed := true, recurses := true, apart := false, narrowed := true }
def FnExactLogarithmOfUptoSaid : Prop := fnExactLogarithmOfUptoRow.holds Try.pinned (OpenSpec.upto fnExactLogarithmOfSpec)

/-- 'laws.FnExactExponentialOf', WHERE WHAT IT READS IS OF BULK AT MOST 1048576: true; the input reads as it did. -/
def fnExactExponentialOfUptoRow : OpenClaim := { program := "ytpmbojbdppbkgaa", sum := "94d652a7317198c1e36ed7a396f66aca2004e5d581046de3b90ad39182cf32f0", func := "loop.example/g01152/laws.FnExactExponentialOf", spec := "fnExactExponentialOf", unfollowed := true, recurses := true, apart := false, narrowed := true }
def FnExactExponentialOfUptoSaid : Prop := fnExactExponentialOfUptoRow.holds Try.pinned (OpenSpec.upto fnExactExponentialOfSpec)

/-- 'laws.FnExactIsLogarithm', WHERE WHAT IT READS IS OF BULK AT MOST 1048576: true; the input reads as it did. -/
def fnExactIsLogarithmUptoRow : OpenClaim := { program := "ytpmbojbdppbkgaa", sum := "94d652a7317198c1e36ed7a396f66aca2004e5d581046de3b90ad39182cf32f0", func := "loop.example/g01152/laws.FnExactIsLogarithm", spec := "fnExactIsLogarithm", unfollowed := true, recurses := true, apart := false, narrowed := true }
def FnExactIsLogarithmUptoSaid : Prop := fnExactIsLogarithmUptoRow.holds Try.pinned (OpenSpec.upto fnExactIsLogarithmSpec)

/-- 'laws.FnExactLawOfCurve', WHERE WHAT IT READS IS OF BULK AT MOST 1048576: true; the input reads as it did. -/
def fnExactLawOfCurveUptoRow : OpenClaim := { program := "ytpmbojbdppbkgaa", sum := "94d652a7317198c1e36ed7a396f66aca2004e5d581046de3b90ad39182cf32f0", func := "loop.example/g01152/laws.FnExactLawOfCurve", spec := "fnExactLawOfCurve", unfollowed := true, recurses := true, apart := false, narrowed := true }
def FnExactLawOfCurveUptoSaid : Prop := fnExactLawOfCurveUptoRow.holds Try.pinned (OpenSpec.upto fnExactLawOfCurveSpec)

/-- 'laws.FnExactLawOfDifferential', WHERE WHAT IT READS IS OF BULK AT MOST 1048576: true; the input reads as it did. -/
def fnExactLawOfDifferentialUptoRow : OpenClaim := { program := "ytpmbojbdppbkgaa", sum := "94d652a7317198c1e36ed7a396f66aca2004e5d581046de3b90ad39182cf32f0", func := "loop.example/g01152/laws.FnExactLawOfDifferential", spec := "fnExactLawOfDifferential", unfollowed := true, recurses := true, apart := false, narrowed := true }
def FnExactLawOfDifferentialUptoSaid : Prop := fnExactLawOfDifferentialUptoRow.holds Try.pinned (OpenSpec.upto fnExactLawOfDifferentialSpec)

/-- 'laws.FnExactMultipleByLogarithm', WHERE WHAT IT READS IS OF BULK AT MOST 1048576: true; the input reads as it did. -/
def fnExactMultipleByLogarithmUptoRow : OpenClaim := { program := "ytpmbojbdppbkgaa", sum := "94d652a7317198c1e36ed7a396f66aca2004e5d581046de3b90ad39182cf32f0", func := "loop.example/g01152/laws.FnExactMultipleByLogarithm", spec := "fnExactMultipleByLogarithm", unfollowed := true, recurses := true, apart := false, narrowed := true }
def FnExactMultipleByLogarithmUptoSaid : Prop := fnExactMultipleByLogarithmUptoRow.holds Try.pinned (OpenSpec.upto fnExactMultipleByLogarithmSpec)

/-- 'laws.FnExactIsHomomorphism', WHERE WHAT IT READS IS OF BULK AT MOST 1048576: true; the input reads as it did. -/
def fnExactIsHomomorphismUptoRow : OpenClaim := { program := "ytpmbojbdppbkgaa", sum := "94d652a7317198c1e36ed7a396f66aca2004e5d581046de3b90ad39182cf32f0", func := "loop.example/g01152/laws.FnExactIsHomomorphism", spec := "fnExactIsHomomorphism", unfollowed := true, recurses := true, apart := false, narrowed := true }
def FnExactIsHomomorphismUptoSaid : Prop := fnExactIsHomomorphismUptoRow.holds Try.pinned (OpenSpec.upto fnExactIsHomomorphismSpec)

/-- 'laws.FnExactLawInCoordinate', WHERE WHAT IT READS IS OF BULK AT MOST 1048576: true; the input reads as it did. -/
def fnExactLawInCoordinateUptoRow : OpenClaim := { program := "ytpmbojbdppbkgaa", sum := "94d652a7317198c1e36ed7a396f66aca2004e5d581046de3b90ad39182cf32f0", func := "loop.example/g01152/laws.FnExactLawInCoordinate", spec := "fnExactLawInCoordinate", unfollowed := true, recurses := true, apart := false, narrowed := true }
def FnExactLawInCoordinateUptoSaid : Prop := fnExactLawInCoordinateUptoRow.holds Try.pinned (OpenSpec.upto fnExactLawInCoordinateSpec)

end Rows
end Go.Proofs.Ytpmbojbdppbkgaa
