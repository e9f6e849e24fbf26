/-
  No cell of these rows narrows 'for every input' (looked for: loops, veiled, ifaces, maps, wideKeys, modest, calm, conditions, laid).
  DERIVED. THE GIVEN ROWS OF THIS SEAT. 4 by the template 'for every input the law returns true; each argument reads behind the call as it read before'; 0 by the template 'total and deterministic' (their statements: YtilfjhnkjdfcoaaTotals.lean).
  GIVEN WITH THE SEED: the statements are not yours to turn. If you find one false, say at which input.
  Laid BY PROGRAM, IN A SANDBOX (cutbox-rows.mjs): the forced cells as the released guide's own fill.sh prints them over the translation d65d551e3c6923f1… (all of the seat's roots in one cut). By AI agents, Wed Nov 11 2026. No macro, syntax, notation, axiom, sorry.
-/
import Derived.Test.YtilfjhnkjdfcoaaChecked
import GoSem.Claim
import GoSem.ClaimJoined
import GoSem.ClaimMapViews
import Derived.JoinedTies
import Derived.KernelRfl
namespace Go.Proofs.Ytilfjhnkjdfcoaa
/- THE CELL 'sum', in the pinned program and in every row, IS THE sha256 OF THE DUMP (.gsa) THAT YtilfjhnkjdfcoaaProg.lean LOADS. Nothing in Lean hashes anything: it is a label: what it is worth is what the hold of that sum in a sandbox is worth. -/
noncomputable def Try.pinned : Pinned := { name := "ytilfjhnkjdfcoaa", sum := "d65d551e3c6923f18d507e2dcd0588c9cb0d9956492bc22e7a29de8dbd3cb179", checked := Try.checked }
namespace Rows
def none {H : Type} : Left H := { results := [], args := [] }

/-- 'laws.FnExactAdditiveLaw': WHATEVER THE INPUT: true; the input reads as it did. -/
def fnExactAdditiveLawSpec : ChangeSpec := { name := "fnExactAdditiveLaw", fn := fun _ => fun
  | [d1, d2] => { results := [.lit (.bool true)], args := [d1, d2] }
  | _ => none }
def fnExactAdditiveLawRow : OpenClaim := { program := "ytilfjhnkjdfcoaa", sum := "d65d551e3c6923f18d507e2dcd0588c9cb0d9956492bc22e7a29de8dbd3cb179", func := "loop.example/g01152/laws.FnExactAdditiveLaw", spec := "fnExactAdditiveLaw", unfollowed := true, recurses := true, apart := false }
def FnExactAdditiveLawSaid : Prop := fnExactAdditiveLawRow.holds Try.pinned (OpenSpec.ofChange fnExactAdditiveLawSpec)

/-- ITS FALSE NEIGHBOUR: 'it returns false'. Refute it at one input. -/
def fnExactAdditiveLawWrong : ChangeSpec := { name := "fnExactAdditiveLaw", fn := fun _ => fun
  | [d1, d2] => { results := [.lit (.bool false)], args := [d1, d2] }
  | _ => none }
def FnExactAdditiveLawWrongFalsely : Prop := fnExactAdditiveLawRow.holds Try.pinned (OpenSpec.ofChange fnExactAdditiveLawWrong)

/-- 'laws.FnExactMultiplicativeLaw': WHATEVER THE INPUT: true; the input reads as it did. -/
def fnExactMultiplicativeLawSpec : ChangeSpec := { name := "fnExactMultiplicativeLaw", fn := fun _ => fun
  | [d1, d2, d3] => { results := [.lit (.bool true)], args := [d1, d2, d3] }
  | _ => none }
def fnExactMultiplicativeLawRow : OpenClaim := { program := "ytilfjhnkjdfcoaa", sum := "d65d551e3c6923f18d507e2dcd0588c9cb0d9956492bc22e7a29de8dbd3cb179", func := "loop.example/g01152/laws.FnExactMultiplicativeLaw", spec := "fnExactMultiplicativeLaw", unfollowed := true, recurses := true, apart := false }
def FnExactMultiplicativeLawSaid : Prop := fnExactMultiplicativeLawRow.holds Try.pinned (OpenSpec.ofChange fnExactMultiplicativeLawSpec)

/-- ITS FALSE NEIGHBOUR: 'it returns false'. Refute it at one input. -/
def fnExactMultiplicativeLawWrong : ChangeSpec := { name := "fnExactMultiplicativeLaw", fn := fun _ => fun
  | [d1, d2, d3] => { results := [.lit (.bool false)], args := [d1, d2, d3] }
  | _ => none }
def FnExactMultiplicativeLawWrongFalsely : Prop := fnExactMultiplicativeLawRow.holds Try.pinned (OpenSpec.ofChange fnExactMultiplicativeLawWrong)

/-- 'laws.FnExactTangentLaw': WHATEVER THE INPUT: true; the input reads as it did. -/
def fnExactTangentLawSpec : ChangeSpec := { name := "fnExactTangentLaw", fn := fun _ => fun
  | [d1, d2, d3] => { results := [.lit (.bool true)], args := [d1, d2, d3] }
  | _ => none }
def fnExactTangentLawRow : OpenClaim := { program := "ytilfjhnkjdfcoaa", sum := "d65d551e3c6923f18d507e2dcd0588c9cb0d9956492bc22e7a29de8dbd3cb179", func := "loop.example/g01152/laws.FnExactTangentLaw", spec := "fnExactTangentLaw", unfollowed := true, recurses := true, apart := false }
def FnExactTangentLawSaid : Prop := fnExactTangentLawRow.holds Try.pinned (OpenSpec.ofChange fnExactTangentLawSpec)

/-- ITS FALSE NEIGHBOUR: 'it returns false'. Refute it at one input. -/
def fnExactTangentLawWrong : ChangeSpec := { name := "fnExactTangentLaw", fn := fun _ => fun
  | [d1, d2, d3] => { results := [.lit (.bool false)], args := [d1, d2, d3] }
  | _ => none }
def FnExactTangentLawWrongFalsely : Prop := fnExactTangentLawRow.holds Try.pinned (OpenSpec.ofChange fnExactTangentLawWrong)

/-- 'laws.FnExactEulerLaw': WHATEVER THE INPUT: true; the input reads as it did. -/
def fnExactEulerLawSpec : ChangeSpec := { name := "fnExactEulerLaw", fn := fun _ => fun
  | [d1, d2, d3, d4] => { results := [.lit (.bool true)], args := [d1, d2, d3, d4] }
  | _ => none }
def fnExactEulerLawRow : OpenClaim := { program := "ytilfjhnkjdfcoaa", sum := "d65d551e3c6923f18d507e2dcd0588c9cb0d9956492bc22e7a29de8dbd3cb179", func := "loop.example/g01152/laws.FnExactEulerLaw", spec := "fnExactEulerLaw", unfollowed := true, recurses := true, apart := false }
def FnExactEulerLawSaid : Prop := fnExactEulerLawRow.holds Try.pinned (OpenSpec.ofChange fnExactEulerLawSpec)

/-- ITS FALSE NEIGHBOUR: 'it returns false'. Refute it at one input. -/
def fnExactEulerLawWrong : ChangeSpec := { name := "fnExactEulerLaw", fn := fun _ => fun
  | [d1, d2, d3, d4] => { results := [.lit (.bool false)], args := [d1, d2, d3, d4] }
  | _ => none }
def FnExactEulerLawWrongFalsely : Prop := fnExactEulerLawRow.holds Try.pinned (OpenSpec.ofChange fnExactEulerLawWrong)

/- THE SECOND FORM. 'bulk': how many values and letters a reading holds, each counted each time it is reached (what is shared counts as often as it is met; a slice's spare places count too). A statement '..UptoSaid' is the law's where the arguments, and the package variables that the reading takes, are together of bulk at most 1048576: NARROWER than '..Said'. Prove '..Said' where nothing that the law and all that it calls make is longer than what came in: it says more and counts as full. Else prove '..UptoSaid'. A law counts once. -/
mutual
def uptoBulk {H : Type} : DataW H → Nat
  | .lit (.string bytes) => bytes.length + 1
  | .lit _ => 1
  | .nil => 1
  | .ptr d => uptoBulk d + 1
  | .slice elems spare => uptoBulkAll elems + uptoBulkAll spare + 1
  | .agg parts => uptoBulkAll parts + 1
  | .iface _ d => uptoBulk d + 1
  | .map entries => uptoBulkEntries entries + 1
  | .held _ => 1
def uptoBulkAll {H : Type} : List (DataW H) → Nat
  | [] => 0
  | d :: r => uptoBulk d + uptoBulkAll r
def uptoBulkEntries {H : Type} : List (Lit × DataW H) → Nat
  | [] => 0
  | x :: r => uptoBulkEntry x + uptoBulkEntries r
def uptoBulkEntry {H : Type} : Lit × DataW H → Nat
  | (.string bytes, d) => bytes.length + uptoBulk d + 1
  | (_, d) => uptoBulk d + 1
 end
def uptoSmall : (H : Type) → List (DataW H) → Bool := fun _ ds => decide (uptoBulkAll ds ≤ 1048576)
def OpenSpec.upto (s : _root_.Go.ChangeSpec) : _root_.Go.OpenSpec := { _root_.Go.OpenSpec.ofChange s with cond := some uptoSmall }

/-- 'laws.FnExactAdditiveLaw', WHERE WHAT IT READS IS OF BULK AT MOST 1048576: true; the input reads as it did. -/
def fnExactAdditiveLawUptoRow : OpenClaim := { program := "ytilfjhnkjdfcoaa", sum := "d65d551e3c6923f18d507e2dcd0588c9cb0d9956492bc22e7a29de8dbd3cb179", func := "loop.example/g01152/laws.FnExactAdditiveLaw", spec := "fnExactAdditiveLaw", unfollowed := true, recurses := true, apart := false, narrowed := true }
def FnExactAdditiveLawUptoSaid : Prop := fnExactAdditiveLawUptoRow.holds Try.pinned (OpenSpec.upto fnExactAdditiveLawSpec)

/-- 'laws.FnExactMultiplicativeLaw', WHERE WHAT IT READS IS OF BULK AT MOST 1048576: true; the input reads as it did. -/
def fnExactMultiplicativeLawUptoRow : OpenClaim := { program := "ytilfjhnkjdfcoaa", sum := "d65d551e3c6923f18d507e2dcd0588c9cb0d9956492bc22e7a29de8dbd3cb179", func := "loop.example/g01152/laws.FnExactMultiplicativeLaw", spec := "fnExactMultiplicativeLaw", unfollowed := true, recurses := true, apart := false, narrowed := true }
def FnExactMultiplicativeLawUptoSaid : Prop := fnExactMultiplicativeLawUptoRow.holds Try.pinned (OpenSpec.upto fnExactMultiplicativeLawSpec)

/-- 'laws.FnExactTangentLaw', WHERE WHAT IT READS IS OF BULK AT MOST 1048576: true; the input reads as it did. -/
def fnExactTangentLawUptoRow : OpenClaim := { program := "ytilfjhnkjdfcoaa", sum := "d65d551e3c6923f18d507e2dcd0588c9cb0d9956492bc22e7a29de8dbd3cb179", func := "loop.example/g01152/laws.FnExactTangentLaw", spec := "fnExactTangentLaw", unfollowed := true, recurses := true, apart := false, narrowed := true }
def FnExactTangentLawUptoSaid : Prop := fnExactTangentLawUptoRow.holds Try.pinned (OpenSpec.upto fnExactTangentLawSpec)

/-- 'laws.FnExactEulerLaw', WHERE WHAT IT READS IS OF BULK AT MOST 1048576: true; the input reads as it did. -/
def fnExactEulerLawUptoRow : OpenClaim := { program := "ytilfjhnkjdfcoaa", sum := "d65d551e3c6923f18d507e2dcd0588c9cb0d9956492bc22e7a29de8dbd3cb179", func := "loop.example/g01152/laws.FnExactEulerLaw", spec := "fnExactEulerLaw", unfollowed := true, recurses := true, apart := false, narrowed := true }
def FnExactEulerLawUptoSaid : Prop := fnExactEulerLawUptoRow.holds Try.pinned (OpenSpec.upto fnExactEulerLawSpec)

end Rows
end Go.Proofs.Ytilfjhnkjdfcoaa
