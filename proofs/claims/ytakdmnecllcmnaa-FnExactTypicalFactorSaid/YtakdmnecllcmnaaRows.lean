/-
  No cell of these rows narrows 'for every input' (looked for: loops, veiled, ifaces, maps, wideKeys, modest, calm, conditions, laid).
  DERIVED. THE GIVEN ROWS OF THIS SEAT. 4 by the template 'for every input the law returns true; each argument reads behind the call as it read before'; 0 by the template 'total and deterministic' (their statements: YtakdmnecllcmnaaTotals.lean).
  GIVEN WITH THE SEED: the statements are not yours to turn. If you find one false, say at which input.
  Laid BY PROGRAM, IN A SANDBOX (cutbox-rows.mjs): the forced cells as the released guide's own fill.sh prints them over the translation a9c3448426880705… (all of the seat's roots in one cut). By AI agents, Wed Nov 11 2026. No macro, syntax, notation, axiom, sorry.
-/
import Derived.Test.YtakdmnecllcmnaaChecked
import GoSem.Claim
import GoSem.ClaimJoined
import GoSem.ClaimMapViews
import Derived.JoinedTies
import Derived.KernelRfl
namespace Go.Proofs.Ytakdmnecllcmnaa
/- THE CELL 'sum', in the pinned program and in every row, IS THE sha256 OF THE DUMP (.gsa) THAT YtakdmnecllcmnaaProg.lean LOADS. Nothing in Lean hashes anything: it is a label: what it is worth is what the hold of that sum in a sandbox is worth. -/
noncomputable def Try.pinned : Pinned := { name := "ytakdmnecllcmnaa", sum := "a9c3448426880705abad595f2dbb12dfd13ea4a9f0f50ab48bd97f8e8e7232ed", checked := Try.checked }
namespace Rows
def none {H : Type} : Left H := { results := [], args := [] }

/-- 'laws.FnExactTypicalNumerators': WHATEVER THE INPUT: true; the input reads as it did. -/
def fnExactTypicalNumeratorsSpec : ChangeSpec := { name := "fnExactTypicalNumerators", fn := fun _ => fun
  | [d1, d2, d3] => { results := [.lit (.bool true)], args := [d1, d2, d3] }
  | _ => none }
def fnExactTypicalNumeratorsRow : OpenClaim := { program := "ytakdmnecllcmnaa", sum := "a9c3448426880705abad595f2dbb12dfd13ea4a9f0f50ab48bd97f8e8e7232ed", func := "loop.example/g01152/laws.FnExactTypicalNumerators", spec := "fnExactTypicalNumerators", unfollowed := true, recurses := true, apart := false }
def FnExactTypicalNumeratorsSaid : Prop := fnExactTypicalNumeratorsRow.holds Try.pinned (OpenSpec.ofChange fnExactTypicalNumeratorsSpec)

/-- ITS FALSE NEIGHBOUR: 'it returns false'. Refute it at one input. -/
def fnExactTypicalNumeratorsWrong : ChangeSpec := { name := "fnExactTypicalNumerators", fn := fun _ => fun
  | [d1, d2, d3] => { results := [.lit (.bool false)], args := [d1, d2, d3] }
  | _ => none }
def FnExactTypicalNumeratorsWrongFalsely : Prop := fnExactTypicalNumeratorsRow.holds Try.pinned (OpenSpec.ofChange fnExactTypicalNumeratorsWrong)

/-- 'laws.FnExactTypicalLogarithm': WHATEVER THE INPUT: true; the input reads as it did. -/
def fnExactTypicalLogarithmSpec : ChangeSpec := { name := "fnExactTypicalLogarithm", fn := fun _ => fun
  | [d1, d2, d3, d4] => { results := [.lit (.bool true)], args := [d1, d2, d3, d4] }
  | _ => none }
def fnExactTypicalLogarithmRow : OpenClaim := { program := "ytakdmnecllcmnaa", sum := "a9c3448426880705abad595f2dbb12dfd13ea4a9f0f50ab48bd97f8e8e7232ed", func := "loop.example/g01152/laws.FnExactTypicalLogarithm", spec := "fnExactTypicalLogarithm", unfollowed := true, recurses := true, apart := false }
def FnExactTypicalLogarithmSaid : Prop := fnExactTypicalLogarithmRow.holds Try.pinned (OpenSpec.ofChange fnExactTypicalLogarithmSpec)

/-- ITS FALSE NEIGHBOUR: 'it returns false'. Refute it at one input. -/
def fnExactTypicalLogarithmWrong : ChangeSpec := { name := "fnExactTypicalLogarithm", fn := fun _ => fun
  | [d1, d2, d3, d4] => { results := [.lit (.bool false)], args := [d1, d2, d3, d4] }
  | _ => none }
def FnExactTypicalLogarithmWrongFalsely : Prop := fnExactTypicalLogarithmRow.holds Try.pinned (OpenSpec.ofChange fnExactTypicalLogarithmWrong)

/-- 'laws.FnExactWeierstrassLaw': WHATEVER THE INPUT: true; the input reads as it did. -/
def fnExactWeierstrassLawSpec : ChangeSpec := { name := "fnExactWeierstrassLaw", fn := fun _ => fun
  | [d1, d2, d3] => { results := [.lit (.bool true)], args := [d1, d2, d3] }
  | _ => none }
def fnExactWeierstrassLawRow : OpenClaim := { program := "ytakdmnecllcmnaa", sum := "a9c3448426880705abad595f2dbb12dfd13ea4a9f0f50ab48bd97f8e8e7232ed", func := "loop.example/g01152/laws.FnExactWeierstrassLaw", spec := "fnExactWeierstrassLaw", unfollowed := true, recurses := true, apart := false }
def FnExactWeierstrassLawSaid : Prop := fnExactWeierstrassLawRow.holds Try.pinned (OpenSpec.ofChange fnExactWeierstrassLawSpec)

/-- ITS FALSE NEIGHBOUR: 'it returns false'. Refute it at one input. -/
def fnExactWeierstrassLawWrong : ChangeSpec := { name := "fnExactWeierstrassLaw", fn := fun _ => fun
  | [d1, d2, d3] => { results := [.lit (.bool false)], args := [d1, d2, d3] }
  | _ => none }
def FnExactWeierstrassLawWrongFalsely : Prop := fnExactWeierstrassLawRow.holds Try.pinned (OpenSpec.ofChange fnExactWeierstrassLawWrong)

/-- 'laws.FnExactTypicalFactor': WHATEVER THE INPUT: true; the input reads as it did. -/
def fnExactTypicalFactorSpec : ChangeSpec := { name := "fnExactTypicalFactor", fn := fun _ => fun
  | [d1, d2, d3, d4, d5] => { results := [.lit (.bool true)], args := [d1, d2, d3, d4, d5] }
  | _ => none }
def fnExactTypicalFactorRow : OpenClaim := { program := "ytakdmnecllcmnaa", sum := "a9c3448426880705abad595f2dbb12dfd13ea4a9f0f50ab48bd97f8e8e7232ed", func := "loop.example/g01152/laws.FnExactTypicalFactor", spec := "fnExactTypicalFactor", apart := false }
def FnExactTypicalFactorSaid : Prop := fnExactTypicalFactorRow.holds Try.pinned (OpenSpec.ofChange fnExactTypicalFactorSpec)

/-- ITS FALSE NEIGHBOUR: 'it returns false'. Refute it at one input. -/
def fnExactTypicalFactorWrong : ChangeSpec := { name := "fnExactTypicalFactor", fn := fun _ => fun
  | [d1, d2, d3, d4, d5] => { results := [.lit (.bool false)], args := [d1, d2, d3, d4, d5] }
  | _ => none }
def FnExactTypicalFactorWrongFalsely : Prop := fnExactTypicalFactorRow.holds Try.pinned (OpenSpec.ofChange fnExactTypicalFactorWrong)

/- THE SECOND FORM. 'bulk': how many values and letters a reading holds, each counted each time it is reached (what is shared counts as often as it is met; a slice's spare places count too). A statement '..UptoSaid' is the law's where the arguments, and the package variables that the reading takes, are together of bulk at most 1048576: NARROWER than '..Said'. Prove '..Said' where nothing that the law and all that it calls make is longer than what came in: it says more and counts as full. Else prove '..UptoSaid'. A law counts once. -/
mutual
def uptoBulk {H : Type} : DataW H → Nat
  | .lit (.string bytes) => bytes.length + 1
  | .lit _ => 1
  | .nil => 1
  | .ptr d => uptoBulk d + 1
  | .slice elems spare => uptoBulkAll elems + uptoBulkAll spare + 1
  | .agg parts => uptoBulkAll parts + 1
  | .iface _ d => uptoBulk d + 1
  | .map entries => uptoBulkEntries entries + 1
  | .held _ => 1
def uptoBulkAll {H : Type} : List (DataW H) → Nat
  | [] => 0
  | d :: r => uptoBulk d + uptoBulkAll r
def uptoBulkEntries {H : Type} : List (Lit × DataW H) → Nat
  | [] => 0
  | x :: r => uptoBulkEntry x + uptoBulkEntries r
def uptoBulkEntry {H : Type} : Lit × DataW H → Nat
  | (.string bytes, d) => bytes.length + uptoBulk d + 1
  | (_, d) => uptoBulk d + 1
 end
def uptoSmall : (H : Type) → List (DataW H) → Bool := fun _ ds => decide (uptoBulkAll ds ≤ 1048576)
def OpenSpec.upto (s : _root_.Go.ChangeSpec) : _root_.Go.OpenSpec := { _root_.Go.OpenSpec.ofChange s with cond := some uptoSmall }

/-- 'laws.FnExactTypicalNumerators', WHERE WHAT IT READS IS OF BULK AT MOST 1048576: true; the input reads as it did. -/
def fnExactTypicalNumeratorsUptoRow : OpenClaim := { program := "ytakdmnecllcmnaa", sum := "a9c3448426880705abad595f2dbb12dfd13ea4a9f0f50ab48bd97f8e8e7232ed", func := "loop.example/g01152/laws.FnExactTypicalNumerators", spec := "fnExactTypicalNumerators", unfollowed := true, recurses := true, apart := false, narrowed := true }
def FnExactTypicalNumeratorsUptoSaid : Prop := fnExactTypicalNumeratorsUptoRow.holds Try.pinned (OpenSpec.upto fnExactTypicalNumeratorsSpec)

/-- 'laws.FnExactTypicalLogarithm', WHERE WHAT IT READS IS OF BULK AT MOST 1048576: true; the input reads as it did. -/
def fnExactTypicalLogarithmUptoRow : OpenClaim := { program := "ytakdmnecllcmnaa", sum := "a9c3448426880705abad595f2dbb12dfd13ea4a9f0f50ab48bd97f8e8e7232ed", func := "loop.example/g01152/laws.FnExactTypicalLogarithm", spec := "fnExactTypicalLogarithm", unfollowed := true, recurses := true, apart := false, narrowed := true }
def FnExactTypicalLogarithmUptoSaid : Prop := fnExactTypicalLogarithmUptoRow.holds Try.pinned (OpenSpec.upto fnExactTypicalLogarithmSpec)

/-- 'laws.FnExactWeierstrassLaw', WHERE WHAT IT READS IS OF BULK AT MOST 1048576: true; the input reads as it did. -/
def fnExactWeierstrassLawUptoRow : OpenClaim := { program := "ytakdmnecllcmnaa", sum := "a9c3448426880705abad595f2dbb12dfd13ea4a9f0f50ab48bd97f8e8e7232ed", func := "loop.example/g01152/laws.FnExactWeierstrassLaw", spec := "fnExactWeierstrassLaw", unfollowed := true, recurses := true, apart := false, narrowed := true }
def FnExactWeierstrassLawUptoSaid : Prop := fnExactWeierstrassLawUptoRow.holds Try.pinned (OpenSpec.upto fnExactWeierstrassLawSpec)

/-- 'laws.FnExactTypicalFactor', WHERE WHAT IT READS IS OF BULK AT MOST 1048576: true; the input reads as it did. -/
def fnExactTypicalFactorUptoRow : OpenClaim := { program := "ytakdmnecllcmnaa", sum := "a9c3448426880705abad595f2dbb12dfd13ea4a9f0f50ab48bd97f8e8e7232ed", func := "loop.example/g01152/laws.FnExactTypicalFactor", spec := "fnExactTypicalFactor", apart := false, narrowed := true }
def FnExactTypicalFactorUptoSaid : Prop := fnExactTypicalFactorUptoRow.holds Try.pinned (OpenSpec.upto fnExactTypicalFactorSpec)

end Rows
end Go.Proofs.Ytakdmnecllcmnaa
