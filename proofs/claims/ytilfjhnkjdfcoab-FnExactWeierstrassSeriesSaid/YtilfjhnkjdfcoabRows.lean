/-
  No cell of these rows narrows 'for every input' (looked for: loops, veiled, ifaces, maps, wideKeys, modest, calm, conditions, laid).
  DERIVED. THE GIVEN ROWS OF THIS SEAT. 4 by the template 'for every input the law returns true; each argument reads behind the call as it read before'; 0 by the template 'total and deterministic' (their statements: YtilfjhnkjdfcoabTotals.lean).
  GIVEN WITH THE SEED: the statements are not yours to turn. If you find one false, say at which input.
  Laid BY PROGRAM, IN A SANDBOX (cutbox-rows.mjs): the forced cells as the released guide's own fill.sh prints them over the translation 104c836ce1409f99… (all of the seat's roots in one cut). By AI agents, Wed Nov 11 2026. No macro, syntax, notation, axiom, sorry.
-/
import Derived.Test.YtilfjhnkjdfcoabChecked
import GoSem.Claim
import GoSem.ClaimJoined
import GoSem.ClaimMapViews
import Derived.JoinedTies
import Derived.KernelRfl
namespace Go.Proofs.Ytilfjhnkjdfcoab
/- THE CELL 'sum', in the pinned program and in every row, IS THE sha256 OF THE DUMP (.gsa) THAT YtilfjhnkjdfcoabProg.lean LOADS. Nothing in Lean hashes anything: it is a label: what it is worth is what the hold of that sum in a sandbox is worth. -/
noncomputable def Try.pinned : Pinned := { name := "ytilfjhnkjdfcoab", sum := "104c836ce1409f992117957ed187f9603d31c4969df59b5a0d2e6ae0b1c555e3", checked := Try.checked }
namespace Rows
def none {H : Type} : Left H := { results := [], args := [] }

/-- 'laws.FnExactWeierstrassSeries': WHATEVER THE INPUT: true; the input reads as it did. -/
def fnExactWeierstrassSeriesSpec : ChangeSpec := { name := "fnExactWeierstrassSeries", fn := fun _ => fun
  | [d1, d2, d3] => { results := [.lit (.bool true)], args := [d1, d2, d3] }
  | _ => none }
def fnExactWeierstrassSeriesRow : OpenClaim := { program := "ytilfjhnkjdfcoab", sum := "104c836ce1409f992117957ed187f9603d31c4969df59b5a0d2e6ae0b1c555e3", func := "loop.example/g01152/laws.FnExactWeierstrassSeries", spec := "fnExactWeierstrassSeries", unfollowed := true, recurses := true, apart := false }
def FnExactWeierstrassSeriesSaid : Prop := fnExactWeierstrassSeriesRow.holds Try.pinned (OpenSpec.ofChange fnExactWeierstrassSeriesSpec)

/-- ITS FALSE NEIGHBOUR: 'it returns false'. Refute it at one input. -/
def fnExactWeierstrassSeriesWrong : ChangeSpec := { name := "fnExactWeierstrassSeries", fn := fun _ => fun
  | [d1, d2, d3] => { results := [.lit (.bool false)], args := [d1, d2, d3] }
  | _ => none }
def FnExactWeierstrassSeriesWrongFalsely : Prop := fnExactWeierstrassSeriesRow.holds Try.pinned (OpenSpec.ofChange fnExactWeierstrassSeriesWrong)

/-- 'laws.FnExactWeierstrassLaw': WHATEVER THE INPUT: true; the input reads as it did. -/
def fnExactWeierstrassLawSpec : ChangeSpec := { name := "fnExactWeierstrassLaw", fn := fun _ => fun
  | [d1, d2, d3] => { results := [.lit (.bool true)], args := [d1, d2, d3] }
  | _ => none }
def fnExactWeierstrassLawRow : OpenClaim := { program := "ytilfjhnkjdfcoab", sum := "104c836ce1409f992117957ed187f9603d31c4969df59b5a0d2e6ae0b1c555e3", func := "loop.example/g01152/laws.FnExactWeierstrassLaw", spec := "fnExactWeierstrassLaw", unfollowed := true, recurses := true, apart := false }
def FnExactWeierstrassLawSaid : Prop := fnExactWeierstrassLawRow.holds Try.pinned (OpenSpec.ofChange fnExactWeierstrassLawSpec)

/-- ITS FALSE NEIGHBOUR: 'it returns false'. Refute it at one input. -/
def fnExactWeierstrassLawWrong : ChangeSpec := { name := "fnExactWeierstrassLaw", fn := fun _ => fun
  | [d1, d2, d3] => { results := [.lit (.bool false)], args := [d1, d2, d3] }
  | _ => none }
def FnExactWeierstrassLawWrongFalsely : Prop := fnExactWeierstrassLawRow.holds Try.pinned (OpenSpec.ofChange fnExactWeierstrassLawWrong)

/-- 'laws.FnExactLawOfParameters': WHATEVER THE INPUT: true; the input reads as it did. -/
def fnExactLawOfParametersSpec : ChangeSpec := { name := "fnExactLawOfParameters", fn := fun _ => fun
  | [d1, d2] => { results := [.lit (.bool true)], args := [d1, d2] }
  | _ => none }
def fnExactLawOfParametersRow : OpenClaim := { program := "ytilfjhnkjdfcoab", sum := "104c836ce1409f992117957ed187f9603d31c4969df59b5a0d2e6ae0b1c555e3", func := "loop.example/g01152/laws.FnExactLawOfParameters", spec := "fnExactLawOfParameters", unfollowed := true, recurses := true, apart := false }
def FnExactLawOfParametersSaid : Prop := fnExactLawOfParametersRow.holds Try.pinned (OpenSpec.ofChange fnExactLawOfParametersSpec)

/-- ITS FALSE NEIGHBOUR: 'it returns false'. Refute it at one input. -/
def fnExactLawOfParametersWrong : ChangeSpec := { name := "fnExactLawOfParameters", fn := fun _ => fun
  | [d1, d2] => { results := [.lit (.bool false)], args := [d1, d2] }
  | _ => none }
def FnExactLawOfParametersWrongFalsely : Prop := fnExactLawOfParametersRow.holds Try.pinned (OpenSpec.ofChange fnExactLawOfParametersWrong)

/-- 'laws.FnExactFirstExtension': WHATEVER THE INPUT: true; the input reads as it did. -/
def fnExactFirstExtensionSpec : ChangeSpec := { name := "fnExactFirstExtension", fn := fun _ => fun
  | [d] => { results := [.lit (.bool true)], args := [d] }
  | _ => none }
def fnExactFirstExtensionRow : OpenClaim := { program := "ytilfjhnkjdfcoab", sum := "104c836ce1409f992117957ed187f9603d31c4969df59b5a0d2e6ae0b1c555e3", func := "loop.example/g01152/laws.FnExactFirstExtension", spec := "fnExactFirstExtension", unfollowed := true, recurses := true, apart := false }
def FnExactFirstExtensionSaid : Prop := fnExactFirstExtensionRow.holds Try.pinned (OpenSpec.ofChange fnExactFirstExtensionSpec)

/-- ITS FALSE NEIGHBOUR: 'it returns false'. Refute it at one input. -/
def fnExactFirstExtensionWrong : ChangeSpec := { name := "fnExactFirstExtension", fn := fun _ => fun
  | [d] => { results := [.lit (.bool false)], args := [d] }
  | _ => none }
def FnExactFirstExtensionWrongFalsely : Prop := fnExactFirstExtensionRow.holds Try.pinned (OpenSpec.ofChange fnExactFirstExtensionWrong)

/- THE SECOND FORM. 'bulk': how many values and letters a reading holds, each counted each time it is reached (what is shared counts as often as it is met; a slice's spare places count too). A statement '..UptoSaid' is the law's where the arguments, and the package variables that the reading takes, are together of bulk at most 1048576: NARROWER than '..Said'. Prove '..Said' where nothing that the law and all that it calls make is longer than what came in: it says more and counts as full. Else prove '..UptoSaid'. A law counts once. -/
mutual
def uptoBulk {H : Type} : DataW H → Nat
  | .lit (.string bytes) => bytes.length + 1
  | .lit _ => 1
  | .nil => 1
  | .ptr d => uptoBulk d + 1
  | .slice elems spare => uptoBulkAll elems + uptoBulkAll spare + 1
  | .agg parts => uptoBulkAll parts + 1
  | .iface _ d => uptoBulk d + 1
  | .map entries => uptoBulkEntries entries + 1
  | .held _ => 1
def uptoBulkAll {H : Type} : List (DataW H) → Nat
  | [] => 0
  | d :: r => uptoBulk d + uptoBulkAll r
def uptoBulkEntries {H : Type} : List (Lit × DataW H) → Nat
  | [] => 0
  | x :: r => uptoBulkEntry x + uptoBulkEntries r
def uptoBulkEntry {H : Type} : Lit × DataW H → Nat
  | (.string bytes, d) => bytes.length + uptoBulk d + 1
  | (_, d) => uptoBulk d + 1
 end
def uptoSmall : (H : Type) → List (DataW H) → Bool := fun _ ds => decide (uptoBulkAll ds ≤ 1048576)
def OpenSpec.upto (s : _root_.Go.ChangeSpec) : _root_.Go.OpenSpec := { _root_.Go.OpenSpec.ofChange s with cond := some uptoSmall }

/-- 'laws.FnExactWeierstrassSeries', WHERE WHAT IT READS IS OF BULK AT MOST 1048576: true; the input reads as it did. -/
def fnExactWeierstrassSeriesUptoRow : OpenClaim := { program := "ytilfjhnkjdfcoab", sum := "104c836ce1409f992117957ed187f9603d31c4969df59b5a0d2e6ae0b1c555e3", func := "loop.example/g01152/laws.FnExactWeierstrassSeries", spec := "fnExactWeierstrassSeries", unfollowed := true, recurses := true, apart := false, narrowed := true }
def FnExactWeierstrassSeriesUptoSaid : Prop := fnExactWeierstrassSeriesUptoRow.holds Try.pinned (OpenSpec.upto fnExactWeierstrassSeriesSpec)

/-- 'laws.FnExactWeierstrassLaw', WHERE WHAT IT READS IS OF BULK AT MOST 1048576: true; the input reads as it did. -/
def fnExactWeierstrassLawUptoRow : OpenClaim := { program := "ytilfjhnkjdfcoab", sum := "104c836ce1409f992117957ed187f9603d31c4969df59b5a0d2e6ae0b1c555e3", func := "loop.example/g01152/laws.FnExactWeierstrassLaw", spec := "fnExactWeierstrassLaw", unfollowed := true, recurses := true, apart := false, narrowed := true }
def FnExactWeierstrassLawUptoSaid : Prop := fnExactWeierstrassLawUptoRow.holds Try.pinned (OpenSpec.upto fnExactWeierstrassLawSpec)

/-- 'laws.FnExactLawOfParameters', WHERE WHAT IT READS IS OF BULK AT MOST 1048576: true; the input reads as it did. -/
def fnExactLawOfParametersUptoRow : OpenClaim := { program := "ytilfjhnkjdfcoab", sum := "104c836ce1409f992117957ed187f9603d31c4969df59b5a0d2e6ae0b1c555e3", func := "loop.example/g01152/laws.FnExactLawOfParameters", spec := "fnExactLawOfParameters", unfollowed := true, recurses := true, apart := false, narrowed := true }
def FnExactLawOfParametersUptoSaid : Prop := fnExactLawOfParametersUptoRow.holds Try.pinned (OpenSpec.upto fnExactLawOfParametersSpec)

/-- 'laws.FnExactFirstExtension', WHERE WHAT IT READS IS OF BULK AT MOST 1048576: true; the input reads as it did. -/
def fnExactFirstExtensionUptoRow : OpenClaim := { program := "ytilfjhnkjdfcoab", sum := "104c836ce1409f992117957ed187f9603d31c4969df59b5a0d2e6ae0b1c555e3", func := "loop.example/g01152/laws.FnExactFirstExtension", spec := "fnExactFirstExtension", unfollowed := true, recurses := true, apart := false, narrowed := true }
def FnExactFirstExtensionUptoSaid : Prop := fnExactFirstExtensionUptoRow.holds Try.pinned (OpenSpec.upto fnExactFirstExtensionSpec)

end Rows
end Go.Proofs.Ytilfjhnkjdfcoab
