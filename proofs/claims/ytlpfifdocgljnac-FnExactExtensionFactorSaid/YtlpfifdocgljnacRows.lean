/-
  No cell of these rows narrows 'for every input' (looked for: loops, veiled, ifaces, maps, wideKeys, modest, calm, conditions, laid).
  DERIVED. THE GIVEN ROWS OF THIS SEAT. 4 by the template 'for every input the law returns true; each argument reads behind the call as it read before'; 0 by the template 'total and deterministic' (their statements: YtlpfifdocgljnacTotals.lean).
  GIVEN WITH THE SEED: the statements are not yours to turn. If you find one false, say at which input.
  Laid BY PROGRAM, IN A SANDBOX (cutbox-rows.mjs): the forced cells as the released guide's own fill.sh prints them over the translation f5c3dc998ef1dd44… (all of the seat's roots in one cut). By AI agents, Wed Nov 11 2026. No macro, syntax, notation, axiom, sorry.
-/
import Derived.Test.YtlpfifdocgljnacChecked
import GoSem.Claim
import GoSem.ClaimJoined
import GoSem.ClaimMapViews
import Derived.JoinedTies
import Derived.KernelRfl
namespace Go.Proofs.Ytlpfifdocgljnac
/- THE CELL 'sum', in the pinned program and in every row, IS THE sha256 OF THE DUMP (.gsa) THAT YtlpfifdocgljnacProg.lean LOADS. Nothing in Lean hashes anything: it is a label: what it is worth is what the hold of that sum in a sandbox is worth. -/
noncomputable def Try.pinned : Pinned := { name := "ytlpfifdocgljnac", sum := "f5c3dc998ef1dd442bc5031465a3eef97b6fe9bb2dafeae7c8f3e07d3877cf3e", checked := Try.checked }
namespace Rows
def none {H : Type} : Left H := { results := [], args := [] }

/-- 'laws.FnExactIsCocycle': WHATEVER THE INPUT: true; the input reads as it did. -/
def fnExactIsCocycleSpec : ChangeSpec := { name := "fnExactIsCocycle", fn := fun _ => fun
  | [d] => { results := [.lit (.bool true)], args := [d] }
  | _ => none }
def fnExactIsCocycleRow : OpenClaim := { program := "ytlpfifdocgljnac", sum := "f5c3dc998ef1dd442bc5031465a3eef97b6fe9bb2dafeae7c8f3e07d3877cf3e", func := "loop.example/g01152/laws.FnExactIsCocycle", spec := "fnExactIsCocycle", unfollowed := true, recurses := true, apart := false }
def FnExactIsCocycleSaid : Prop := fnExactIsCocycleRow.holds Try.pinned (OpenSpec.ofChange fnExactIsCocycleSpec)

/-- ITS FALSE NEIGHBOUR: 'it returns false'. Refute it at one input. -/
def fnExactIsCocycleWrong : ChangeSpec := { name := "fnExactIsCocycle", fn := fun _ => fun
  | [d] => { results := [.lit (.bool false)], args := [d] }
  | _ => none }
def FnExactIsCocycleWrongFalsely : Prop := fnExactIsCocycleRow.holds Try.pinned (OpenSpec.ofChange fnExactIsCocycleWrong)

/-- 'laws.FnExactCocycleFactor': WHATEVER THE INPUT: true; the input reads as it did. -/
def fnExactCocycleFactorSpec : ChangeSpec := { name := "fnExactCocycleFactor", fn := fun _ => fun
  | [d] => { results := [.lit (.bool true)], args := [d] }
  | _ => none }
def fnExactCocycleFactorRow : OpenClaim := { program := "ytlpfifdocgljnac", sum := "f5c3dc998ef1dd442bc5031465a3eef97b6fe9bb2dafeae7c8f3e07d3877cf3e", func := "loop.example/g01152/laws.FnExactCocycleFactor", spec := "fnExactCocycleFactor", unfollowed := true, recurses := true, apart := false }
def FnExactCocycleFactorSaid : Prop := fnExactCocycleFactorRow.holds Try.pinned (OpenSpec.ofChange fnExactCocycleFactorSpec)

/-- ITS FALSE NEIGHBOUR: 'it returns false'. Refute it at one input. -/
def fnExactCocycleFactorWrong : ChangeSpec := { name := "fnExactCocycleFactor", fn := fun _ => fun
  | [d] => { results := [.lit (.bool false)], args := [d] }
  | _ => none }
def FnExactCocycleFactorWrongFalsely : Prop := fnExactCocycleFactorRow.holds Try.pinned (OpenSpec.ofChange fnExactCocycleFactorWrong)

/-- 'laws.FnExactExtensionFactor': WHATEVER THE INPUT: true; the input reads as it did. -/
def fnExactExtensionFactorSpec : ChangeSpec := { name := "fnExactExtensionFactor", fn := fun _ => fun
  | [d1, d2] => { results := [.lit (.bool true)], args := [d1, d2] }
  | _ => none }
def fnExactExtensionFactorRow : OpenClaim := { program := "ytlpfifdocgljnac", sum := "f5c3dc998ef1dd442bc5031465a3eef97b6fe9bb2dafeae7c8f3e07d3877cf3e", func := "loop.example/g01152/laws.FnExactExtensionFactor", spec := "fnExactExtensionFactor", unfollowed := true, recurses := true, apart := false }
def FnExactExtensionFactorSaid : Prop := fnExactExtensionFactorRow.holds Try.pinned (OpenSpec.ofChange fnExactExtensionFactorSpec)

/-- ITS FALSE NEIGHBOUR: 'it returns false'. Refute it at one input. -/
def fnExactExtensionFactorWrong : ChangeSpec := { name := "fnExactExtensionFactor", fn := fun _ => fun
  | [d1, d2] => { results := [.lit (.bool false)], args := [d1, d2] }
  | _ => none }
def FnExactExtensionFactorWrongFalsely : Prop := fnExactExtensionFactorRow.holds Try.pinned (OpenSpec.ofChange fnExactExtensionFactorWrong)

/-- 'laws.FnExactLawOfParameters': WHATEVER THE INPUT: true; the input reads as it did. -/
def fnExactLawOfParametersSpec : ChangeSpec := { name := "fnExactLawOfParameters", fn := fun _ => fun
  | [d1, d2] => { results := [.lit (.bool true)], args := [d1, d2] }
  | _ => none }
def fnExactLawOfParametersRow : OpenClaim := { program := "ytlpfifdocgljnac", sum := "f5c3dc998ef1dd442bc5031465a3eef97b6fe9bb2dafeae7c8f3e07d3877cf3e", func := "loop.example/g01152/laws.FnExactLawOfParameters", spec := "fnExactLawOfParameters", unfollowed := true, recurses := true, apart := false }
def FnExactLawOfParametersSaid : Prop := fnExactLawOfParametersRow.holds Try.pinned (OpenSpec.ofChange fnExactLawOfParametersSpec)

/-- ITS FALSE NEIGHBOUR: 'it returns false'. Refute it at one input. -/
def fnExactLawOfParametersWrong : ChangeSpec := { name := "fnExactLawOfParameters", fn := fun _ => fun
  | [d1, d2] => { results := [.lit (.bool false)], args := [d1, d2] }
  | _ => none }
def FnExactLawOfParametersWrongFalsely : Prop := fnExactLawOfParametersRow.holds Try.pinned (OpenSpec.ofChange fnExactLawOfParametersWrong)

/- THE SECOND FORM. 'bulk': how many values and letters a reading holds, each counted each time it is reached (what is shared counts as often as it is met; a slice's spare places count too). A statement '..UptoSaid' is the law's where the arguments, and the package variables that the reading takes, are together of bulk at most 1048576: NARROWER than '..Said'. Prove '..Said' where nothing that the law and all that it calls make is longer than what came in: it says more and counts as full. Else prove '..UptoSaid'. A law counts once. -/
mutual
def uptoBulk {H : Type} : DataW H → Nat
  | .lit (.string bytes) => bytes.length + 1
  | .lit _ => 1
  | .nil => 1
  | .ptr d => uptoBulk d + 1
  | .slice elems spare => uptoBulkAll elems + uptoBulkAll spare + 1
  | .agg parts => uptoBulkAll parts + 1
  | .iface _ d => uptoBulk d + 1
  | .map entries => uptoBulkEntries entries + 1
  | .held _ => 1
def uptoBulkAll {H : Type} : List (DataW H) → Nat
  | [] => 0
  | d :: r => uptoBulk d + uptoBulkAll r
def uptoBulkEntries {H : Type} : List (Lit × DataW H) → Nat
  | [] => 0
  | x :: r => uptoBulkEntry x + uptoBulkEntries r
def uptoBulkEntry {H : Type} : Lit × DataW H → Nat
  | (.string bytes, d) => bytes.length + uptoBulk d + 1
  | (_, d) => uptoBulk d + 1
 end
def uptoSmall : (H : Type) → List (DataW H) → Bool := fun _ ds => decide (uptoBulkAll ds ≤ 1048576)
def OpenSpec.upto (s : _root_.Go.ChangeSpec) : _root_.Go.OpenSpec := { _root_.Go.OpenSpec.ofChange s with cond := some uptoSmall }

/-- 'laws.FnExactIsCocycle', WHERE WHAT IT READS IS OF BULK AT MOST 1048576: true; the input reads as it did. -/
def fnExactIsCocycleUptoRow : OpenClaim := { program := "ytlpfifdocgljnac", sum := "f5c3dc998ef1dd442bc5031465a3eef97b6fe9bb2dafeae7c8f3e07d3877cf3e", func := "loop.example/g01152/laws.FnExactIsCocycle", spec := "fnExactIsCocycle", unfollowed := true, recurses := true, apart := false, narrowed := true }
def FnExactIsCocycleUptoSaid : Prop := fnExactIsCocycleUptoRow.holds Try.pinned (OpenSpec.upto fnExactIsCocycleSpec)

/-- 'laws.FnExactCocycleFactor', WHERE WHAT IT READS IS OF BULK AT MOST 1048576: true; the input reads as it did. -/
def fnExactCocycleFactorUptoRow : OpenClaim := { program := "ytlpfifdocgljnac", sum := "f5c3dc998ef1dd442bc5031465a3eef97b6fe9bb2dafeae7c8f3e07d3877cf3e", func := "loop.example/g01152/laws.FnExactCocycleFactor", spec := "fnExactCocycleFactor", unfollowed := true, recurses := true, apart := false, narrowed := true }
def FnExactCocycleFactorUptoSaid : Prop := fnExactCocycleFactorUptoRow.holds Try.pinned (OpenSpec.upto fnExactCocycleFactorSpec)

/-- 'laws.FnExactExtensionFactor', WHERE WHAT IT READS IS OF BULK AT MOST 1048576: true; the input reads as it did. -/
def fnExactExtensionFactorUptoRow : OpenClaim := { program := "ytlpfifdocgljnac", sum := "f5c3dc998ef1dd442bc5031465a3eef97b6fe9bb2dafeae7c8f3e07d3877cf3e", func := "loop.example/g01152/laws.FnExactExtensionFactor", spec := "fnExactExtensionFactor", unfollowed := true, recurses := true, apart := false, narrowed := true }
def FnExactExtensionFactorUptoSaid : Prop := fnExactExtensionFactorUptoRow.holds Try.pinned (OpenSpec.upto fnExactExtensionFactorSpec)

/-- 'laws.FnExactLawOfParameters', WHERE WHAT IT READS IS OF BULK AT MOST 1048576: true; the input reads as it did. -/
def fnExactLawOfParametersUptoRow : OpenClaim := { program := "ytlpfifdocgljnac", sum := "f5c3dc998ef1dd442bc5031465a3eef97b6fe9bb2dafeae7c8f3e07d3877cf3e", func := "loop.example/g01152/laws.FnExactLawOfParameters", spec := "fnExactLawOfParameters", unfollowed := true, recurses := true, apart := false, narrowed := true }
def FnExactLawOfParametersUptoSaid : Prop := fnExactLawOfParametersUptoRow.holds Try.pinned (OpenSpec.upto fnExactLawOfParametersSpec)

end Rows
end Go.Proofs.Ytlpfifdocgljnac
