/-
  No cell of these rows narrows 'for every input' (looked for: loops, veiled, ifaces, maps, wideKeys, modest, calm, conditions, laid).
  DERIVED. THE GIVEN ROWS OF THIS SEAT. 4 by the template 'for every input the law returns true; each argument reads behind the call as it read before'; 0 by the template 'total and deterministic' (their statements: YtlpfifdocgljnaaTotals.lean).
  GIVEN WITH THE SEED: the statements are not yours to turn. If you find one false, say at which input.
  Laid BY PROGRAM, IN A SANDBOX (cutbox-rows.mjs): the forced cells as the released guide's own fill.sh prints them over the translation 339465b9bfccc2f4… (all of the seat's roots in one cut). By AI agents, Wed Nov 11 2026. No macro, syntax, notation, axiom, sorry.
-/
import Derived.Test.YtlpfifdocgljnaaChecked
import GoSem.Claim
import GoSem.ClaimJoined
import GoSem.ClaimMapViews
import Derived.JoinedTies
import Derived.KernelRfl
namespace Go.Proofs.Ytlpfifdocgljnaa
/- THE CELL 'sum', in the pinned program and in every row, IS THE sha256 OF THE DUMP (.gsa) THAT YtlpfifdocgljnaaProg.lean LOADS. Nothing in Lean hashes anything: it is a label: what it is worth is what the hold of that sum in a sandbox is worth. -/
noncomputable def Try.pinned : Pinned := { name := "ytlpfifdocgljnaa", sum := "339465b9bfccc2f4aaa870d17bb8adb90a6a71eabc754e332e37f473215474b8", checked := Try.checked }
namespace Rows
def none {H : Type} : Left H := { results := [], args := [] }

/-- 'laws.FnExactIsLogarithm': WHATEVER THE INPUT: true; the input reads as it did. -/
def fnExactIsLogarithmSpec : ChangeSpec := { name := "fnExactIsLogarithm", fn := fun _ => fun
  | [d1, d2] => { results := [.lit (.bool true)], args := [d1, d2] }
  | _ => none }
def fnExactIsLogarithmRow : OpenClaim := { program := "ytlpfifdocgljnaa", sum := "339465b9bfccc2f4aaa870d17bb8adb90a6a71eabc754e332e37f473215474b8", func := "loop.example/g01152/laws.FnExactIsLogarithm", spec := "fnExactIsLogarithm", unfollowed := true, recurses := true, apart := false }
def FnExactIsLogarithmSaid : Prop := fnExactIsLogarithmRow.holds Try.pinned (OpenSpec.ofChange fnExactIsLogarithmSpec)

/-- ITS FALSE NEIGHBOUR: 'it returns false'. Refute it at one input. -/
def fnExactIsLogarithmWrong : ChangeSpec := { name := "fnExactIsLogarithm", fn := fun _ => fun
  | [d1, d2] => { results := [.lit (.bool false)], args := [d1, d2] }
  | _ => none }
def FnExactIsLogarithmWrongFalsely : Prop := fnExactIsLogarithmRow.holds Try.pinned (OpenSpec.ofChange fnExactIsLogarithmWrong)

/-- 'laws.FnExactLawOfDifferential': WHATEVER THE INPUT: true; the input reads as it did. -/
def fnExactLawOfDifferentialSpec : ChangeSpec := { name := "fnExactLawOfDifferential", fn := fun _ => fun
  | [d] => { results := [.lit (.bool true)], args := [d] }
  | _ => none }
def fnExactLawOfDifferentialRow : OpenClaim := { program := "ytlpfifdocgljnaa", sum := "339465b9bfccc2f4aaa870d17bb8adb90a6a71eabc754e332e37f473215474b8", func := "loop.example/g01152/laws.FnExactLawOfDifferential", spec := "fnExactLawOfDifferential", unfollowed := true, recurses := true, apart := false }
def FnExactLawOfDifferentialSaid : Prop := fnExactLawOfDifferentialRow.holds Try.pinned (OpenSpec.ofChange fnExactLawOfDifferentialSpec)

/-- ITS FALSE NEIGHBOUR: 'it returns false'. Refute it at one input. -/
def fnExactLawOfDifferentialWrong : ChangeSpec := { name := "fnExactLawOfDifferential", fn := fun _ => fun
  | [d] => { results := [.lit (.bool false)], args := [d] }
  | _ => none }
def FnExactLawOfDifferentialWrongFalsely : Prop := fnExactLawOfDifferentialRow.holds Try.pinned (OpenSpec.ofChange fnExactLawOfDifferentialWrong)

/-- 'laws.FnExactCountLaws': WHATEVER THE INPUT: true; the input reads as it did. -/
def fnExactCountLawsSpec : ChangeSpec := { name := "fnExactCountLaws", fn := fun _ => fun
  | [d1, d2] => { results := [.lit (.bool true)], args := [d1, d2] }
  | _ => none }
def fnExactCountLawsRow : OpenClaim := { program := "ytlpfifdocgljnaa", sum := "339465b9bfccc2f4aaa870d17bb8adb90a6a71eabc754e332e37f473215474b8", func := "loop.example/g01152/laws.FnExactCountLaws", spec := "fnExactCountLaws", apart := false }
def FnExactCountLawsSaid : Prop := fnExactCountLawsRow.holds Try.pinned (OpenSpec.ofChange fnExactCountLawsSpec)

/-- ITS FALSE NEIGHBOUR: 'it returns false'. Refute it at one input. -/
def fnExactCountLawsWrong : ChangeSpec := { name := "fnExactCountLaws", fn := fun _ => fun
  | [d1, d2] => { results := [.lit (.bool false)], args := [d1, d2] }
  | _ => none }
def FnExactCountLawsWrongFalsely : Prop := fnExactCountLawsRow.holds Try.pinned (OpenSpec.ofChange fnExactCountLawsWrong)

/-- 'laws.FnExactLazardCocycle': WHATEVER THE INPUT: true; the input reads as it did. -/
def fnExactLazardCocycleSpec : ChangeSpec := { name := "fnExactLazardCocycle", fn := fun _ => fun
  | [d1, d2] => { results := [.lit (.bool true)], args := [d1, d2] }
  | _ => none }
def fnExactLazardCocycleRow : OpenClaim := { program := "ytlpfifdocgljnaa", sum := "339465b9bfccc2f4aaa870d17bb8adb90a6a71eabc754e332e37f473215474b8", func := "loop.example/g01152/laws.FnExactLazardCocycle", spec := "fnExactLazardCocycle", unfollowed := true, recurses := true, apart := false }
def FnExactLazardCocycleSaid : Prop := fnExactLazardCocycleRow.holds Try.pinned (OpenSpec.ofChange fnExactLazardCocycleSpec)

/-- ITS FALSE NEIGHBOUR: 'it returns false'. Refute it at one input. -/
def fnExactLazardCocycleWrong : ChangeSpec := { name := "fnExactLazardCocycle", fn := fun _ => fun
  | [d1, d2] => { results := [.lit (.bool false)], args := [d1, d2] }
  | _ => none }
def FnExactLazardCocycleWrongFalsely : Prop := fnExactLazardCocycleRow.holds Try.pinned (OpenSpec.ofChange fnExactLazardCocycleWrong)

/- THE SECOND FORM. 'bulk': how many values and letters a reading holds, each counted each time it is reached (what is shared counts as often as it is met; a slice's spare places count too). A statement '..UptoSaid' is the law's where the arguments, and the package variables that the reading takes, are together of bulk at most 1048576: NARROWER than '..Said'. Prove '..Said' where nothing that the law and all that it calls make is longer than what came in: it says more and counts as full. Else prove '..UptoSaid'. A law counts once. -/
mutual
def uptoBulk {H : Type} : DataW H → Nat
  | .lit (.string bytes) => bytes.length + 1
  | .lit _ => 1
  | .nil => 1
  | .ptr d => uptoBulk d + 1
  | .slice elems spare => uptoBulkAll elems + uptoBulkAll spare + 1
  | .agg parts => uptoBulkAll parts + 1
  | .iface _ d => uptoBulk d + 1
  | .map entries => uptoBulkEntries entries + 1
  | .held _ => 1
def uptoBulkAll {H : Type} : List (DataW H) → Nat
  | [] => 0
  | d :: r => uptoBulk d + uptoBulkAll r
def uptoBulkEntries {H : Type} : List (Lit × DataW H) → Nat
  | [] => 0
  | x :: r => uptoBulkEntry x + uptoBulkEntries r
def uptoBulkEntry {H : Type} : Lit × DataW H → Nat
  | (.string bytes, d) => bytes.length + uptoBulk d + 1
  | (_, d) => uptoBulk d + 1
 end
def uptoSmall : (H : Type) → List (DataW H) → Bool := fun _ ds => decide (uptoBulkAll ds ≤ 1048576)
def OpenSpec.upto (s : _root_.Go.ChangeSpec) : _root_.Go.OpenSpec := { _root_.Go.OpenSpec.ofChange s with cond := some uptoSmall }

/-- 'laws.FnExactIsLogarithm', WHERE WHAT IT READS IS OF BULK AT MOST 1048576: true; the input reads as it did. -/
def fnExactIsLogarithmUptoRow : OpenClaim := { program := "ytlpfifdocgljnaa", sum := "339465b9bfccc2f4aaa870d17bb8adb90a6a71eabc754e332e37f473215474b8", func := "loop.example/g01152/laws.FnExactIsLogarithm", spec := "fnExactIsLogarithm", unfollowed := true, recurses := true, apart := false, narrowed := true }
def FnExactIsLogarithmUptoSaid : Prop := fnExactIsLogarithmUptoRow.holds Try.pinned (OpenSpec.upto fnExactIsLogarithmSpec)

/-- 'laws.FnExactLawOfDifferential', WHERE WHAT IT READS IS OF BULK AT MOST 1048576: true; the input reads as it did. -/
def fnExactLawOfDifferentialUptoRow : OpenClaim := { program := "ytlpfifdocgljnaa", sum := "339465b9bfccc2f4aaa870d17bb8adb90a6a71eabc754e332e37f473215474b8", func := "loop.example/g01152/laws.FnExactLawOfDifferential", spec := "fnExactLawOfDifferential", unfollowed := true, recurses := true, apart := false, narrowed := true }
def FnExactLawOfDifferentialUptoSaid : Prop := fnExactLawOfDifferentialUptoRow.holds Try.pinned (OpenSpec.upto fnExactLawOfDifferentialSpec)

/-- 'laws.FnExactCountLaws', WHERE WHAT IT READS IS OF BULK AT MOST 1048576: true; the input reads as it did. -/
def fnExactCountLawsUptoRow : OpenClaim := { program := "ytlpfifdocgljnaa", sum := "339465b9bfccc2f4aaa870d17bb8adb90a6a71eabc754e332e37f473215474b8", func := "loop.example/g01152/laws.FnExactCountLaws", spec := "fnExactCountLaws", apart := false, narrowed := true }
def FnExactCountLawsUptoSaid : Prop := fnExactCountLawsUptoRow.holds Try.pinned (OpenSpec.upto fnExactCountLawsSpec)

/-- 'laws.FnExactLazardCocycle', WHERE WHAT IT READS IS OF BULK AT MOST 1048576: true; the input reads as it did. -/
def fnExactLazardCocycleUptoRow : OpenClaim := { program := "ytlpfifdocgljnaa", sum := "339465b9bfccc2f4aaa870d17bb8adb90a6a71eabc754e332e37f473215474b8", func := "loop.example/g01152/laws.FnExactLazardCocycle", spec := "fnExactLazardCocycle", unfollowed := true, recurses := true, apart := false, narrowed := true }
def FnExactLazardCocycleUptoSaid : Prop := fnExactLazardCocycleUptoRow.holds Try.pinned (OpenSpec.upto fnExactLazardCocycleSpec)

end Rows
end Go.Proofs.Ytlpfifdocgljnaa
