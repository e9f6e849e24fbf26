/-
  No cell of these rows narrows 'for every input' (looked for: loops, veiled, ifaces, maps, wideKeys, modest, calm, conditions, laid).
  DERIVED. THE GIVEN ROWS OF THIS SEAT. 7 by the template 'for every input the law returns true; each argument reads behind the call as it read before'; 0 by the template 'total and deterministic' (their statements: YtkhdbphdeabgnabTotals.lean).
  GIVEN WITH THE SEED: the statements are not yours to turn. If you find one false, say at which input.
  Laid BY PROGRAM, IN A SANDBOX (cutbox-rows.mjs): the forced cells as the released guide's own fill.sh prints them over the translation 78027d612c3219b3… (all of the seat's roots in one cut). By AI agents, Wed Nov 11 2026. No macro, syntax, notation, axiom, sorry.
-/
import Derived.Test.YtkhdbphdeabgnabChecked
import GoSem.Claim
import GoSem.ClaimJoined
import GoSem.ClaimMapViews
import Derived.JoinedTies
import Derived.KernelRfl
namespace Go.Proofs.Ytkhdbphdeabgnab
/- THE CELL 'sum', in the pinned program and in every row, IS THE sha256 OF THE DUMP (.gsa) THAT YtkhdbphdeabgnabProg.lean LOADS. Nothing in Lean hashes anything: it is a label: what it is worth is what the hold of that sum in a sandbox is worth. -/
noncomputable def Try.pinned : Pinned := { name := "ytkhdbphdeabgnab", sum := "78027d612c3219b3f68390734a54ff88f3ead30532c72468ad74737a48acda7c", checked := Try.checked }
namespace Rows
def none {H : Type} : Left H := { results := [], args := [] }

/-- 'laws.FnExactRootsModulo': WHATEVER THE INPUT: true; the input reads as it did. -/
def fnExactRootsModuloSpec : ChangeSpec := { name := "fnExactRootsModulo", fn := fun _ => fun
  | [d1, d2] => { results := [.lit (.bool true)], args := [d1, d2] }
  | _ => none }
def fnExactRootsModuloRow : OpenClaim := { program := "ytkhdbphdeabgnab", sum := "78027d612c3219b3f68390734a54ff88f3ead30532c72468ad74737a48acda7c", func := "loop.example/g01152/laws.FnExactRootsModulo", spec := "fnExactRootsModulo", apart := false }
def FnExactRootsModuloSaid : Prop := fnExactRootsModuloRow.holds Try.pinned (OpenSpec.ofChange fnExactRootsModuloSpec)

/-- ITS FALSE NEIGHBOUR: 'it returns false'. Refute it at one input. -/
def fnExactRootsModuloWrong : ChangeSpec := { name := "fnExactRootsModulo", fn := fun _ => fun
  | [d1, d2] => { results := [.lit (.bool false)], args := [d1, d2] }
  | _ => none }
def FnExactRootsModuloWrongFalsely : Prop := fnExactRootsModuloRow.holds Try.pinned (OpenSpec.ofChange fnExactRootsModuloWrong)

/-- 'laws.FnExactIsPrimeNumber': WHATEVER THE INPUT: true; the input reads as it did. -/
def fnExactIsPrimeNumberSpec : ChangeSpec := { name := "fnExactIsPrimeNumber", fn := fun _ => fun
  | [d] => { results := [.lit (.bool true)], args := [d] }
  | _ => none }
def fnExactIsPrimeNumberRow : OpenClaim := { program := "ytkhdbphdeabgnab", sum := "78027d612c3219b3f68390734a54ff88f3ead30532c72468ad74737a48acda7c", func := "loop.example/g01152/laws.FnExactIsPrimeNumber", spec := "fnExactIsPrimeNumber", apart := false }
def FnExactIsPrimeNumberSaid : Prop := fnExactIsPrimeNumberRow.holds Try.pinned (OpenSpec.ofChange fnExactIsPrimeNumberSpec)

/-- ITS FALSE NEIGHBOUR: 'it returns false'. Refute it at one input. -/
def fnExactIsPrimeNumberWrong : ChangeSpec := { name := "fnExactIsPrimeNumber", fn := fun _ => fun
  | [d] => { results := [.lit (.bool false)], args := [d] }
  | _ => none }
def FnExactIsPrimeNumberWrongFalsely : Prop := fnExactIsPrimeNumberRow.holds Try.pinned (OpenSpec.ofChange fnExactIsPrimeNumberWrong)

/-- 'laws.FnExactPrimeFactors': WHATEVER THE INPUT: true; the input reads as it did. -/
def fnExactPrimeFactorsSpec : ChangeSpec := { name := "fnExactPrimeFactors", fn := fun _ => fun
  | [d] => { results := [.lit (.bool true)], args := [d] }
  | _ => none }
def fnExactPrimeFactorsRow : OpenClaim := { program := "ytkhdbphdeabgnab", sum := "78027d612c3219b3f68390734a54ff88f3ead30532c72468ad74737a48acda7c", func := "loop.example/g01152/laws.FnExactPrimeFactors", spec := "fnExactPrimeFactors", apart := false }
def FnExactPrimeFactorsSaid : Prop := fnExactPrimeFactorsRow.holds Try.pinned (OpenSpec.ofChange fnExactPrimeFactorsSpec)

/-- ITS FALSE NEIGHBOUR: 'it returns false'. Refute it at one input. -/
def fnExactPrimeFactorsWrong : ChangeSpec := { name := "fnExactPrimeFactors", fn := fun _ => fun
  | [d] => { results := [.lit (.bool false)], args := [d] }
  | _ => none }
def FnExactPrimeFactorsWrongFalsely : Prop := fnExactPrimeFactorsRow.holds Try.pinned (OpenSpec.ofChange fnExactPrimeFactorsWrong)

/-- 'laws.FnExactValuationOf': WHATEVER THE INPUT: true; the input reads as it did. -/
def fnExactValuationOfSpec : ChangeSpec := { name := "fnExactValuationOf", fn := fun _ => fun
  | [d1, d2] => { results := [.lit (.bool true)], args := [d1, d2] }
  | _ => none }
def fnExactValuationOfRow : OpenClaim := { program := "ytkhdbphdeabgnab", sum := "78027d612c3219b3f68390734a54ff88f3ead30532c72468ad74737a48acda7c", func := "loop.example/g01152/laws.FnExactValuationOf", spec := "fnExactValuationOf", apart := false }
def FnExactValuationOfSaid : Prop := fnExactValuationOfRow.holds Try.pinned (OpenSpec.ofChange fnExactValuationOfSpec)

/-- ITS FALSE NEIGHBOUR: 'it returns false'. Refute it at one input. -/
def fnExactValuationOfWrong : ChangeSpec := { name := "fnExactValuationOf", fn := fun _ => fun
  | [d1, d2] => { results := [.lit (.bool false)], args := [d1, d2] }
  | _ => none }
def FnExactValuationOfWrongFalsely : Prop := fnExactValuationOfRow.holds Try.pinned (OpenSpec.ofChange fnExactValuationOfWrong)

/-- 'laws.FnExactBinomialNumber': WHATEVER THE INPUT: true; the input reads as it did. -/
def fnExactBinomialNumberSpec : ChangeSpec := { name := "fnExactBinomialNumber", fn := fun _ => fun
  | [d1, d2] => { results := [.lit (.bool true)], args := [d1, d2] }
  | _ => none }
def fnExactBinomialNumberRow : OpenClaim := { program := "ytkhdbphdeabgnab", sum := "78027d612c3219b3f68390734a54ff88f3ead30532c72468ad74737a48acda7c", func := "loop.example/g01152/laws.FnExactBinomialNumber", spec := "fnExactBinomialNumber", apart := false }
def FnExactBinomialNumberSaid : Prop := fnExactBinomialNumberRow.holds Try.pinned (OpenSpec.ofChange fnExactBinomialNumberSpec)

/-- ITS FALSE NEIGHBOUR: 'it returns false'. Refute it at one input. -/
def fnExactBinomialNumberWrong : ChangeSpec := { name := "fnExactBinomialNumber", fn := fun _ => fun
  | [d1, d2] => { results := [.lit (.bool false)], args := [d1, d2] }
  | _ => none }
def FnExactBinomialNumberWrongFalsely : Prop := fnExactBinomialNumberRow.holds Try.pinned (OpenSpec.ofChange fnExactBinomialNumberWrong)

/-- 'laws.FnExactBinomialDivisor': WHATEVER THE INPUT: true; the input reads as it did. -/
def fnExactBinomialDivisorSpec : ChangeSpec := { name := "fnExactBinomialDivisor", fn := fun _ => fun
  | [d] => { results := [.lit (.bool true)], args := [d] }
  | _ => none }
def fnExactBinomialDivisorRow : OpenClaim := { program := "ytkhdbphdeabgnab", sum := "78027d612c3219b3f68390734a54ff88f3ead30532c72468ad74737a48acda7c", func := "loop.example/g01152/laws.FnExactBinomialDivisor", spec := "fnExactBinomialDivisor", apart := false }
def FnExactBinomialDivisorSaid : Prop := fnExactBinomialDivisorRow.holds Try.pinned (OpenSpec.ofChange fnExactBinomialDivisorSpec)

/-- ITS FALSE NEIGHBOUR: 'it returns false'. Refute it at one input. -/
def fnExactBinomialDivisorWrong : ChangeSpec := { name := "fnExactBinomialDivisor", fn := fun _ => fun
  | [d] => { results := [.lit (.bool false)], args := [d] }
  | _ => none }
def FnExactBinomialDivisorWrongFalsely : Prop := fnExactBinomialDivisorRow.holds Try.pinned (OpenSpec.ofChange fnExactBinomialDivisorWrong)

/-- 'laws.FnExactCommonDivisor': WHATEVER THE INPUT: true; the input reads as it did. -/
def fnExactCommonDivisorSpec : ChangeSpec := { name := "fnExactCommonDivisor", fn := fun _ => fun
  | [d1, d2] => { results := [.lit (.bool true)], args := [d1, d2] }
  | _ => none }
def fnExactCommonDivisorRow : OpenClaim := { program := "ytkhdbphdeabgnab", sum := "78027d612c3219b3f68390734a54ff88f3ead30532c72468ad74737a48acda7c", func := "loop.example/g01152/laws.FnExactCommonDivisor", spec := "fnExactCommonDivisor", apart := false }
def FnExactCommonDivisorSaid : Prop := fnExactCommonDivisorRow.holds Try.pinned (OpenSpec.ofChange fnExactCommonDivisorSpec)

/-- ITS FALSE NEIGHBOUR: 'it returns false'. Refute it at one input. -/
def fnExactCommonDivisorWrong : ChangeSpec := { name := "fnExactCommonDivisor", fn := fun _ => fun
  | [d1, d2] => { results := [.lit (.bool false)], args := [d1, d2] }
  | _ => none }
def FnExactCommonDivisorWrongFalsely : Prop := fnExactCommonDivisorRow.holds Try.pinned (OpenSpec.ofChange fnExactCommonDivisorWrong)

/- THE SECOND FORM. 'bulk': how many values and letters a reading holds, each counted each time it is reached (what is shared counts as often as it is met; a slice's spare places count too). A statement '..UptoSaid' is the law's where the arguments, and the package variables that the reading takes, are together of bulk at most 1048576: NARROWER than '..Said'. Prove '..Said' where nothing that the law and all that it calls make is longer than what came in: it says more and counts as full. Else prove '..UptoSaid'. A law counts once. -/
mutual
def uptoBulk {H : Type} : DataW H → Nat
  | .lit (.string bytes) => bytes.length + 1
  | .lit _ => 1
  | .nil => 1
  | .ptr d => uptoBulk d + 1
  | .slice elems spare => uptoBulkAll elems + uptoBulkAll spare + 1
  | .agg parts => uptoBulkAll parts + 1
  | .iface _ d => uptoBulk d + 1
  | .map entries => uptoBulkEntries entries + 1
  | .held _ => 1
def uptoBulkAll {H : Type} : List (DataW H) → Nat
  | [] => 0
  | d :: r => uptoBulk d + uptoBulkAll r
def uptoBulkEntries {H : Type} : List (Lit × DataW H) → Nat
  | [] => 0
  | x :: r => uptoBulkEntry x + uptoBulkEntries r
def uptoBulkEntry {H : Type} : Lit × DataW H → Nat
  | (.string bytes, d) => bytes.length + uptoBulk d + 1
  | (_, d) => uptoBulk d + 1
 end
def uptoSmall : (H : Type) → List (DataW H) → Bool := fun _ ds => decide (uptoBulkAll ds ≤ 1048576)
def OpenSpec.upto (s : _root_.Go.ChangeSpec) : _root_.Go.OpenSpec := { _root_.Go.OpenSpec.ofChange s with cond := some uptoSmall }

/-- 'laws.FnExactRootsModulo', WHERE WHAT IT READS IS OF BULK AT MOST 1048576: true; the input reads as it did. -/
def fnExactRootsModuloUptoRow : OpenClaim := { program := "ytkhdbphdeabgnab", sum := "78027d612c3219b3f68390734a54ff88f3ead30532c72468ad74737a48acda7c", func := "loop.example/g01152/laws.FnExactRootsModulo", spec := "fnExactRootsModulo", apart := false, narrowed := true }
def FnExactRootsModuloUptoSaid : Prop := fnExactRootsModuloUptoRow.holds Try.pinned (OpenSpec.upto fnExactRootsModuloSpec)

/-- 'laws.FnExactIsPrimeNumber', WHERE WHAT IT READS IS OF BULK AT MOST 1048576: true; the input reads as it did. -/
def fnExactIsPrimeNumberUptoRow : OpenClaim := { program := "ytkhdbphdeabgnab", sum := "78027d612c3219b3f68390734a54ff88f3ead30532c72468ad74737a48acda7c", func := "loop.example/g01152/laws.FnExactIsPrimeNumber", spec := "fnExactIsPrimeNumber", apart := false, narrowed := true }
def FnExactIsPrimeNumberUptoSaid : Prop := fnExactIsPrimeNumberUptoRow.holds Try.pinned (OpenSpec.upto fnExactIsPrimeNumberSpec)

/-- 'laws.FnExactPrimeFactors', WHERE WHAT IT READS IS OF BULK AT MOST 1048576: true; the input reads as it did. -/
def fnExactPrimeFactorsUptoRow : OpenClaim := { program := "ytkhdbphdeabgnab", sum := "78027d612c3219b3f68390734a54ff88f3ead30532c72468ad74737a48acda7c", func := "loop.example/g01152/laws.FnExactPrimeFactors", spec := "fnExactPrimeFactors", apart := false, narrowed := true }
def FnExactPrimeFactorsUptoSaid : Prop := fnExactPrimeFactorsUptoRow.holds Try.pinned (OpenSpec.upto fnExactPrimeFactorsSpec)

/-- 'laws.FnExactValuationOf', WHERE WHAT IT READS IS OF BULK AT MOST 1048576: true; the input reads as it did. -/
def fnExactValuationOfUptoRow : OpenClaim := { program := "ytkhdbphdeabgnab", sum := "78027d612c3219b3f68390734a54ff88f3ead30532c72468ad74737a48acda7c", func := "loop.example/g01152/laws.FnExactValuationOf", spec := "fnExactValuationOf", apart := false, narrowed := true }
def FnExactValuationOfUptoSaid : Prop := fnExactValuationOfUptoRow.holds Try.pinned (OpenSpec.upto fnExactValuationOfSpec)

/-- 'laws.FnExactBinomialNumber', WHERE WHAT IT READS IS OF BULK AT MOST 1048576: true; the input reads as it did. -/
def fnExactBinomialNumberUptoRow : OpenClaim := { program := "ytkhdbphdeabgnab", sum := "78027d612c3219b3f68390734a54ff88f3ead30532c72468ad74737a48acda7c", func := "loop.example/g01152/laws.FnExactBinomialNumber", spec := "fnExactBinomialNumber", apart := false, narrowed := true }
def FnExactBinomialNumberUptoSaid : Prop := fnExactBinomialNumberUptoRow.holds Try.pinned (OpenSpec.upto fnExactBinomialNumberSpec)

/-- 'laws.FnExactBinomialDivisor', WHERE WHAT IT READS IS OF BULK AT MOST 1048576: true; the input reads as it did. -/
def fnExactBinomialDivisorUptoRow : OpenClaim := { program := "ytkhdbphdeabgnab", sum := "78027d612c3219b3f68390734a54ff88f3ead30532c72468ad74737a48acda7c", func := "loop.example/g01152/laws.FnExactBinomialDivisor", spec := "fnExactBinomialDivisor", apart := false, narrowed := true }
def FnExactBinomialDivisorUptoSaid : Prop := fnExactBinomialDivisorUptoRow.holds Try.pinned (OpenSpec.upto fnExactBinomialDivisorSpec)

/-- 'laws.FnExactCommonDivisor', WHERE WHAT IT READS IS OF BULK AT MOST 1048576: true; the input reads as it did. -/
def fnExactCommonDivisorUptoRow : OpenClaim := { program := "ytkhdbphdeabgnab", sum := "78027d612c3219b3f68390734a54ff88f3ead30532c72468ad74737a48acda7c", func := "loop.example/g01152/laws.FnExactCommonDivisor", spec := "fnExactCommonDivisor", apart := false, narrowed := true }
def FnExactCommonDivisorUptoSaid : Prop := fnExactCommonDivisorUptoRow.holds Try.pinned (OpenSpec.upto fnExactCommonDivisorSpec)

end Rows
end Go.Proofs.Ytkhdbphdeabgnab
