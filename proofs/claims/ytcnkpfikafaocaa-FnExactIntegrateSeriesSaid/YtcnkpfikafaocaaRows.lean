/-
  No cell of these rows narrows 'for every input' (looked for: loops, veiled, ifaces, maps, wideKeys, modest, calm, conditions, laid).
  DERIVED. THE GIVEN ROWS OF THIS SEAT. 12 by the template 'for every input the law returns true; each argument reads behind the call as it read before'; 0 by the template 'total and deterministic' (their statements: YtcnkpfikafaocaaTotals.lean).
  GIVEN WITH THE SEED: the statements are not yours to turn. If you find one false, say at which input.
  Laid BY PROGRAM, IN A SANDBOX (cutbox-rows.mjs): the forced cells as the released guide's own fill.sh prints them over the translation 3fb8d3c13d3cd315… (all of the seat's roots in one cut). By AI agents, Wed Nov 11 2026. No macro, syntax, notation, axiom, sorry.
-/
import Derived.Test.YtcnkpfikafaocaaChecked
import GoSem.Claim
import GoSem.ClaimJoined
import GoSem.ClaimMapViews
import Derived.JoinedTies
import Derived.KernelRfl
namespace Go.Proofs.Ytcnkpfikafaocaa
/- THE CELL 'sum', in the pinned program and in every row, IS THE sha256 OF THE DUMP (.gsa) THAT YtcnkpfikafaocaaProg.lean LOADS. Nothing in Lean hashes anything: it is a label: what it is worth is what the hold of that sum in a sandbox is worth. -/
noncomputable def Try.pinned : Pinned := { name := "ytcnkpfikafaocaa", sum := "3fb8d3c13d3cd315c30e1c83e2f0b0d28c5ec2cd6f450d5c6602f49f1723f60d", checked := Try.checked }
namespace Rows
def none {H : Type} : Left H := { results := [], args := [] }

/-- 'laws.FnSeries': WHATEVER THE INPUT: true; the input reads as it did. -/
def fnSeriesSpec : ChangeSpec := { name := "fnSeries", fn := fun _ => fun
  | [d] => { results := [.lit (.bool true)], args := [d] }
  | _ => none }
def fnSeriesRow : OpenClaim := { program := "ytcnkpfikafaocaa", sum := "3fb8d3c13d3cd315c30e1c83e2f0b0d28c5ec2cd6f450d5c6602f49f1723f60d", func := "loop.example/g01152/laws.FnSeries", spec := "fnSeries", unfollowed := true, recurses := true, apart := false }
def FnSeriesSaid : Prop := fnSeriesRow.holds Try.pinned (OpenSpec.ofChange fnSeriesSpec)

/-- ITS FALSE NEIGHBOUR: 'it returns false'. Refute it at one input. -/
def fnSeriesWrong : ChangeSpec := { name := "fnSeries", fn := fun _ => fun
  | [d] => { results := [.lit (.bool false)], args := [d] }
  | _ => none }
def FnSeriesWrongFalsely : Prop := fnSeriesRow.holds Try.pinned (OpenSpec.ofChange fnSeriesWrong)

/-- 'laws.FnSeriesCalculus': WHATEVER THE INPUT: true; the input reads as it did. -/
def fnSeriesCalculusSpec : ChangeSpec := { name := "fnSeriesCalculus", fn := fun _ => fun
  | [d] => { results := [.lit (.bool true)], args := [d] }
  | _ => none }
def fnSeriesCalculusRow : OpenClaim := { program := "ytcnkpfikafaocaa", sum := "3fb8d3c13d3cd315c30e1c83e2f0b0d28c5ec2cd6f450d5c6602f49f1723f60d", func := "loop.example/g01152/laws.FnSeriesCalculus", spec := "fnSeriesCalculus", unfollowed := true, recurses := true, apart := false }
def FnSeriesCalculusSaid : Prop := fnSeriesCalculusRow.holds Try.pinned (OpenSpec.ofChange fnSeriesCalculusSpec)

/-- ITS FALSE NEIGHBOUR: 'it returns false'. Refute it at one input. -/
def fnSeriesCalculusWrong : ChangeSpec := { name := "fnSeriesCalculus", fn := fun _ => fun
  | [d] => { results := [.lit (.bool false)], args := [d] }
  | _ => none }
def FnSeriesCalculusWrongFalsely : Prop := fnSeriesCalculusRow.holds Try.pinned (OpenSpec.ofChange fnSeriesCalculusWrong)

/-- 'laws.FnExactAddSeries': WHATEVER THE INPUT: true; the input reads as it did. -/
def fnExactAddSeriesSpec : ChangeSpec := { name := "fnExactAddSeries", fn := fun _ => fun
  | [d1, d2] => { results := [.lit (.bool true)], args := [d1, d2] }
  | _ => none }
def fnExactAddSeriesRow : OpenClaim := { program := "ytcnkpfikafaocaa", sum := "3fb8d3c13d3cd315c30e1c83e2f0b0d28c5ec2cd6f450d5c6602f49f1723f60d", func := "loop.example/g01152/laws.FnExactAddSeries", spec := "fnExactAddSeries", unfollowed := true, recurses := true, apart := false }
def FnExactAddSeriesSaid : Prop := fnExactAddSeriesRow.holds Try.pinned (OpenSpec.ofChange fnExactAddSeriesSpec)

/-- ITS FALSE NEIGHBOUR: 'it returns false'. Refute it at one input. -/
def fnExactAddSeriesWrong : ChangeSpec := { name := "fnExactAddSeries", fn := fun _ => fun
  | [d1, d2] => { results := [.lit (.bool false)], args := [d1, d2] }
  | _ => none }
def FnExactAddSeriesWrongFalsely : Prop := fnExactAddSeriesRow.holds Try.pinned (OpenSpec.ofChange fnExactAddSeriesWrong)

/-- 'laws.FnExactScaleSeries': WHATEVER THE INPUT: true; the input reads as it did. -/
def fnExactScaleSeriesSpec : ChangeSpec := { name := "fnExactScaleSeries", fn := fun _ => fun
  | [d1, d2] => { results := [.lit (.bool true)], args := [d1, d2] }
  | _ => none }
def fnExactScaleSeriesRow : OpenClaim := { program := "ytcnkpfikafaocaa", sum := "3fb8d3c13d3cd315c30e1c83e2f0b0d28c5ec2cd6f450d5c6602f49f1723f60d", func := "loop.example/g01152/laws.FnExactScaleSeries", spec := "fnExactScaleSeries", unfollowed := true, recurses := true, apart := false }
def FnExactScaleSeriesSaid : Prop := fnExactScaleSeriesRow.holds Try.pinned (OpenSpec.ofChange fnExactScaleSeriesSpec)

/-- ITS FALSE NEIGHBOUR: 'it returns false'. Refute it at one input. -/
def fnExactScaleSeriesWrong : ChangeSpec := { name := "fnExactScaleSeries", fn := fun _ => fun
  | [d1, d2] => { results := [.lit (.bool false)], args := [d1, d2] }
  | _ => none }
def FnExactScaleSeriesWrongFalsely : Prop := fnExactScaleSeriesRow.holds Try.pinned (OpenSpec.ofChange fnExactScaleSeriesWrong)

/-- 'laws.FnExactMultiplySeries': WHATEVER THE INPUT: true; the input reads as it did. -/
def fnExactMultiplySeriesSpec : ChangeSpec := { name := "fnExactMultiplySeries", fn := fun _ => fun
  | [d1, d2] => { results := [.lit (.bool true)], args := [d1, d2] }
  | _ => none }
def fnExactMultiplySeriesRow : OpenClaim := { program := "ytcnkpfikafaocaa", sum := "3fb8d3c13d3cd315c30e1c83e2f0b0d28c5ec2cd6f450d5c6602f49f1723f60d", func := "loop.example/g01152/laws.FnExactMultiplySeries", spec := "fnExactMultiplySeries", unfollowed := true, recurses := true, apart := false }
def FnExactMultiplySeriesSaid : Prop := fnExactMultiplySeriesRow.holds Try.pinned (OpenSpec.ofChange fnExactMultiplySeriesSpec)

/-- ITS FALSE NEIGHBOUR: 'it returns false'. Refute it at one input. -/
def fnExactMultiplySeriesWrong : ChangeSpec := { name := "fnExactMultiplySeries", fn := fun _ => fun
  | [d1, d2] => { results := [.lit (.bool false)], args := [d1, d2] }
  | _ => none }
def FnExactMultiplySeriesWrongFalsely : Prop := fnExactMultiplySeriesRow.holds Try.pinned (OpenSpec.ofChange fnExactMultiplySeriesWrong)

/-- 'laws.FnExactPowerOfSeries': WHATEVER THE INPUT: true; the input reads as it did. -/
def fnExactPowerOfSeriesSpec : ChangeSpec := { name := "fnExactPowerOfSeries", fn := fun _ => fun
  | [d1, d2] => { results := [.lit (.bool true)], args := [d1, d2] }
  | _ => none }
def fnExactPowerOfSeriesRow : OpenClaim := { program := "ytcnkpfikafaocaa", sum := "3fb8d3c13d3cd315c30e1c83e2f0b0d28c5ec2cd6f450d5c6602f49f1723f60d", func := "loop.example/g01152/laws.FnExactPowerOfSeries", spec := "fnExactPowerOfSeries", unfollowed := true, recurses := true, apart := false }
def FnExactPowerOfSeriesSaid : Prop := fnExactPowerOfSeriesRow.holds Try.pinned (OpenSpec.ofChange fnExactPowerOfSeriesSpec)

/-- ITS FALSE NEIGHBOUR: 'it returns false'. Refute it at one input. -/
def fnExactPowerOfSeriesWrong : ChangeSpec := { name := "fnExactPowerOfSeries", fn := fun _ => fun
  | [d1, d2] => { results := [.lit (.bool false)], args := [d1, d2] }
  | _ => none }
def FnExactPowerOfSeriesWrongFalsely : Prop := fnExactPowerOfSeriesRow.holds Try.pinned (OpenSpec.ofChange fnExactPowerOfSeriesWrong)

/-- 'laws.FnExactInverseOfSeries': WHATEVER THE INPUT: true; the input reads as it did. -/
def fnExactInverseOfSeriesSpec : ChangeSpec := { name := "fnExactInverseOfSeries", fn := fun _ => fun
  | [d] => { results := [.lit (.bool true)], args := [d] }
  | _ => none }
def fnExactInverseOfSeriesRow : OpenClaim := { program := "ytcnkpfikafaocaa", sum := "3fb8d3c13d3cd315c30e1c83e2f0b0d28c5ec2cd6f450d5c6602f49f1723f60d", func := "loop.example/g01152/laws.FnExactInverseOfSeries", spec := "fnExactInverseOfSeries", unfollowed := true, recurses := true, apart := false }
def FnExactInverseOfSeriesSaid : Prop := fnExactInverseOfSeriesRow.holds Try.pinned (OpenSpec.ofChange fnExactInverseOfSeriesSpec)

/-- ITS FALSE NEIGHBOUR: 'it returns false'. Refute it at one input. -/
def fnExactInverseOfSeriesWrong : ChangeSpec := { name := "fnExactInverseOfSeries", fn := fun _ => fun
  | [d] => { results := [.lit (.bool false)], args := [d] }
  | _ => none }
def FnExactInverseOfSeriesWrongFalsely : Prop := fnExactInverseOfSeriesRow.holds Try.pinned (OpenSpec.ofChange fnExactInverseOfSeriesWrong)

/-- 'laws.FnExactComposeSeries': WHATEVER THE INPUT: true; the input reads as it did. -/
def fnExactComposeSeriesSpec : ChangeSpec := { name := "fnExactComposeSeries", fn := fun _ => fun
  | [d1, d2] => { results := [.lit (.bool true)], args := [d1, d2] }
  | _ => none }
def fnExactComposeSeriesRow : OpenClaim := { program := "ytcnkpfikafaocaa", sum := "3fb8d3c13d3cd315c30e1c83e2f0b0d28c5ec2cd6f450d5c6602f49f1723f60d", func := "loop.example/g01152/laws.FnExactComposeSeries", spec := "fnExactComposeSeries", unfollowed := true, recurses := true, apart := false }
def FnExactComposeSeriesSaid : Prop := fnExactComposeSeriesRow.holds Try.pinned (OpenSpec.ofChange fnExactComposeSeriesSpec)

/-- ITS FALSE NEIGHBOUR: 'it returns false'. Refute it at one input. -/
def fnExactComposeSeriesWrong : ChangeSpec := { name := "fnExactComposeSeries", fn := fun _ => fun
  | [d1, d2] => { results := [.lit (.bool false)], args := [d1, d2] }
  | _ => none }
def FnExactComposeSeriesWrongFalsely : Prop := fnExactComposeSeriesRow.holds Try.pinned (OpenSpec.ofChange fnExactComposeSeriesWrong)

/-- 'laws.FnExactReverseSeries': WHATEVER THE INPUT: true; the input reads as it did. -/
def fnExactReverseSeriesSpec : ChangeSpec := { name := "fnExactReverseSeries", fn := fun _ => fun
  | [d] => { results := [.lit (.bool true)], args := [d] }
  | _ => none }
def fnExactReverseSeriesRow : OpenClaim := { program := "ytcnkpfikafaocaa", sum := "3fb8d3c13d3cd315c30e1c83e2f0b0d28c5ec2cd6f450d5c6602f49f1723f60d", func := "loop.example/g01152/laws.FnExactReverseSeries", spec := "fnExactReverseSeries", unfollowed := true, recurses := true, apart := false }
def FnExactReverseSeriesSaid : Prop := fnExactReverseSeriesRow.holds Try.pinned (OpenSpec.ofChange fnExactReverseSeriesSpec)

/-- ITS FALSE NEIGHBOUR: 'it returns false'. Refute it at one input. -/
def fnExactReverseSeriesWrong : ChangeSpec := { name := "fnExactReverseSeries", fn := fun _ => fun
  | [d] => { results := [.lit (.bool false)], args := [d] }
  | _ => none }
def FnExactReverseSeriesWrongFalsely : Prop := fnExactReverseSeriesRow.holds Try.pinned (OpenSpec.ofChange fnExactReverseSeriesWrong)

/-- 'laws.FnExactDeriveSeries': WHATEVER THE INPUT: true; the input reads as it did. -/
def fnExactDeriveSeriesSpec : ChangeSpec := { name := "fnExactDeriveSeries", fn := fun _ => fun
  | [d] => { results := [.lit (.bool true)], args := [d] }
  | _ => none }
def fnExactDeriveSeriesRow : OpenClaim := { program := "ytcnkpfikafaocaa", sum := "3fb8d3c13d3cd315c30e1c83e2f0b0d28c5ec2cd6f450d5c6602f49f1723f60d", func := "loop.example/g01152/laws.FnExactDeriveSeries", spec := "fnExactDeriveSeries", unfollowed := true, recurses := true, apart := false }
def FnExactDeriveSeriesSaid : Prop := fnExactDeriveSeriesRow.holds Try.pinned (OpenSpec.ofChange fnExactDeriveSeriesSpec)

/-- ITS FALSE NEIGHBOUR: 'it returns false'. Refute it at one input. -/
def fnExactDeriveSeriesWrong : ChangeSpec := { name := "fnExactDeriveSeries", fn := fun _ => fun
  | [d] => { results := [.lit (.bool false)], args := [d] }
  | _ => none }
def FnExactDeriveSeriesWrongFalsely : Prop := fnExactDeriveSeriesRow.holds Try.pinned (OpenSpec.ofChange fnExactDeriveSeriesWrong)

/-- 'laws.FnExactIntegrateSeries': WHATEVER THE INPUT: true; the input reads as it did. -/
def fnExactIntegrateSeriesSpec : ChangeSpec := { name := "fnExactIntegrateSeries", fn := fun _ => fun
  | [d] => { results := [.lit (.bool true)], args := [d] }
  | _ => none }
def fnExactIntegrateSeriesRow : OpenClaim := { program := "ytcnkpfikafaocaa", sum := "3fb8d3c13d3cd315c30e1c83e2f0b0d28c5ec2cd6f450d5c6602f49f1723f60d", func := "loop.example/g01152/laws.FnExactIntegrateSeries", spec := "fnExactIntegrateSeries", unfollowed := true, recurses := true, apart := false }
def FnExactIntegrateSeriesSaid : Prop := fnExactIntegrateSeriesRow.holds Try.pinned (OpenSpec.ofChange fnExactIntegrateSeriesSpec)

/-- ITS FALSE NEIGHBOUR: 'it returns false'. Refute it at one input. -/
def fnExactIntegrateSeriesWrong : ChangeSpec := { name := "fnExactIntegrateSeries", fn := fun _ => fun
  | [d] => { results := [.lit (.bool false)], args := [d] }
  | _ => none }
def FnExactIntegrateSeriesWrongFalsely : Prop := fnExactIntegrateSeriesRow.holds Try.pinned (OpenSpec.ofChange fnExactIntegrateSeriesWrong)

/-- 'laws.FnExactValueOfSeries': WHATEVER THE INPUT: true; the input reads as it did. -/
def fnExactValueOfSeriesSpec : ChangeSpec := { name := "fnExactValueOfSeries", fn := fun _ => fun
  | [d1, d2] => { results := [.lit (.bool true)], args := [d1, d2] }
  | _ => none }
def fnExactValueOfSeriesRow : OpenClaim := { program := "ytcnkpfikafaocaa", sum := "3fb8d3c13d3cd315c30e1c83e2f0b0d28c5ec2cd6f450d5c6602f49f1723f60d", func := "loop.example/g01152/laws.FnExactValueOfSeries", spec := "fnExactValueOfSeries", apart := false }
def FnExactValueOfSeriesSaid : Prop := fnExactValueOfSeriesRow.holds Try.pinned (OpenSpec.ofChange fnExactValueOfSeriesSpec)

/-- ITS FALSE NEIGHBOUR: 'it returns false'. Refute it at one input. -/
def fnExactValueOfSeriesWrong : ChangeSpec := { name := "fnExactValueOfSeries", fn := fun _ => fun
  | [d1, d2] => { results := [.lit (.bool false)], args := [d1, d2] }
  | _ => none }
def FnExactValueOfSeriesWrongFalsely : Prop := fnExactValueOfSeriesRow.holds Try.pinned (OpenSpec.ofChange fnExactValueOfSeriesWrong)

/- THE SECOND FORM. 'bulk': how many values and letters a reading holds, each counted each time it is reached (what is shared counts as often as it is met; a slice's spare places count too). A statement '..UptoSaid' is the law's where the arguments, and the package variables that the reading takes, are together of bulk at most 1048576: NARROWER than '..Said'. Prove '..Said' where nothing that the law and all that it calls make is longer than what came in: it says more and counts as full. Else prove '..UptoSaid'. A law counts once. -/
mutual
def uptoBulk {H : Type} : DataW H → Nat
  | .lit (.string bytes) => bytes.length + 1
  | .lit _ => 1
  | .nil => 1
  | .ptr d => uptoBulk d + 1
  | .slice elems spare => uptoBulkAll elems + uptoBulkAll spare + 1
  | .agg parts => uptoBulkAll parts + 1
  | .iface _ d => uptoBulk d + 1
  | .map entries => uptoBulkEntries entries + 1
  | .held _ => 1
def uptoBulkAll {H : Type} : List (DataW H) → Nat
  | [] => 0
  | d :: r => uptoBulk d + uptoBulkAll r
def uptoBulkEntries {H : Type} : List (Lit × DataW H) → Nat
  | [] => 0
  | x :: r => uptoBulkEntry x + uptoBulkEntries r
def uptoBulkEntry {H : Type} : Lit × DataW H → Nat
  | (.string bytes, d) => bytes.length + uptoBulk d + 1
  | (_, d) => uptoBulk d + 1
 end
def uptoSmall : (H : Type) → List (DataW H) → Bool := fun _ ds => decide (uptoBulkAll ds ≤ 1048576)
def OpenSpec.upto (s : _root_.Go.ChangeSpec) : _root_.Go.OpenSpec := { _root_.Go.OpenSpec.ofChange s with cond := some uptoSmall }

/-- 'laws.FnSeries', WHERE WHAT IT READS IS OF BULK AT MOST 1048576: true; the input reads as it did. -/
def fnSeriesUptoRow : OpenClaim := { program := "ytcnkpfikafaocaa", sum := "3fb8d3c13d3cd315c30e1c83e2f0b0d28c5ec2cd6f450d5c6602f49f1723f60d", func := "loop.example/g01152/laws.FnSeries", spec := "fnSeries", unfollowed := true, recurses := true, apart := false, narrowed := true }
def FnSeriesUptoSaid : Prop := fnSeriesUptoRow.holds Try.pinned (OpenSpec.upto fnSeriesSpec)

/-- 'laws.FnSeriesCalculus', WHERE WHAT IT READS IS OF BULK AT MOST 1048576: true; the input reads as it did. -/
def fnSeriesCalculusUptoRow : OpenClaim := { program := "ytcnkpfikafaocaa", sum := "3fb8d3c13d3cd315c30e1c83e2f0b0d28c5ec2cd6f450d5c6602f49f1723f60d", func := "loop.example/g01152/laws.FnSeriesCalculus", spec := "fnSeriesCalculus", unfollowed := true, recurses := true, apart := false, narrowed := true }
def FnSeriesCalculusUptoSaid : Prop := fnSeriesCalculusUptoRow.holds Try.pinned (OpenSpec.upto fnSeriesCalculusSpec)

/-- 'laws.FnExactAddSeries', WHERE WHAT IT READS IS OF BULK AT MOST 1048576: true; the input reads as it did. -/
def fnExactAddSeriesUptoRow : OpenClaim := { program := "ytcnkpfikafaocaa", sum := "3fb8d3c13d3cd315c30e1c83e2f0b0d28c5ec2cd6f450d5c6602f49f1723f60d", func := "loop.example/g01152/laws.FnExactAddSeries", spec := "fnExactAddSeries", unfollowed := true, recurses := true, apart := false, narrowed := true }
def FnExactAddSeriesUptoSaid : Prop := fnExactAddSeriesUptoRow.holds Try.pinned (OpenSpec.upto fnExactAddSeriesSpec)

/-- 'laws.FnExactScaleSeries', WHERE WHAT IT READS IS OF BULK AT MOST 1048576: true; the input reads as it did. -/
def fnExactScaleSeriesUptoRow : OpenClaim := { program := "ytcnkpfikafaocaa", sum := "3fb8d3c13d3cd315c30e1c83e2f0b0d28c5ec2cd6f450d5c6602f49f1723f60d", func := "loop.example/g01152/laws.FnExactScaleSeries", spec := "fnExactScaleSeries", unfollowed := true, recurses := true, apart := false, narrowed := true }
def FnExactScaleSeriesUptoSaid : Prop := fnExactScaleSeriesUptoRow.holds Try.pinned (OpenSpec.upto fnExactScaleSeriesSpec)

/-- 'laws.FnExactMultiplySeries', WHERE WHAT IT READS IS OF BULK AT MOST 1048576: true; the input reads as it did. -/
def fnExactMultiplySeriesUptoRow : OpenClaim := { program := "ytcnkpfikafaocaa", sum := "3fb8d3c13d3cd315c30e1c83e2f0b0d28c5ec2cd6f450d5c6602f49f1723f60d", func := "loop.example/g01152/laws.FnExactMultiplySeries", spec := "fnExactMultiplySeries", unfollowed := true, recurses := true, apart := false, narrowed := true }
def FnExactMultiplySeriesUptoSaid : Prop := fnExactMultiplySeriesUptoRow.holds Try.pinned (OpenSpec.upto fnExactMultiplySeriesSpec)

/-- 'laws.FnExactPowerOfSeries', WHERE WHAT IT READS IS OF BULK AT MOST 1048576: true; the input reads as it did. -/
def fnExactPowerOfSeriesUptoRow : OpenClaim := { program := "ytcnkpfikafaocaa", sum := "3fb8d3c13d3cd315c30e1c83e2f0b0d28c5ec2cd6f450d5c6602f49f1723f60d", func := "loop.example/g01152/laws.FnExactPowerOfSeries", spec := "fnExactPowerOfSeries", unfollowed := true, recurses := true, apart := false, narrowed := true }
def FnExactPowerOfSeriesUptoSaid : Prop := fnExactPowerOfSeriesUptoRow.holds Try.pinned (OpenSpec.upto fnExactPowerOfSeriesSpec)

/-- 'laws.FnExactInverseOfSeries', WHERE WHAT IT READS IS OF BULK AT MOST 1048576: true; the input reads as it did. -/
def fnExactInverseOfSeriesUptoRow : OpenClaim := { program := "ytcnkpfikafaocaa", sum := "3fb8d3c13d3cd315c30e1c83e2f0b0d28c5ec2cd6f450d5c6602f49f1723f60d", func := "loop.example/g01152/laws.FnExactInverseOfSeries", spec := "fnExactInverseOfSeries", unfollowed := true, recurses := true, apart := false, narrowed := true }
def FnExactInverseOfSeriesUptoSaid : Prop := fnExactInverseOfSeriesUptoRow.holds Try.pinned (OpenSpec.upto fnExactInverseOfSeriesSpec)

/-- 'laws.FnExactComposeSeries', WHERE WHAT IT READS IS OF BULK AT MOST 1048576: true; the input reads as it did. -/
def fnExactComposeSeriesUptoRow : OpenClaim := { program := "ytcnkpfikafaocaa", sum := "3fb8d3c13d3cd315c30e1c83e2f0b0d28c5ec2cd6f450d5c6602f49f1723f60d", func := "loop.example/g01152/laws.FnExactComposeSeries", spec := "fnExactComposeSeries", unfollowed := true, recurses := true, apart := false, narrowed := true }
def FnExactComposeSeriesUptoSaid : Prop := fnExactComposeSeriesUptoRow.holds Try.pinned (OpenSpec.upto fnExactComposeSeriesSpec)

/-- 'laws.FnExactReverseSeries', WHERE WHAT IT READS IS OF BULK AT MOST 1048576: true; the input reads as it did. -/
def fnExactReverseSeriesUptoRow : OpenClaim := { program := "ytcnkpfikafaocaa", sum := "3fb8d3c13d3cd315c30e1c83e2f0b0d28c5ec2cd6f450d5c6602f49f1723f60d", func := "loop.example/g01152/laws.FnExactReverseSeries", spec := "fnExactReverseSeries", unfollowed := true, recurses := true, apart := false, narrowed := true }
def FnExactReverseSeriesUptoSaid : Prop := fnExactReverseSeriesUptoRow.holds Try.pinned (OpenSpec.upto fnExactReverseSeriesSpec)

/-- 'laws.FnExactDeriveSeries', WHERE WHAT IT READS IS OF BULK AT MOST 1048576: true; the input reads as it did. -/
def fnExactDeriveSeriesUptoRow : OpenClaim := { program := "ytcnkpfikafaocaa", sum := "3fb8d3c13d3cd315c30e1c83e2f0b0d28c5ec2cd6f450d5c6602f49f1723f60d", func := "loop.example/g01152/laws.FnExactDeriveSeries", spec := "fnExactDeriveSeries", unfollowed := true, recurses := true, apart := false, narrowed := true }
def FnExactDeriveSeriesUptoSaid : Prop := fnExactDeriveSeriesUptoRow.holds Try.pinned (OpenSpec.upto fnExactDeriveSeriesSpec)

/-- 'laws.FnExactIntegrateSeries', WHERE WHAT IT READS IS OF BULK AT MOST 1048576: true; the input reads as it did. -/
def fnExactIntegrateSeriesUptoRow : OpenClaim := { program := "ytcnkpfikafaocaa", sum := "3fb8d3c13d3cd315c30e1c83e2f0b0d28c5ec2cd6f450d5c6602f49f1723f60d", func := "loop.example/g01152/laws.FnExactIntegrateSeries", spec := "fnExactIntegrateSeries", unfollowed := true, recurses := true, apart := false, narrowed := true }
def FnExactIntegrateSeriesUptoSaid : Prop := fnExactIntegrateSeriesUptoRow.holds Try.pinned (OpenSpec.upto fnExactIntegrateSeriesSpec)

/-- 'laws.FnExactValueOfSeries', WHERE WHAT IT READS IS OF BULK AT MOST 1048576: true; the input reads as it did. -/
def fnExactValueOfSeriesUptoRow : OpenClaim := { program := "ytcnkpfikafaocaa", sum := "3fb8d3c13d3cd315c30e1c83e2f0b0d28c5ec2cd6f450d5c6602f49f1723f60d", func := "loop.example/g01152/laws.FnExactValueOfSeries", spec := "fnExactValueOfSeries", apart := false, narrowed := true }
def FnExactValueOfSeriesUptoSaid : Prop := fnExactValueOfSeriesUptoRow.holds Try.pinned (OpenSpec.upto fnExactValueOfSeriesSpec)

end Rows
end Go.Proofs.Ytcnkpfikafaocaa
