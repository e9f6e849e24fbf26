/-
  No cell of these rows narrows 'for every input' (looked for: loops, veiled, ifaces, maps, wideKeys, modest, calm, conditions, laid).
  DERIVED. THE GIVEN ROWS OF THIS SEAT. 5 by the template 'for every input the law returns true; each argument reads behind the call as it read before'; 0 by the template 'total and deterministic' (their statements: YtcnkpfikafaocabTotals.lean).
  GIVEN WITH THE SEED: the statements are not yours to turn. If you find one false, say at which input.
  Laid BY PROGRAM, IN A SANDBOX (cutbox-rows.mjs): the forced cells as the released guide's own fill.sh prints them over the translation 9064a4c42c53b2ef… (all of the seat's roots in one cut). By AI agents, Wed Nov 11 2026. No macro, syntax, notation, axiom, sorry.
-/
import Derived.Test.YtcnkpfikafaocabChecked
import GoSem.Claim
import GoSem.ClaimJoined
import GoSem.ClaimMapViews
import Derived.JoinedTies
import Derived.KernelRfl
namespace Go.Proofs.Ytcnkpfikafaocab
/- THE CELL 'sum', in the pinned program and in every row, IS THE sha256 OF THE DUMP (.gsa) THAT YtcnkpfikafaocabProg.lean LOADS. Nothing in Lean hashes anything: it is a label: what it is worth is what the hold of that sum in a sandbox is worth. -/
noncomputable def Try.pinned : Pinned := { name := "ytcnkpfikafaocab", sum := "9064a4c42c53b2ef4dad9eb6934859704d3d7abc313880d979f0db4f30e9330d", checked := Try.checked }
namespace Rows
def none {H : Type} : Left H := { results := [], args := [] }

/-- 'laws.FnExactIsSeries': WHATEVER THE INPUT: true; the input reads as it did. -/
def fnExactIsSeriesSpec : ChangeSpec := { name := "fnExactIsSeries", fn := fun _ => fun
  | [d] => { results := [.lit (.bool true)], args := [d] }
  | _ => none }
def fnExactIsSeriesRow : OpenClaim := { program := "ytcnkpfikafaocab", sum := "9064a4c42c53b2ef4dad9eb6934859704d3d7abc313880d979f0db4f30e9330d", func := "loop.example/g01152/laws.FnExactIsSeries", spec := "fnExactIsSeries", apart := false }
def FnExactIsSeriesSaid : Prop := fnExactIsSeriesRow.holds Try.pinned (OpenSpec.ofChange fnExactIsSeriesSpec)

/-- ITS FALSE NEIGHBOUR: 'it returns false'. Refute it at one input. -/
def fnExactIsSeriesWrong : ChangeSpec := { name := "fnExactIsSeries", fn := fun _ => fun
  | [d] => { results := [.lit (.bool false)], args := [d] }
  | _ => none }
def FnExactIsSeriesWrongFalsely : Prop := fnExactIsSeriesRow.holds Try.pinned (OpenSpec.ofChange fnExactIsSeriesWrong)

/-- 'laws.FnExactIsCurve': WHATEVER THE INPUT: true; the input reads as it did. -/
def fnExactIsCurveSpec : ChangeSpec := { name := "fnExactIsCurve", fn := fun _ => fun
  | [d] => { results := [.lit (.bool true)], args := [d] }
  | _ => none }
def fnExactIsCurveRow : OpenClaim := { program := "ytcnkpfikafaocab", sum := "9064a4c42c53b2ef4dad9eb6934859704d3d7abc313880d979f0db4f30e9330d", func := "loop.example/g01152/laws.FnExactIsCurve", spec := "fnExactIsCurve", apart := false }
def FnExactIsCurveSaid : Prop := fnExactIsCurveRow.holds Try.pinned (OpenSpec.ofChange fnExactIsCurveSpec)

/-- ITS FALSE NEIGHBOUR: 'it returns false'. Refute it at one input. -/
def fnExactIsCurveWrong : ChangeSpec := { name := "fnExactIsCurve", fn := fun _ => fun
  | [d] => { results := [.lit (.bool false)], args := [d] }
  | _ => none }
def FnExactIsCurveWrongFalsely : Prop := fnExactIsCurveRow.holds Try.pinned (OpenSpec.ofChange fnExactIsCurveWrong)

/-- 'laws.FnExactCutSeries': WHATEVER THE INPUT: true; the input reads as it did. -/
def fnExactCutSeriesSpec : ChangeSpec := { name := "fnExactCutSeries", fn := fun _ => fun
  | [d1, d2] => { results := [.lit (.bool true)], args := [d1, d2] }
  | _ => none }
def fnExactCutSeriesRow : OpenClaim := { program := "ytcnkpfikafaocab", sum := "9064a4c42c53b2ef4dad9eb6934859704d3d7abc313880d979f0db4f30e9330d", func := "loop.example/g01152/laws.FnExactCutSeries", spec := "fnExactCutSeries", apart := false }
def FnExactCutSeriesSaid : Prop := fnExactCutSeriesRow.holds Try.pinned (OpenSpec.ofChange fnExactCutSeriesSpec)

/-- ITS FALSE NEIGHBOUR: 'it returns false'. Refute it at one input. -/
def fnExactCutSeriesWrong : ChangeSpec := { name := "fnExactCutSeries", fn := fun _ => fun
  | [d1, d2] => { results := [.lit (.bool false)], args := [d1, d2] }
  | _ => none }
def FnExactCutSeriesWrongFalsely : Prop := fnExactCutSeriesRow.holds Try.pinned (OpenSpec.ofChange fnExactCutSeriesWrong)

/-- 'laws.FnExactChangeSeries': WHATEVER THE INPUT: true; the input reads as it did. -/
def fnExactChangeSeriesSpec : ChangeSpec := { name := "fnExactChangeSeries", fn := fun _ => fun
  | [d1, d2] => { results := [.lit (.bool true)], args := [d1, d2] }
  | _ => none }
def fnExactChangeSeriesRow : OpenClaim := { program := "ytcnkpfikafaocab", sum := "9064a4c42c53b2ef4dad9eb6934859704d3d7abc313880d979f0db4f30e9330d", func := "loop.example/g01152/laws.FnExactChangeSeries", spec := "fnExactChangeSeries", unfollowed := true, recurses := true, apart := false }
def FnExactChangeSeriesSaid : Prop := fnExactChangeSeriesRow.holds Try.pinned (OpenSpec.ofChange fnExactChangeSeriesSpec)

/-- ITS FALSE NEIGHBOUR: 'it returns false'. Refute it at one input. -/
def fnExactChangeSeriesWrong : ChangeSpec := { name := "fnExactChangeSeries", fn := fun _ => fun
  | [d1, d2] => { results := [.lit (.bool false)], args := [d1, d2] }
  | _ => none }
def FnExactChangeSeriesWrongFalsely : Prop := fnExactChangeSeriesRow.holds Try.pinned (OpenSpec.ofChange fnExactChangeSeriesWrong)

/-- 'laws.FnExactOrderOfSeries': WHATEVER THE INPUT: true; the input reads as it did. -/
def fnExactOrderOfSeriesSpec : ChangeSpec := { name := "fnExactOrderOfSeries", fn := fun _ => fun
  | [d] => { results := [.lit (.bool true)], args := [d] }
  | _ => none }
def fnExactOrderOfSeriesRow : OpenClaim := { program := "ytcnkpfikafaocab", sum := "9064a4c42c53b2ef4dad9eb6934859704d3d7abc313880d979f0db4f30e9330d", func := "loop.example/g01152/laws.FnExactOrderOfSeries", spec := "fnExactOrderOfSeries", apart := false }
def FnExactOrderOfSeriesSaid : Prop := fnExactOrderOfSeriesRow.holds Try.pinned (OpenSpec.ofChange fnExactOrderOfSeriesSpec)

/-- ITS FALSE NEIGHBOUR: 'it returns false'. Refute it at one input. -/
def fnExactOrderOfSeriesWrong : ChangeSpec := { name := "fnExactOrderOfSeries", fn := fun _ => fun
  | [d] => { results := [.lit (.bool false)], args := [d] }
  | _ => none }
def FnExactOrderOfSeriesWrongFalsely : Prop := fnExactOrderOfSeriesRow.holds Try.pinned (OpenSpec.ofChange fnExactOrderOfSeriesWrong)

/- THE SECOND FORM. 'bulk': how many values and letters a reading holds, each counted each time it is reached (what is shared counts as often as it is met; a slice's spare places count too). A statement '..UptoSaid' is the law's where the arguments, and the package variables that the reading takes, are together of bulk at most 1048576: NARROWER than '..Said'. Prove '..Said' where nothing that the law and all that it calls make is longer than what came in: it says more and counts as full. Else prove '..UptoSaid'. A law counts once. -/
mutual
def uptoBulk {H : Type} : DataW H → Nat
  | .lit (.string bytes) => bytes.length + 1
  | .lit _ => 1
  | .nil => 1
  | .ptr d => uptoBulk d + 1
  | .slice elems spare => uptoBulkAll elems + uptoBulkAll spare + 1
  | .agg parts => uptoBulkAll parts + 1
  | .iface _ d => uptoBulk d + 1
  | .map entries => uptoBulkEntries entries + 1
  | .held _ => 1
def uptoBulkAll {H : Type} : List (DataW H) → Nat
  | [] => 0
  | d :: r => uptoBulk d + uptoBulkAll r
def uptoBulkEntries {H : Type} : List (Lit × DataW H) → Nat
  | [] => 0
  | x :: r => uptoBulkEntry x + uptoBulkEntries r
def uptoBulkEntry {H : Type} : Lit × DataW H → Nat
  | (.string bytes, d) => bytes.length + uptoBulk d + 1
  | (_, d) => uptoBulk d + 1
 end
def uptoSmall : (H : Type) → List (DataW H) → Bool := fun _ ds => decide (uptoBulkAll ds ≤ 1048576)
def OpenSpec.upto (s : _root_.Go.ChangeSpec) : _root_.Go.OpenSpec := { _root_.Go.OpenSpec.ofChange s with cond := some uptoSmall }

/-- 'laws.FnExactIsSeries', WHERE WHAT IT READS IS OF BULK AT MOST 1048576: true; the input reads as it did. -/
def fnExactIsSeriesUptoRow : OpenClaim := { program := "ytcnkpfikafaocab", sum := "9064a4c42c53b2ef4dad9eb6934859704d3d7abc313880d979f0db4f30e9330d", func := "loop.example/g01152/laws.FnExactIsSeries", spec := "fnExactIsSeries", apart := false, narrowed := true }
def FnExactIsSeriesUptoSaid : Prop := fnExactIsSeriesUptoRow.holds Try.pinned (OpenSpec.upto fnExactIsSeriesSpec)

/-- 'laws.FnExactIsCurve', WHERE WHAT IT READS IS OF BULK AT MOST 1048576: true; the input reads as it did. -/
def fnExactIsCurveUptoRow : OpenClaim := { program := "ytcnkpfikafaocab", sum := "9064a4c42c53b2ef4dad9eb6934859704d3d7abc313880d979f0db4f30e9330d", func := "loop.example/g01152/laws.FnExactIsCurve", spec := "fnExactIsCurve", apart := false, narrowed := true }
def FnExactIsCurveUptoSaid : Prop := fnExactIsCurveUptoRow.holds Try.pinned (OpenSpec.upto fnExactIsCurveSpec)

/-- 'laws.FnExactCutSeries', WHERE WHAT IT READS IS OF BULK AT MOST 1048576: true; the input reads as it did. -/
def fnExactCutSeriesUptoRow : OpenClaim := { program := "ytcnkpfikafaocab", sum := "9064a4c42c53b2ef4dad9eb6934859704d3d7abc313880d979f0db4f30e9330d", func := "loop.example/g01152/laws.FnExactCutSeries", spec := "fnExactCutSeries", apart := false, narrowed := true }
def FnExactCutSeriesUptoSaid : Prop := fnExactCutSeriesUptoRow.holds Try.pinned (OpenSpec.upto fnExactCutSeriesSpec)

/-- 'laws.FnExactChangeSeries', WHERE WHAT IT READS IS OF BULK AT MOST 1048576: true; the input reads as it did. -/
def fnExactChangeSeriesUptoRow : OpenClaim := { program := "ytcnkpfikafaocab", sum := "9064a4c42c53b2ef4dad9eb6934859704d3d7abc313880d979f0db4f30e9330d", func := "loop.example/g01152/laws.FnExactChangeSeries", spec := "fnExactChangeSeries", unfollowed := true, recurses := true, apart := false, narrowed := true }
def FnExactChangeSeriesUptoSaid : Prop := fnExactChangeSeriesUptoRow.holds Try.pinned (OpenSpec.upto fnExactChangeSeriesSpec)

/-- 'laws.FnExactOrderOfSeries', WHERE WHAT IT READS IS OF BULK AT MOST 1048576: true; the input reads as it did. -/
def fnExactOrderOfSeriesUptoRow : OpenClaim := { program := "ytcnkpfikafaocab", sum := "9064a4c42c53b2ef4dad9eb6934859704d3d7abc313880d979f0db4f30e9330d", func := "loop.example/g01152/laws.FnExactOrderOfSeries", spec := "fnExactOrderOfSeries", apart := false, narrowed := true }
def FnExactOrderOfSeriesUptoSaid : Prop := fnExactOrderOfSeriesUptoRow.holds Try.pinned (OpenSpec.upto fnExactOrderOfSeriesSpec)

end Rows
end Go.Proofs.Ytcnkpfikafaocab
