/-
  No cell of these rows narrows 'for every input' (looked for: loops, veiled, ifaces, maps, wideKeys, modest, calm, conditions, laid).
  DERIVED. THE GIVEN ROWS OF THIS SEAT. 14 by the template 'for every input the law returns true; each argument reads behind the call as it read before'; 0 by the template 'total and deterministic' (their statements: YteicllnbphljnaaTotals.lean).
  GIVEN WITH THE SEED: the statements are not yours to turn. If you find one false, say at which input.
  Laid BY PROGRAM, IN A SANDBOX (cutbox-rows.mjs): the forced cells as the released guide's own fill.sh prints them over the translation 7fcce56b4d511d07… (all of the seat's roots in one cut). By AI agents, Wed Nov 11 2026. No macro, syntax, notation, axiom, sorry.
-/
import Derived.Test.YteicllnbphljnaaChecked
import GoSem.Claim
import GoSem.ClaimJoined
import GoSem.ClaimMapViews
import Derived.JoinedTies
import Derived.KernelRfl
namespace Go.Proofs.Yteicllnbphljnaa
/- THE CELL 'sum', in the pinned program and in every row, IS THE sha256 OF THE DUMP (.gsa) THAT YteicllnbphljnaaProg.lean LOADS. Nothing in Lean hashes anything: it is a label: what it is worth is what the hold of that sum in a sandbox is worth. -/
noncomputable def Try.pinned : Pinned := { name := "yteicllnbphljnaa", sum := "7fcce56b4d511d07ebc05e6a3fa007daa232463c1df2a6bfada4cfd61b2e9649", checked := Try.checked }
namespace Rows
def none {H : Type} : Left H := { results := [], args := [] }

/-- 'laws.FnExactSubstituteCurves': WHATEVER THE INPUT: true; the input reads as it did. -/
def fnExactSubstituteCurvesSpec : ChangeSpec := { name := "fnExactSubstituteCurves", fn := fun _ => fun
  | [d1, d2, d3] => { results := [.lit (.bool true)], args := [d1, d2, d3] }
  | _ => none }
def fnExactSubstituteCurvesRow : OpenClaim := { program := "yteicllnbphljnaa", sum := "7fcce56b4d511d07ebc05e6a3fa007daa232463c1df2a6bfada4cfd61b2e9649", func := "loop.example/g01152/laws.FnExactSubstituteCurves", spec := "fnExactSubstituteCurves", unfollowed := true, recurses := true, apart := false }
def FnExactSubstituteCurvesSaid : Prop := fnExactSubstituteCurvesRow.holds Try.pinned (OpenSpec.ofChange fnExactSubstituteCurvesSpec)

/-- ITS FALSE NEIGHBOUR: 'it returns false'. Refute it at one input. -/
def fnExactSubstituteCurvesWrong : ChangeSpec := { name := "fnExactSubstituteCurves", fn := fun _ => fun
  | [d1, d2, d3] => { results := [.lit (.bool false)], args := [d1, d2, d3] }
  | _ => none }
def FnExactSubstituteCurvesWrongFalsely : Prop := fnExactSubstituteCurvesRow.holds Try.pinned (OpenSpec.ofChange fnExactSubstituteCurvesWrong)

/-- 'laws.FnExactSubstituteBoth': WHATEVER THE INPUT: true; the input reads as it did. -/
def fnExactSubstituteBothSpec : ChangeSpec := { name := "fnExactSubstituteBoth", fn := fun _ => fun
  | [d1, d2, d3] => { results := [.lit (.bool true)], args := [d1, d2, d3] }
  | _ => none }
def fnExactSubstituteBothRow : OpenClaim := { program := "yteicllnbphljnaa", sum := "7fcce56b4d511d07ebc05e6a3fa007daa232463c1df2a6bfada4cfd61b2e9649", func := "loop.example/g01152/laws.FnExactSubstituteBoth", spec := "fnExactSubstituteBoth", unfollowed := true, recurses := true, apart := false }
def FnExactSubstituteBothSaid : Prop := fnExactSubstituteBothRow.holds Try.pinned (OpenSpec.ofChange fnExactSubstituteBothSpec)

/-- ITS FALSE NEIGHBOUR: 'it returns false'. Refute it at one input. -/
def fnExactSubstituteBothWrong : ChangeSpec := { name := "fnExactSubstituteBoth", fn := fun _ => fun
  | [d1, d2, d3] => { results := [.lit (.bool false)], args := [d1, d2, d3] }
  | _ => none }
def FnExactSubstituteBothWrongFalsely : Prop := fnExactSubstituteBothRow.holds Try.pinned (OpenSpec.ofChange fnExactSubstituteBothWrong)

/-- 'laws.FnExactPowerOfSeries': WHATEVER THE INPUT: true; the input reads as it did. -/
def fnExactPowerOfSeriesSpec : ChangeSpec := { name := "fnExactPowerOfSeries", fn := fun _ => fun
  | [d1, d2] => { results := [.lit (.bool true)], args := [d1, d2] }
  | _ => none }
def fnExactPowerOfSeriesRow : OpenClaim := { program := "yteicllnbphljnaa", sum := "7fcce56b4d511d07ebc05e6a3fa007daa232463c1df2a6bfada4cfd61b2e9649", func := "loop.example/g01152/laws.FnExactPowerOfSeries", spec := "fnExactPowerOfSeries", unfollowed := true, recurses := true, apart := false }
def FnExactPowerOfSeriesSaid : Prop := fnExactPowerOfSeriesRow.holds Try.pinned (OpenSpec.ofChange fnExactPowerOfSeriesSpec)

/-- ITS FALSE NEIGHBOUR: 'it returns false'. Refute it at one input. -/
def fnExactPowerOfSeriesWrong : ChangeSpec := { name := "fnExactPowerOfSeries", fn := fun _ => fun
  | [d1, d2] => { results := [.lit (.bool false)], args := [d1, d2] }
  | _ => none }
def FnExactPowerOfSeriesWrongFalsely : Prop := fnExactPowerOfSeriesRow.holds Try.pinned (OpenSpec.ofChange fnExactPowerOfSeriesWrong)

/-- 'laws.FnExactIsSymmetricPlane': WHATEVER THE INPUT: true; the input reads as it did. -/
def fnExactIsSymmetricPlaneSpec : ChangeSpec := { name := "fnExactIsSymmetricPlane", fn := fun _ => fun
  | [d] => { results := [.lit (.bool true)], args := [d] }
  | _ => none }
def fnExactIsSymmetricPlaneRow : OpenClaim := { program := "yteicllnbphljnaa", sum := "7fcce56b4d511d07ebc05e6a3fa007daa232463c1df2a6bfada4cfd61b2e9649", func := "loop.example/g01152/laws.FnExactIsSymmetricPlane", spec := "fnExactIsSymmetricPlane", unfollowed := true, recurses := true, apart := false }
def FnExactIsSymmetricPlaneSaid : Prop := fnExactIsSymmetricPlaneRow.holds Try.pinned (OpenSpec.ofChange fnExactIsSymmetricPlaneSpec)

/-- ITS FALSE NEIGHBOUR: 'it returns false'. Refute it at one input. -/
def fnExactIsSymmetricPlaneWrong : ChangeSpec := { name := "fnExactIsSymmetricPlane", fn := fun _ => fun
  | [d] => { results := [.lit (.bool false)], args := [d] }
  | _ => none }
def FnExactIsSymmetricPlaneWrongFalsely : Prop := fnExactIsSymmetricPlaneRow.holds Try.pinned (OpenSpec.ofChange fnExactIsSymmetricPlaneWrong)

/-- 'laws.FnExactIsLaw': WHATEVER THE INPUT: true; the input reads as it did. -/
def fnExactIsLawSpec : ChangeSpec := { name := "fnExactIsLaw", fn := fun _ => fun
  | [d] => { results := [.lit (.bool true)], args := [d] }
  | _ => none }
def fnExactIsLawRow : OpenClaim := { program := "yteicllnbphljnaa", sum := "7fcce56b4d511d07ebc05e6a3fa007daa232463c1df2a6bfada4cfd61b2e9649", func := "loop.example/g01152/laws.FnExactIsLaw", spec := "fnExactIsLaw", unfollowed := true, recurses := true, apart := false }
def FnExactIsLawSaid : Prop := fnExactIsLawRow.holds Try.pinned (OpenSpec.ofChange fnExactIsLawSpec)

/-- ITS FALSE NEIGHBOUR: 'it returns false'. Refute it at one input. -/
def fnExactIsLawWrong : ChangeSpec := { name := "fnExactIsLaw", fn := fun _ => fun
  | [d] => { results := [.lit (.bool false)], args := [d] }
  | _ => none }
def FnExactIsLawWrongFalsely : Prop := fnExactIsLawRow.holds Try.pinned (OpenSpec.ofChange fnExactIsLawWrong)

/-- 'laws.FnExactLawFault': WHATEVER THE INPUT: true; the input reads as it did. -/
def fnExactLawFaultSpec : ChangeSpec := { name := "fnExactLawFault", fn := fun _ => fun
  | [d] => { results := [.lit (.bool true)], args := [d] }
  | _ => none }
def fnExactLawFaultRow : OpenClaim := { program := "yteicllnbphljnaa", sum := "7fcce56b4d511d07ebc05e6a3fa007daa232463c1df2a6bfada4cfd61b2e9649", func := "loop.example/g01152/laws.FnExactLawFault", spec := "fnExactLawFault", unfollowed := true, recurses := true, apart := false }
def FnExactLawFaultSaid : Prop := fnExactLawFaultRow.holds Try.pinned (OpenSpec.ofChange fnExactLawFaultSpec)

/-- ITS FALSE NEIGHBOUR: 'it returns false'. Refute it at one input. -/
def fnExactLawFaultWrong : ChangeSpec := { name := "fnExactLawFault", fn := fun _ => fun
  | [d] => { results := [.lit (.bool false)], args := [d] }
  | _ => none }
def FnExactLawFaultWrongFalsely : Prop := fnExactLawFaultRow.holds Try.pinned (OpenSpec.ofChange fnExactLawFaultWrong)

/-- 'laws.FnExactInverseOfLaw': WHATEVER THE INPUT: true; the input reads as it did. -/
def fnExactInverseOfLawSpec : ChangeSpec := { name := "fnExactInverseOfLaw", fn := fun _ => fun
  | [d] => { results := [.lit (.bool true)], args := [d] }
  | _ => none }
def fnExactInverseOfLawRow : OpenClaim := { program := "yteicllnbphljnaa", sum := "7fcce56b4d511d07ebc05e6a3fa007daa232463c1df2a6bfada4cfd61b2e9649", func := "loop.example/g01152/laws.FnExactInverseOfLaw", spec := "fnExactInverseOfLaw", unfollowed := true, recurses := true, apart := false }
def FnExactInverseOfLawSaid : Prop := fnExactInverseOfLawRow.holds Try.pinned (OpenSpec.ofChange fnExactInverseOfLawSpec)

/-- ITS FALSE NEIGHBOUR: 'it returns false'. Refute it at one input. -/
def fnExactInverseOfLawWrong : ChangeSpec := { name := "fnExactInverseOfLaw", fn := fun _ => fun
  | [d] => { results := [.lit (.bool false)], args := [d] }
  | _ => none }
def FnExactInverseOfLawWrongFalsely : Prop := fnExactInverseOfLawRow.holds Try.pinned (OpenSpec.ofChange fnExactInverseOfLawWrong)

/-- 'laws.FnExactSumUnder': WHATEVER THE INPUT: true; the input reads as it did. -/
def fnExactSumUnderSpec : ChangeSpec := { name := "fnExactSumUnder", fn := fun _ => fun
  | [d1, d2, d3] => { results := [.lit (.bool true)], args := [d1, d2, d3] }
  | _ => none }
def fnExactSumUnderRow : OpenClaim := { program := "yteicllnbphljnaa", sum := "7fcce56b4d511d07ebc05e6a3fa007daa232463c1df2a6bfada4cfd61b2e9649", func := "loop.example/g01152/laws.FnExactSumUnder", spec := "fnExactSumUnder", unfollowed := true, recurses := true, apart := false }
def FnExactSumUnderSaid : Prop := fnExactSumUnderRow.holds Try.pinned (OpenSpec.ofChange fnExactSumUnderSpec)

/-- ITS FALSE NEIGHBOUR: 'it returns false'. Refute it at one input. -/
def fnExactSumUnderWrong : ChangeSpec := { name := "fnExactSumUnder", fn := fun _ => fun
  | [d1, d2, d3] => { results := [.lit (.bool false)], args := [d1, d2, d3] }
  | _ => none }
def FnExactSumUnderWrongFalsely : Prop := fnExactSumUnderRow.holds Try.pinned (OpenSpec.ofChange fnExactSumUnderWrong)

/-- 'laws.FnExactOppositeUnder': WHATEVER THE INPUT: true; the input reads as it did. -/
def fnExactOppositeUnderSpec : ChangeSpec := { name := "fnExactOppositeUnder", fn := fun _ => fun
  | [d1, d2] => { results := [.lit (.bool true)], args := [d1, d2] }
  | _ => none }
def fnExactOppositeUnderRow : OpenClaim := { program := "yteicllnbphljnaa", sum := "7fcce56b4d511d07ebc05e6a3fa007daa232463c1df2a6bfada4cfd61b2e9649", func := "loop.example/g01152/laws.FnExactOppositeUnder", spec := "fnExactOppositeUnder", unfollowed := true, recurses := true, apart := false }
def FnExactOppositeUnderSaid : Prop := fnExactOppositeUnderRow.holds Try.pinned (OpenSpec.ofChange fnExactOppositeUnderSpec)

/-- ITS FALSE NEIGHBOUR: 'it returns false'. Refute it at one input. -/
def fnExactOppositeUnderWrong : ChangeSpec := { name := "fnExactOppositeUnder", fn := fun _ => fun
  | [d1, d2] => { results := [.lit (.bool false)], args := [d1, d2] }
  | _ => none }
def FnExactOppositeUnderWrongFalsely : Prop := fnExactOppositeUnderRow.holds Try.pinned (OpenSpec.ofChange fnExactOppositeUnderWrong)

/-- 'laws.FnExactDifferenceUnder': WHATEVER THE INPUT: true; the input reads as it did. -/
def fnExactDifferenceUnderSpec : ChangeSpec := { name := "fnExactDifferenceUnder", fn := fun _ => fun
  | [d1, d2, d3] => { results := [.lit (.bool true)], args := [d1, d2, d3] }
  | _ => none }
def fnExactDifferenceUnderRow : OpenClaim := { program := "yteicllnbphljnaa", sum := "7fcce56b4d511d07ebc05e6a3fa007daa232463c1df2a6bfada4cfd61b2e9649", func := "loop.example/g01152/laws.FnExactDifferenceUnder", spec := "fnExactDifferenceUnder", unfollowed := true, recurses := true, apart := false }
def FnExactDifferenceUnderSaid : Prop := fnExactDifferenceUnderRow.holds Try.pinned (OpenSpec.ofChange fnExactDifferenceUnderSpec)

/-- ITS FALSE NEIGHBOUR: 'it returns false'. Refute it at one input. -/
def fnExactDifferenceUnderWrong : ChangeSpec := { name := "fnExactDifferenceUnder", fn := fun _ => fun
  | [d1, d2, d3] => { results := [.lit (.bool false)], args := [d1, d2, d3] }
  | _ => none }
def FnExactDifferenceUnderWrongFalsely : Prop := fnExactDifferenceUnderRow.holds Try.pinned (OpenSpec.ofChange fnExactDifferenceUnderWrong)

/-- 'laws.FnExactMultipleUnder': WHATEVER THE INPUT: true; the input reads as it did. -/
def fnExactMultipleUnderSpec : ChangeSpec := { name := "fnExactMultipleUnder", fn := fun _ => fun
  | [d1, d2, d3] => { results := [.lit (.bool true)], args := [d1, d2, d3] }
  | _ => none }
def fnExactMultipleUnderRow : OpenClaim := { program := "yteicllnbphljnaa", sum := "7fcce56b4d511d07ebc05e6a3fa007daa232463c1df2a6bfada4cfd61b2e9649", func := "loop.example/g01152/laws.FnExactMultipleUnder", spec := "fnExactMultipleUnder", unfollowed := true, recurses := true, apart := false }
def FnExactMultipleUnderSaid : Prop := fnExactMultipleUnderRow.holds Try.pinned (OpenSpec.ofChange fnExactMultipleUnderSpec)

/-- ITS FALSE NEIGHBOUR: 'it returns false'. Refute it at one input. -/
def fnExactMultipleUnderWrong : ChangeSpec := { name := "fnExactMultipleUnder", fn := fun _ => fun
  | [d1, d2, d3] => { results := [.lit (.bool false)], args := [d1, d2, d3] }
  | _ => none }
def FnExactMultipleUnderWrongFalsely : Prop := fnExactMultipleUnderRow.holds Try.pinned (OpenSpec.ofChange fnExactMultipleUnderWrong)

/-- 'laws.FnExactMultipleOf': WHATEVER THE INPUT: true; the input reads as it did. -/
def fnExactMultipleOfSpec : ChangeSpec := { name := "fnExactMultipleOf", fn := fun _ => fun
  | [d1, d2] => { results := [.lit (.bool true)], args := [d1, d2] }
  | _ => none }
def fnExactMultipleOfRow : OpenClaim := { program := "yteicllnbphljnaa", sum := "7fcce56b4d511d07ebc05e6a3fa007daa232463c1df2a6bfada4cfd61b2e9649", func := "loop.example/g01152/laws.FnExactMultipleOf", spec := "fnExactMultipleOf", unfollowed := true, recurses := true, apart := false }
def FnExactMultipleOfSaid : Prop := fnExactMultipleOfRow.holds Try.pinned (OpenSpec.ofChange fnExactMultipleOfSpec)

/-- ITS FALSE NEIGHBOUR: 'it returns false'. Refute it at one input. -/
def fnExactMultipleOfWrong : ChangeSpec := { name := "fnExactMultipleOf", fn := fun _ => fun
  | [d1, d2] => { results := [.lit (.bool false)], args := [d1, d2] }
  | _ => none }
def FnExactMultipleOfWrongFalsely : Prop := fnExactMultipleOfRow.holds Try.pinned (OpenSpec.ofChange fnExactMultipleOfWrong)

/-- 'laws.FnExactAgreementOf': WHATEVER THE INPUT: true; the input reads as it did. -/
def fnExactAgreementOfSpec : ChangeSpec := { name := "fnExactAgreementOf", fn := fun _ => fun
  | [d1, d2] => { results := [.lit (.bool true)], args := [d1, d2] }
  | _ => none }
def fnExactAgreementOfRow : OpenClaim := { program := "yteicllnbphljnaa", sum := "7fcce56b4d511d07ebc05e6a3fa007daa232463c1df2a6bfada4cfd61b2e9649", func := "loop.example/g01152/laws.FnExactAgreementOf", spec := "fnExactAgreementOf", unfollowed := true, recurses := true, apart := false }
def FnExactAgreementOfSaid : Prop := fnExactAgreementOfRow.holds Try.pinned (OpenSpec.ofChange fnExactAgreementOfSpec)

/-- ITS FALSE NEIGHBOUR: 'it returns false'. Refute it at one input. -/
def fnExactAgreementOfWrong : ChangeSpec := { name := "fnExactAgreementOf", fn := fun _ => fun
  | [d1, d2] => { results := [.lit (.bool false)], args := [d1, d2] }
  | _ => none }
def FnExactAgreementOfWrongFalsely : Prop := fnExactAgreementOfRow.holds Try.pinned (OpenSpec.ofChange fnExactAgreementOfWrong)

/-- 'laws.FnExactFirstDifference': WHATEVER THE INPUT: true; the input reads as it did. -/
def fnExactFirstDifferenceSpec : ChangeSpec := { name := "fnExactFirstDifference", fn := fun _ => fun
  | [d1, d2] => { results := [.lit (.bool true)], args := [d1, d2] }
  | _ => none }
def fnExactFirstDifferenceRow : OpenClaim := { program := "yteicllnbphljnaa", sum := "7fcce56b4d511d07ebc05e6a3fa007daa232463c1df2a6bfada4cfd61b2e9649", func := "loop.example/g01152/laws.FnExactFirstDifference", spec := "fnExactFirstDifference", unfollowed := true, recurses := true, apart := false }
def FnExactFirstDifferenceSaid : Prop := fnExactFirstDifferenceRow.holds Try.pinned (OpenSpec.ofChange fnExactFirstDifferenceSpec)

/-- ITS FALSE NEIGHBOUR: 'it returns false'. Refute it at one input. -/
def fnExactFirstDifferenceWrong : ChangeSpec := { name := "fnExactFirstDifference", fn := fun _ => fun
  | [d1, d2] => { results := [.lit (.bool false)], args := [d1, d2] }
  | _ => none }
def FnExactFirstDifferenceWrongFalsely : Prop := fnExactFirstDifferenceRow.holds Try.pinned (OpenSpec.ofChange fnExactFirstDifferenceWrong)

/- THE SECOND FORM. 'bulk': how many values and letters a reading holds, each counted each time it is reached (what is shared counts as often as it is met; a slice's spare places count too). A statement '..UptoSaid' is the law's where the arguments, and the package variables that the reading takes, are together of bulk at most 1048576: NARROWER than '..Said'. Prove '..Said' where nothing that the law and all that it calls make is longer than what came in: it says more and counts as full. Else prove '..UptoSaid'. A law counts once. -/
mutual
def uptoBulk {H : Type} : DataW H → Nat
  | .lit (.string bytes) => bytes.length + 1
  | .lit _ => 1
  | .nil => 1
  | .ptr d => uptoBulk d + 1
  | .slice elems spare => uptoBulkAll elems + uptoBulkAll spare + 1
  | .agg parts => uptoBulkAll parts + 1
  | .iface _ d => uptoBulk d + 1
  | .map entries => uptoBulkEntries entries + 1
  | .held _ => 1
def uptoBulkAll {H : Type} : List (DataW H) → Nat
  | [] => 0
  | d :: r => uptoBulk d + uptoBulkAll r
def uptoBulkEntries {H : Type} : List (Lit × DataW H) → Nat
  | [] => 0
  | x :: r => uptoBulkEntry x + uptoBulkEntries r
def uptoBulkEntry {H : Type} : Lit × DataW H → Nat
  | (.string bytes, d) => bytes.length + uptoBulk d + 1
  | (_, d) => uptoBulk d + 1
 end
def uptoSmall : (H : Type) → List (DataW H) → Bool := fun _ ds => decide (uptoBulkAll ds ≤ 1048576)
def OpenSpec.upto (s : _root_.Go.ChangeSpec) : _root_.Go.OpenSpec := { _root_.Go.OpenSpec.ofChange s with cond := some uptoSmall }

/-- 'laws.FnExactSubstituteCurves', WHERE WHAT IT READS IS OF BULK AT MOST 1048576: true; the input reads as it did. -/
def fnExactSubstituteCurvesUptoRow : OpenClaim := { program := "yteicllnbphljnaa", sum := "7fcce56b4d511d07ebc05e6a3fa007daa232463c1df2a6bfada4cfd61b2e9649", func := "loop.example/g01152/laws.FnExactSubstituteCurves", spec := "fnExactSubstituteCurves", unfollowed := true, recurses := true, apart := false, narrowed := true }
def FnExactSubstituteCurvesUptoSaid : Prop := fnExactSubstituteCurvesUptoRow.holds Try.pinned (OpenSpec.upto fnExactSubstituteCurvesSpec)

/-- 'laws.FnExactSubstituteBoth', WHERE WHAT IT READS IS OF BULK AT MOST 1048576: true; the input reads as it did. -/
def fnExactSubstituteBothUptoRow : OpenClaim := { program := "yteicllnbphljnaa", sum := "7fcce56b4d511d07ebc05e6a3fa007daa232463c1df2a6bfada4cfd61b2e9649", func := "loop.example/g01152/laws.FnExactSubstituteBoth", spec := "fnExactSubstituteBoth", unfollowed := true, recurses := true, apart := false, narrowed := true }
def FnExactSubstituteBothUptoSaid : Prop := fnExactSubstituteBothUptoRow.holds Try.pinned (OpenSpec.upto fnExactSubstituteBothSpec)

/-- 'laws.FnExactPowerOfSeries', WHERE WHAT IT READS IS OF BULK AT MOST 1048576: true; the input reads as it did. -/
def fnExactPowerOfSeriesUptoRow : OpenClaim := { program := "yteicllnbphljnaa", sum := "7fcce56b4d511d07ebc05e6a3fa007daa232463c1df2a6bfada4cfd61b2e9649", func := "loop.example/g01152/laws.FnExactPowerOfSeries", spec := "fnExactPowerOfSeries", unfollowed := true, recurses := true, apart := false, narrowed := true }
def FnExactPowerOfSeriesUptoSaid : Prop := fnExactPowerOfSeriesUptoRow.holds Try.pinned (OpenSpec.upto fnExactPowerOfSeriesSpec)

/-- 'laws.FnExactIsSymmetricPlane', WHERE WHAT IT READS IS OF BULK AT MOST 1048576: true; the input reads as it did. -/
def fnExactIsSymmetricPlaneUptoRow : OpenClaim := { program := "yteicllnbphljnaa", sum := "7fcce56b4d511d07ebc05e6a3fa007daa232463c1df2a6bfada4cfd61b2e9649", func := "loop.example/g01152/laws.FnExactIsSymmetricPlane", spec := "fnExactIsSymmetricPlane", unfollowed := true, recurses := true, apart := false, narrowed := true }
def FnExactIsSymmetricPlaneUptoSaid : Prop := fnExactIsSymmetricPlaneUptoRow.holds Try.pinned (OpenSpec.upto fnExactIsSymmetricPlaneSpec)

/-- 'laws.FnExactIsLaw', WHERE WHAT IT READS IS OF BULK AT MOST 1048576: true; the input reads as it did. -/
def fnExactIsLawUptoRow : OpenClaim := { program := "yteicllnbphljnaa", sum := "7fcce56b4d511d07ebc05e6a3fa007daa232463c1df2a6bfada4cfd61b2e9649", func := "loop.example/g01152/laws.FnExactIsLaw", spec := "fnExactIsLaw", unfollowed := true, recurses := true, apart := false, narrowed := true }
def FnExactIsLawUptoSaid : Prop := fnExactIsLawUptoRow.holds Try.pinned (OpenSpec.upto fnExactIsLawSpec)

/-- 'laws.FnExactLawFault', WHERE WHAT IT READS IS OF BULK AT MOST 1048576: true; the input reads as it did. -/
def fnExactLawFaultUptoRow : OpenClaim := { program := "yteicllnbphljnaa", sum := "7fcce56b4d511d07ebc05e6a3fa007daa232463c1df2a6bfada4cfd61b2e9649", func := "loop.example/g01152/laws.FnExactLawFault", spec := "fnExactLawFault", unfollowed := true, recurses := true, apart := false, narrowed := true }
def FnExactLawFaultUptoSaid : Prop := fnExactLawFaultUptoRow.holds Try.pinned (OpenSpec.upto fnExactLawFaultSpec)

/-- 'laws.FnExactInverseOfLaw', WHERE WHAT IT READS IS OF BULK AT MOST 1048576: true; the input reads as it did. -/
def fnExactInverseOfLawUptoRow : OpenClaim := { program := "yteicllnbphljnaa", sum := "7fcce56b4d511d07ebc05e6a3fa007daa232463c1df2a6bfada4cfd61b2e9649", func := "loop.example/g01152/laws.FnExactInverseOfLaw", spec := "fnExactInverseOfLaw", unfollowed := true, recurses := true, apart := false, narrowed := true }
def FnExactInverseOfLawUptoSaid : Prop := fnExactInverseOfLawUptoRow.holds Try.pinned (OpenSpec.upto fnExactInverseOfLawSpec)

/-- 'laws.FnExactSumUnder', WHERE WHAT IT READS IS OF BULK AT MOST 1048576: true; the input reads as it did. -/
def fnExactSumUnderUptoRow : OpenClaim := { program := "yteicllnbphljnaa", sum := "7fcce56b4d511d07ebc05e6a3fa007daa232463c1df2a6bfada4cfd61b2e9649", func := "loop.example/g01152/laws.FnExactSumUnder", spec := "fnExactSumUnder", unfollowed := true, recurses := true, apart := false, narrowed := true }
def FnExactSumUnderUptoSaid : Prop := fnExactSumUnderUptoRow.holds Try.pinned (OpenSpec.upto fnExactSumUnderSpec)

/-- 'laws.FnExactOppositeUnder', WHERE WHAT IT READS IS OF BULK AT MOST 1048576: true; the input reads as it did. -/
def fnExactOppositeUnderUptoRow : OpenClaim := { program := "yteicllnbphljnaa", sum := "7fcce56b4d511d07ebc05e6a3fa007daa232463c1df2a6bfada4cfd61b2e9649", func := "loop.example/g01152/laws.FnExactOppositeUnder", spec := "fnExactOppositeUnder", unfollowed := true, recurses := true, apart := false, narrowed := true }
def FnExactOppositeUnderUptoSaid : Prop := fnExactOppositeUnderUptoRow.holds Try.pinned (OpenSpec.upto fnExactOppositeUnderSpec)

/-- 'laws.FnExactDifferenceUnder', WHERE WHAT IT READS IS OF BULK AT MOST 1048576: true; the input reads as it did. -/
def fnExactDifferenceUnderUptoRow : OpenClaim := { program := "yteicllnbphljnaa", sum := "7fcce56b4d511d07ebc05e6a3fa007daa232463c1df2a6bfada4cfd61b2e9649", func := "loop.example/g01152/laws.FnExactDifferenceUnder", spec := "fnExactDifferenceUnder", unfollowed := true, recurses := true, apart := false, narrowed := true }
def FnExactDifferenceUnderUptoSaid : Prop := fnExactDifferenceUnderUptoRow.holds Try.pinned (OpenSpec.upto fnExactDifferenceUnderSpec)

/-- 'laws.FnExactMultipleUnder', WHERE WHAT IT READS IS OF BULK AT MOST 1048576: true; the input reads as it did. -/
def fnExactMultipleUnderUptoRow : OpenClaim := { program := "yteicllnbphljnaa", sum := "7fcce56b4d511d07ebc05e6a3fa007daa232463c1df2a6bfada4cfd61b2e9649", func := "loop.example/g01152/laws.FnExactMultipleUnder", spec := "fnExactMultipleUnder", unfollowed := true, recurses := true, apart := false, narrowed := true }
def FnExactMultipleUnderUptoSaid : Prop := fnExactMultipleUnderUptoRow.holds Try.pinned (OpenSpec.upto fnExactMultipleUnderSpec)

/-- 'laws.FnExactMultipleOf', WHERE WHAT IT READS IS OF BULK AT MOST 1048576: true; the input reads as it did. -/
def fnExactMultipleOfUptoRow : OpenClaim := { program := "yteicllnbphljnaa", sum := "7fcce56b4d511d07ebc05e6a3fa007daa232463c1df2a6bfada4cfd61b2e9649", func := "loop.example/g01152/laws.FnExactMultipleOf", spec := "fnExactMultipleOf", unfollowed := true, recurses := true, apart := false, narrowed := true }
def FnExactMultipleOfUptoSaid : Prop := fnExactMultipleOfUptoRow.holds Try.pinned (OpenSpec.upto fnExactMultipleOfSpec)

/-- 'laws.FnExactAgreementOf', WHERE WHAT IT READS IS OF BULK AT MOST 1048576: true; the input reads as it did. -/
def fnExactAgreementOfUptoRow : OpenClaim := { program := "yteicllnbphljnaa", sum := "7fcce56b4d511d07ebc05e6a3fa007daa232463c1df2a6bfada4cfd61b2e9649", func := "loop.example/g01152/laws.FnExactAgreementOf", spec := "fnExactAgreementOf", unfollowed := true, recurses := true, apart := false, narrowed := true }
def FnExactAgreementOfUptoSaid : Prop := fnExactAgreementOfUptoRow.holds Try.pinned (OpenSpec.upto fnExactAgreementOfSpec)

/-- 'laws.FnExactFirstDifference', WHERE WHAT IT READS IS OF BULK AT MOST 1048576: true; the input reads as it did. -/
def fnExactFirstDifferenceUptoRow : OpenClaim := { program := "yteicllnbphljnaa", sum := "7fcce56b4d511d07ebc05e6a3fa007daa232463c1df2a6bfada4cfd61b2e9649", func := "loop.example/g01152/laws.FnExactFirstDifference", spec := "fnExactFirstDifference", unfollowed := true, recurses := true, apart := false, narrowed := true }
def FnExactFirstDifferenceUptoSaid : Prop := fnExactFirstDifferenceUptoRow.holds Try.pinned (OpenSpec.upto fnExactFirstDifferenceSpec)

end Rows
end Go.Proofs.Yteicllnbphljnaa
