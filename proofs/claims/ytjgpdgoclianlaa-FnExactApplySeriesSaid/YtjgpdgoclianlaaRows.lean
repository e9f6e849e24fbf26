/-
  No cell of these rows narrows 'for every input' (looked for: loops, veiled, ifaces, maps, wideKeys, modest, calm, conditions, laid).
  DERIVED. THE GIVEN ROWS OF THIS SEAT. 13 by the template 'for every input the law returns true; each argument reads behind the call as it read before'; 0 by the template 'total and deterministic' (their statements: YtjgpdgoclianlaaTotals.lean).
  GIVEN WITH THE SEED: the statements are not yours to turn. If you find one false, say at which input.
  Laid BY PROGRAM, IN A SANDBOX (cutbox-rows.mjs): the forced cells as the released guide's own fill.sh prints them over the translation 71f1c62b0f20e3ab… (all of the seat's roots in one cut). By AI agents, Wed Nov 11 2026. No macro, syntax, notation, axiom, sorry.
-/
import Derived.Test.YtjgpdgoclianlaaChecked
import GoSem.Claim
import GoSem.ClaimJoined
import GoSem.ClaimMapViews
import Derived.JoinedTies
import Derived.KernelRfl
namespace Go.Proofs.Ytjgpdgoclianlaa
/- THE CELL 'sum', in the pinned program and in every row, IS THE sha256 OF THE DUMP (.gsa) THAT YtjgpdgoclianlaaProg.lean LOADS. Nothing in Lean hashes anything: it is a label: what it is worth is what the hold of that sum in a sandbox is worth. -/
noncomputable def Try.pinned : Pinned := { name := "ytjgpdgoclianlaa", sum := "71f1c62b0f20e3ab39ad742fd62efe9ea00d58175cf68bc290e5ceec96e76d6e", checked := Try.checked }
namespace Rows
def none {H : Type} : Left H := { results := [], args := [] }

/-- 'laws.FnExactIsPlane': WHATEVER THE INPUT: true; the input reads as it did. -/
def fnExactIsPlaneSpec : ChangeSpec := { name := "fnExactIsPlane", fn := fun _ => fun
  | [d] => { results := [.lit (.bool true)], args := [d] }
  | _ => none }
def fnExactIsPlaneRow : OpenClaim := { program := "ytjgpdgoclianlaa", sum := "71f1c62b0f20e3ab39ad742fd62efe9ea00d58175cf68bc290e5ceec96e76d6e", func := "loop.example/g01152/laws.FnExactIsPlane", spec := "fnExactIsPlane", apart := false }
def FnExactIsPlaneSaid : Prop := fnExactIsPlaneRow.holds Try.pinned (OpenSpec.ofChange fnExactIsPlaneSpec)

/-- ITS FALSE NEIGHBOUR: 'it returns false'. Refute it at one input. -/
def fnExactIsPlaneWrong : ChangeSpec := { name := "fnExactIsPlane", fn := fun _ => fun
  | [d] => { results := [.lit (.bool false)], args := [d] }
  | _ => none }
def FnExactIsPlaneWrongFalsely : Prop := fnExactIsPlaneRow.holds Try.pinned (OpenSpec.ofChange fnExactIsPlaneWrong)

/-- 'laws.FnExactAddPlanes': WHATEVER THE INPUT: true; the input reads as it did. -/
def fnExactAddPlanesSpec : ChangeSpec := { name := "fnExactAddPlanes", fn := fun _ => fun
  | [d1, d2] => { results := [.lit (.bool true)], args := [d1, d2] }
  | _ => none }
def fnExactAddPlanesRow : OpenClaim := { program := "ytjgpdgoclianlaa", sum := "71f1c62b0f20e3ab39ad742fd62efe9ea00d58175cf68bc290e5ceec96e76d6e", func := "loop.example/g01152/laws.FnExactAddPlanes", spec := "fnExactAddPlanes", unfollowed := true, recurses := true, apart := false }
def FnExactAddPlanesSaid : Prop := fnExactAddPlanesRow.holds Try.pinned (OpenSpec.ofChange fnExactAddPlanesSpec)

/-- ITS FALSE NEIGHBOUR: 'it returns false'. Refute it at one input. -/
def fnExactAddPlanesWrong : ChangeSpec := { name := "fnExactAddPlanes", fn := fun _ => fun
  | [d1, d2] => { results := [.lit (.bool false)], args := [d1, d2] }
  | _ => none }
def FnExactAddPlanesWrongFalsely : Prop := fnExactAddPlanesRow.holds Try.pinned (OpenSpec.ofChange fnExactAddPlanesWrong)

/-- 'laws.FnExactScalePlane': WHATEVER THE INPUT: true; the input reads as it did. -/
def fnExactScalePlaneSpec : ChangeSpec := { name := "fnExactScalePlane", fn := fun _ => fun
  | [d1, d2] => { results := [.lit (.bool true)], args := [d1, d2] }
  | _ => none }
def fnExactScalePlaneRow : OpenClaim := { program := "ytjgpdgoclianlaa", sum := "71f1c62b0f20e3ab39ad742fd62efe9ea00d58175cf68bc290e5ceec96e76d6e", func := "loop.example/g01152/laws.FnExactScalePlane", spec := "fnExactScalePlane", unfollowed := true, recurses := true, apart := false }
def FnExactScalePlaneSaid : Prop := fnExactScalePlaneRow.holds Try.pinned (OpenSpec.ofChange fnExactScalePlaneSpec)

/-- ITS FALSE NEIGHBOUR: 'it returns false'. Refute it at one input. -/
def fnExactScalePlaneWrong : ChangeSpec := { name := "fnExactScalePlane", fn := fun _ => fun
  | [d1, d2] => { results := [.lit (.bool false)], args := [d1, d2] }
  | _ => none }
def FnExactScalePlaneWrongFalsely : Prop := fnExactScalePlaneRow.holds Try.pinned (OpenSpec.ofChange fnExactScalePlaneWrong)

/-- 'laws.FnExactMultiplyPlanes': WHATEVER THE INPUT: true; the input reads as it did. -/
def fnExactMultiplyPlanesSpec : ChangeSpec := { name := "fnExactMultiplyPlanes", fn := fun _ => fun
  | [d1, d2] => { results := [.lit (.bool true)], args := [d1, d2] }
  | _ => none }
def fnExactMultiplyPlanesRow : OpenClaim := { program := "ytjgpdgoclianlaa", sum := "71f1c62b0f20e3ab39ad742fd62efe9ea00d58175cf68bc290e5ceec96e76d6e", func := "loop.example/g01152/laws.FnExactMultiplyPlanes", spec := "fnExactMultiplyPlanes", unfollowed := true, recurses := true, apart := false }
def FnExactMultiplyPlanesSaid : Prop := fnExactMultiplyPlanesRow.holds Try.pinned (OpenSpec.ofChange fnExactMultiplyPlanesSpec)

/-- ITS FALSE NEIGHBOUR: 'it returns false'. Refute it at one input. -/
def fnExactMultiplyPlanesWrong : ChangeSpec := { name := "fnExactMultiplyPlanes", fn := fun _ => fun
  | [d1, d2] => { results := [.lit (.bool false)], args := [d1, d2] }
  | _ => none }
def FnExactMultiplyPlanesWrongFalsely : Prop := fnExactMultiplyPlanesRow.holds Try.pinned (OpenSpec.ofChange fnExactMultiplyPlanesWrong)

/-- 'laws.FnExactTurnPlane': WHATEVER THE INPUT: true; the input reads as it did. -/
def fnExactTurnPlaneSpec : ChangeSpec := { name := "fnExactTurnPlane", fn := fun _ => fun
  | [d] => { results := [.lit (.bool true)], args := [d] }
  | _ => none }
def fnExactTurnPlaneRow : OpenClaim := { program := "ytjgpdgoclianlaa", sum := "71f1c62b0f20e3ab39ad742fd62efe9ea00d58175cf68bc290e5ceec96e76d6e", func := "loop.example/g01152/laws.FnExactTurnPlane", spec := "fnExactTurnPlane", unfollowed := true, recurses := true, apart := false }
def FnExactTurnPlaneSaid : Prop := fnExactTurnPlaneRow.holds Try.pinned (OpenSpec.ofChange fnExactTurnPlaneSpec)

/-- ITS FALSE NEIGHBOUR: 'it returns false'. Refute it at one input. -/
def fnExactTurnPlaneWrong : ChangeSpec := { name := "fnExactTurnPlane", fn := fun _ => fun
  | [d] => { results := [.lit (.bool false)], args := [d] }
  | _ => none }
def FnExactTurnPlaneWrongFalsely : Prop := fnExactTurnPlaneRow.holds Try.pinned (OpenSpec.ofChange fnExactTurnPlaneWrong)

/-- 'laws.FnExactIsSymmetricPlane': WHATEVER THE INPUT: true; the input reads as it did. -/
def fnExactIsSymmetricPlaneSpec : ChangeSpec := { name := "fnExactIsSymmetricPlane", fn := fun _ => fun
  | [d] => { results := [.lit (.bool true)], args := [d] }
  | _ => none }
def fnExactIsSymmetricPlaneRow : OpenClaim := { program := "ytjgpdgoclianlaa", sum := "71f1c62b0f20e3ab39ad742fd62efe9ea00d58175cf68bc290e5ceec96e76d6e", func := "loop.example/g01152/laws.FnExactIsSymmetricPlane", spec := "fnExactIsSymmetricPlane", apart := false }
def FnExactIsSymmetricPlaneSaid : Prop := fnExactIsSymmetricPlaneRow.holds Try.pinned (OpenSpec.ofChange fnExactIsSymmetricPlaneSpec)

/-- ITS FALSE NEIGHBOUR: 'it returns false'. Refute it at one input. -/
def fnExactIsSymmetricPlaneWrong : ChangeSpec := { name := "fnExactIsSymmetricPlane", fn := fun _ => fun
  | [d] => { results := [.lit (.bool false)], args := [d] }
  | _ => none }
def FnExactIsSymmetricPlaneWrongFalsely : Prop := fnExactIsSymmetricPlaneRow.holds Try.pinned (OpenSpec.ofChange fnExactIsSymmetricPlaneWrong)

/-- 'laws.FnExactCoefficientOf': WHATEVER THE INPUT: true; the input reads as it did. -/
def fnExactCoefficientOfSpec : ChangeSpec := { name := "fnExactCoefficientOf", fn := fun _ => fun
  | [d1, d2, d3] => { results := [.lit (.bool true)], args := [d1, d2, d3] }
  | _ => none }
def fnExactCoefficientOfRow : OpenClaim := { program := "ytjgpdgoclianlaa", sum := "71f1c62b0f20e3ab39ad742fd62efe9ea00d58175cf68bc290e5ceec96e76d6e", func := "loop.example/g01152/laws.FnExactCoefficientOf", spec := "fnExactCoefficientOf", apart := false }
def FnExactCoefficientOfSaid : Prop := fnExactCoefficientOfRow.holds Try.pinned (OpenSpec.ofChange fnExactCoefficientOfSpec)

/-- ITS FALSE NEIGHBOUR: 'it returns false'. Refute it at one input. -/
def fnExactCoefficientOfWrong : ChangeSpec := { name := "fnExactCoefficientOf", fn := fun _ => fun
  | [d1, d2, d3] => { results := [.lit (.bool false)], args := [d1, d2, d3] }
  | _ => none }
def FnExactCoefficientOfWrongFalsely : Prop := fnExactCoefficientOfRow.holds Try.pinned (OpenSpec.ofChange fnExactCoefficientOfWrong)

/-- 'laws.FnExactCoordinatePlane': WHATEVER THE INPUT: true; the input reads as it did. -/
def fnExactCoordinatePlaneSpec : ChangeSpec := { name := "fnExactCoordinatePlane", fn := fun _ => fun
  | [d1, d2, d3] => { results := [.lit (.bool true)], args := [d1, d2, d3] }
  | _ => none }
def fnExactCoordinatePlaneRow : OpenClaim := { program := "ytjgpdgoclianlaa", sum := "71f1c62b0f20e3ab39ad742fd62efe9ea00d58175cf68bc290e5ceec96e76d6e", func := "loop.example/g01152/laws.FnExactCoordinatePlane", spec := "fnExactCoordinatePlane", unfollowed := true, recurses := true, apart := false }
def FnExactCoordinatePlaneSaid : Prop := fnExactCoordinatePlaneRow.holds Try.pinned (OpenSpec.ofChange fnExactCoordinatePlaneSpec)

/-- ITS FALSE NEIGHBOUR: 'it returns false'. Refute it at one input. -/
def fnExactCoordinatePlaneWrong : ChangeSpec := { name := "fnExactCoordinatePlane", fn := fun _ => fun
  | [d1, d2, d3] => { results := [.lit (.bool false)], args := [d1, d2, d3] }
  | _ => none }
def FnExactCoordinatePlaneWrongFalsely : Prop := fnExactCoordinatePlaneRow.holds Try.pinned (OpenSpec.ofChange fnExactCoordinatePlaneWrong)

/-- 'laws.FnExactSubstituteCurves': WHATEVER THE INPUT: true; the input reads as it did. -/
def fnExactSubstituteCurvesSpec : ChangeSpec := { name := "fnExactSubstituteCurves", fn := fun _ => fun
  | [d1, d2, d3] => { results := [.lit (.bool true)], args := [d1, d2, d3] }
  | _ => none }
def fnExactSubstituteCurvesRow : OpenClaim := { program := "ytjgpdgoclianlaa", sum := "71f1c62b0f20e3ab39ad742fd62efe9ea00d58175cf68bc290e5ceec96e76d6e", func := "loop.example/g01152/laws.FnExactSubstituteCurves", spec := "fnExactSubstituteCurves", unfollowed := true, recurses := true, apart := false }
def FnExactSubstituteCurvesSaid : Prop := fnExactSubstituteCurvesRow.holds Try.pinned (OpenSpec.ofChange fnExactSubstituteCurvesSpec)

/-- ITS FALSE NEIGHBOUR: 'it returns false'. Refute it at one input. -/
def fnExactSubstituteCurvesWrong : ChangeSpec := { name := "fnExactSubstituteCurves", fn := fun _ => fun
  | [d1, d2, d3] => { results := [.lit (.bool false)], args := [d1, d2, d3] }
  | _ => none }
def FnExactSubstituteCurvesWrongFalsely : Prop := fnExactSubstituteCurvesRow.holds Try.pinned (OpenSpec.ofChange fnExactSubstituteCurvesWrong)

/-- 'laws.FnExactSubstituteBoth': WHATEVER THE INPUT: true; the input reads as it did. -/
def fnExactSubstituteBothSpec : ChangeSpec := { name := "fnExactSubstituteBoth", fn := fun _ => fun
  | [d1, d2, d3] => { results := [.lit (.bool true)], args := [d1, d2, d3] }
  | _ => none }
def fnExactSubstituteBothRow : OpenClaim := { program := "ytjgpdgoclianlaa", sum := "71f1c62b0f20e3ab39ad742fd62efe9ea00d58175cf68bc290e5ceec96e76d6e", func := "loop.example/g01152/laws.FnExactSubstituteBoth", spec := "fnExactSubstituteBoth", unfollowed := true, recurses := true, apart := false }
def FnExactSubstituteBothSaid : Prop := fnExactSubstituteBothRow.holds Try.pinned (OpenSpec.ofChange fnExactSubstituteBothSpec)

/-- ITS FALSE NEIGHBOUR: 'it returns false'. Refute it at one input. -/
def fnExactSubstituteBothWrong : ChangeSpec := { name := "fnExactSubstituteBoth", fn := fun _ => fun
  | [d1, d2, d3] => { results := [.lit (.bool false)], args := [d1, d2, d3] }
  | _ => none }
def FnExactSubstituteBothWrongFalsely : Prop := fnExactSubstituteBothRow.holds Try.pinned (OpenSpec.ofChange fnExactSubstituteBothWrong)

/-- 'laws.FnExactApplySeries': WHATEVER THE INPUT: true; the input reads as it did. -/
def fnExactApplySeriesSpec : ChangeSpec := { name := "fnExactApplySeries", fn := fun _ => fun
  | [d1, d2] => { results := [.lit (.bool true)], args := [d1, d2] }
  | _ => none }
def fnExactApplySeriesRow : OpenClaim := { program := "ytjgpdgoclianlaa", sum := "71f1c62b0f20e3ab39ad742fd62efe9ea00d58175cf68bc290e5ceec96e76d6e", func := "loop.example/g01152/laws.FnExactApplySeries", spec := "fnExactApplySeries", unfollowed := true, recurses := true, apart := false }
def FnExactApplySeriesSaid : Prop := fnExactApplySeriesRow.holds Try.pinned (OpenSpec.ofChange fnExactApplySeriesSpec)

/-- ITS FALSE NEIGHBOUR: 'it returns false'. Refute it at one input. -/
def fnExactApplySeriesWrong : ChangeSpec := { name := "fnExactApplySeries", fn := fun _ => fun
  | [d1, d2] => { results := [.lit (.bool false)], args := [d1, d2] }
  | _ => none }
def FnExactApplySeriesWrongFalsely : Prop := fnExactApplySeriesRow.holds Try.pinned (OpenSpec.ofChange fnExactApplySeriesWrong)

/-- 'laws.FnExactPlaneOfSeries': WHATEVER THE INPUT: true; the input reads as it did. -/
def fnExactPlaneOfSeriesSpec : ChangeSpec := { name := "fnExactPlaneOfSeries", fn := fun _ => fun
  | [d1, d2] => { results := [.lit (.bool true)], args := [d1, d2] }
  | _ => none }
def fnExactPlaneOfSeriesRow : OpenClaim := { program := "ytjgpdgoclianlaa", sum := "71f1c62b0f20e3ab39ad742fd62efe9ea00d58175cf68bc290e5ceec96e76d6e", func := "loop.example/g01152/laws.FnExactPlaneOfSeries", spec := "fnExactPlaneOfSeries", unfollowed := true, recurses := true, apart := false }
def FnExactPlaneOfSeriesSaid : Prop := fnExactPlaneOfSeriesRow.holds Try.pinned (OpenSpec.ofChange fnExactPlaneOfSeriesSpec)

/-- ITS FALSE NEIGHBOUR: 'it returns false'. Refute it at one input. -/
def fnExactPlaneOfSeriesWrong : ChangeSpec := { name := "fnExactPlaneOfSeries", fn := fun _ => fun
  | [d1, d2] => { results := [.lit (.bool false)], args := [d1, d2] }
  | _ => none }
def FnExactPlaneOfSeriesWrongFalsely : Prop := fnExactPlaneOfSeriesRow.holds Try.pinned (OpenSpec.ofChange fnExactPlaneOfSeriesWrong)

/-- 'laws.FnExactPartialPlane': WHATEVER THE INPUT: true; the input reads as it did. -/
def fnExactPartialPlaneSpec : ChangeSpec := { name := "fnExactPartialPlane", fn := fun _ => fun
  | [d1, d2] => { results := [.lit (.bool true)], args := [d1, d2] }
  | _ => none }
def fnExactPartialPlaneRow : OpenClaim := { program := "ytjgpdgoclianlaa", sum := "71f1c62b0f20e3ab39ad742fd62efe9ea00d58175cf68bc290e5ceec96e76d6e", func := "loop.example/g01152/laws.FnExactPartialPlane", spec := "fnExactPartialPlane", unfollowed := true, recurses := true, apart := false }
def FnExactPartialPlaneSaid : Prop := fnExactPartialPlaneRow.holds Try.pinned (OpenSpec.ofChange fnExactPartialPlaneSpec)

/-- ITS FALSE NEIGHBOUR: 'it returns false'. Refute it at one input. -/
def fnExactPartialPlaneWrong : ChangeSpec := { name := "fnExactPartialPlane", fn := fun _ => fun
  | [d1, d2] => { results := [.lit (.bool false)], args := [d1, d2] }
  | _ => none }
def FnExactPartialPlaneWrongFalsely : Prop := fnExactPartialPlaneRow.holds Try.pinned (OpenSpec.ofChange fnExactPartialPlaneWrong)

/- THE SECOND FORM. 'bulk': how many values and letters a reading holds, each counted each time it is reached (what is shared counts as often as it is met; a slice's spare places count too). A statement '..UptoSaid' is the law's where the arguments, and the package variables that the reading takes, are together of bulk at most 1048576: NARROWER than '..Said'. Prove '..Said' where nothing that the law and all that it calls make is longer than what came in: it says more and counts as full. Else prove '..UptoSaid'. A law counts once. -/
mutual
def uptoBulk {H : Type} : DataW H → Nat
  | .lit (.string bytes) => bytes.length + 1
  | .lit _ => 1
  | .nil => 1
  | .ptr d => uptoBulk d + 1
  | .slice elems spare => uptoBulkAll elems + uptoBulkAll spare + 1
  | .agg parts => uptoBulkAll parts + 1
  | .iface _ d => uptoBulk d + 1
  | .map entries => uptoBulkEntries entries + 1
  | .held _ => 1
def uptoBulkAll {H : Type} : List (DataW H) → Nat
  | [] => 0
  | d :: r => uptoBulk d + uptoBulkAll r
def uptoBulkEntries {H : Type} : List (Lit × DataW H) → Nat
  | [] => 0
  | x :: r => uptoBulkEntry x + uptoBulkEntries r
def uptoBulkEntry {H : Type} : Lit × DataW H → Nat
  | (.string bytes, d) => bytes.length + uptoBulk d + 1
  | (_, d) => uptoBulk d + 1
 end
def uptoSmall : (H : Type) → List (DataW H) → Bool := fun _ ds => decide (uptoBulkAll ds ≤ 1048576)
def OpenSpec.upto (s : _root_.Go.ChangeSpec) : _root_.Go.OpenSpec := { _root_.Go.OpenSpec.ofChange s with cond := some uptoSmall }

/-- 'laws.FnExactIsPlane', WHERE WHAT IT READS IS OF BULK AT MOST 1048576: true; the input reads as it did. -/
def fnExactIsPlaneUptoRow : OpenClaim := { program := "ytjgpdgoclianlaa", sum := "71f1c62b0f20e3ab39ad742fd62efe9ea00d58175cf68bc290e5ceec96e76d6e", func := "loop.example/g01152/laws.FnExactIsPlane", spec := "fnExactIsPlane", apart := false, narrowed := true }
def FnExactIsPlaneUptoSaid : Prop := fnExactIsPlaneUptoRow.holds Try.pinned (OpenSpec.upto fnExactIsPlaneSpec)

/-- 'laws.FnExactAddPlanes', WHERE WHAT IT READS IS OF BULK AT MOST 1048576: true; the input reads as it did. -/
def fnExactAddPlanesUptoRow : OpenClaim := { program := "ytjgpdgoclianlaa", sum := "71f1c62b0f20e3ab39ad742fd62efe9ea00d58175cf68bc290e5ceec96e76d6e", func := "loop.example/g01152/laws.FnExactAddPlanes", spec := "fnExactAddPlanes", unfollowed := true, recurses := true, apart := false, narrowed := true }
def FnExactAddPlanesUptoSaid : Prop := fnExactAddPlanesUptoRow.holds Try.pinned (OpenSpec.upto fnExactAddPlanesSpec)

/-- 'laws.FnExactScalePlane', WHERE WHAT IT READS IS OF BULK AT MOST 1048576: true; the input reads as it did. -/
def fnExactScalePlaneUptoRow : OpenClaim := { program := "ytjgpdgoclianlaa", sum := "71f1c62b0f20e3ab39ad742fd62efe9ea00d58175cf68bc290e5ceec96e76d6e", func := "loop.example/g01152/laws.FnExactScalePlane", spec := "fnExactScalePlane", unfollowed := true, recurses := true, apart := false, narrowed := true }
def FnExactScalePlaneUptoSaid : Prop := fnExactScalePlaneUptoRow.holds Try.pinned (OpenSpec.upto fnExactScalePlaneSpec)

/-- 'laws.FnExactMultiplyPlanes', WHERE WHAT IT READS IS OF BULK AT MOST 1048576: true; the input reads as it did. -/
def fnExactMultiplyPlanesUptoRow : OpenClaim := { program := "ytjgpdgoclianlaa", sum := "71f1c62b0f20e3ab39ad742fd62efe9ea00d58175cf68bc290e5ceec96e76d6e", func := "loop.example/g01152/laws.FnExactMultiplyPlanes", spec := "fnExactMultiplyPlanes", unfollowed := true, recurses := true, apart := false, narrowed := true }
def FnExactMultiplyPlanesUptoSaid : Prop := fnExactMultiplyPlanesUptoRow.holds Try.pinned (OpenSpec.upto fnExactMultiplyPlanesSpec)

/-- 'laws.FnExactTurnPlane', WHERE WHAT IT READS IS OF BULK AT MOST 1048576: true; the input reads as it did. -/
def fnExactTurnPlaneUptoRow : OpenClaim := { program := "ytjgpdgoclianlaa", sum := "71f1c62b0f20e3ab39ad742fd62efe9ea00d58175cf68bc290e5ceec96e76d6e", func := "loop.example/g01152/laws.FnExactTurnPlane", spec := "fnExactTurnPlane", unfollowed := true, recurses := true, apart := false, narrowed := true }
def FnExactTurnPlaneUptoSaid : Prop := fnExactTurnPlaneUptoRow.holds Try.pinned (OpenSpec.upto fnExactTurnPlaneSpec)

/-- 'laws.FnExactIsSymmetricPlane', WHERE WHAT IT READS IS OF BULK AT MOST 1048576: true; the input reads as it did. -/
def fnExactIsSymmetricPlaneUptoRow : OpenClaim := { program := "ytjgpdgoclianlaa", sum := "71f1c62b0f20e3ab39ad742fd62efe9ea00d58175cf68bc290e5ceec96e76d6e", func := "loop.example/g01152/laws.FnExactIsSymmetricPlane", spec := "fnExactIsSymmetricPlane", apart := false, narrowed := true }
def FnExactIsSymmetricPlaneUptoSaid : Prop := fnExactIsSymmetricPlaneUptoRow.holds Try.pinned (OpenSpec.upto fnExactIsSymmetricPlaneSpec)

/-- 'laws.FnExactCoefficientOf', WHERE WHAT IT READS IS OF BULK AT MOST 1048576: true; the input reads as it did. -/
def fnExactCoefficientOfUptoRow : OpenClaim := { program := "ytjgpdgoclianlaa", sum := "71f1c62b0f20e3ab39ad742fd62efe9ea00d58175cf68bc290e5ceec96e76d6e", func := "loop.example/g01152/laws.FnExactCoefficientOf", spec := "fnExactCoefficientOf", apart := false, narrowed := true }
def FnExactCoefficientOfUptoSaid : Prop := fnExactCoefficientOfUptoRow.holds Try.pinned (OpenSpec.upto fnExactCoefficientOfSpec)

/-- 'laws.FnExactCoordinatePlane', WHERE WHAT IT READS IS OF BULK AT MOST 1048576: true; the input reads as it did. -/
def fnExactCoordinatePlaneUptoRow : OpenClaim := { program := "ytjgpdgoclianlaa", sum := "71f1c62b0f20e3ab39ad742fd62efe9ea00d58175cf68bc290e5ceec96e76d6e", func := "loop.example/g01152/laws.FnExactCoordinatePlane", spec := "fnExactCoordinatePlane", unfollowed := true, recurses := true, apart := false, narrowed := true }
def FnExactCoordinatePlaneUptoSaid : Prop := fnExactCoordinatePlaneUptoRow.holds Try.pinned (OpenSpec.upto fnExactCoordinatePlaneSpec)

/-- 'laws.FnExactSubstituteCurves', WHERE WHAT IT READS IS OF BULK AT MOST 1048576: true; the input reads as it did. -/
def fnExactSubstituteCurvesUptoRow : OpenClaim := { program := "ytjgpdgoclianlaa", sum := "71f1c62b0f20e3ab39ad742fd62efe9ea00d58175cf68bc290e5ceec96e76d6e", func := "loop.example/g01152/laws.FnExactSubstituteCurves", spec := "fnExactSubstituteCurves", unfollowed := true, recurses := true, apart := false, narrowed := true }
def FnExactSubstituteCurvesUptoSaid : Prop := fnExactSubstituteCurvesUptoRow.holds Try.pinned (OpenSpec.upto fnExactSubstituteCurvesSpec)

/-- 'laws.FnExactSubstituteBoth', WHERE WHAT IT READS IS OF BULK AT MOST 1048576: true; the input reads as it did. -/
def fnExactSubstituteBothUptoRow : OpenClaim := { program := "ytjgpdgoclianlaa", sum := "71f1c62b0f20e3ab39ad742fd62efe9ea00d58175cf68bc290e5ceec96e76d6e", func := "loop.example/g01152/laws.FnExactSubstituteBoth", spec := "fnExactSubstituteBoth", unfollowed := true, recurses := true, apart := false, narrowed := true }
def FnExactSubstituteBothUptoSaid : Prop := fnExactSubstituteBothUptoRow.holds Try.pinned (OpenSpec.upto fnExactSubstituteBothSpec)

/-- 'laws.FnExactApplySeries', WHERE WHAT IT READS IS OF BULK AT MOST 1048576: true; the input reads as it did. -/
def fnExactApplySeriesUptoRow : OpenClaim := { program := "ytjgpdgoclianlaa", sum := "71f1c62b0f20e3ab39ad742fd62efe9ea00d58175cf68bc290e5ceec96e76d6e", func := "loop.example/g01152/laws.FnExactApplySeries", spec := "fnExactApplySeries", unfollowed := true, recurses := true, apart := false, narrowed := true }
def FnExactApplySeriesUptoSaid : Prop := fnExactApplySeriesUptoRow.holds Try.pinned (OpenSpec.upto fnExactApplySeriesSpec)

/-- 'laws.FnExactPlaneOfSeries', WHERE WHAT IT READS IS OF BULK AT MOST 1048576: true; the input reads as it did. -/
def fnExactPlaneOfSeriesUptoRow : OpenClaim := { program := "ytjgpdgoclianlaa", sum := "71f1c62b0f20e3ab39ad742fd62efe9ea00d58175cf68bc290e5ceec96e76d6e", func := "loop.example/g01152/laws.FnExactPlaneOfSeries", spec := "fnExactPlaneOfSeries", unfollowed := true, recurses := true, apart := false, narrowed := true }
def FnExactPlaneOfSeriesUptoSaid : Prop := fnExactPlaneOfSeriesUptoRow.holds Try.pinned (OpenSpec.upto fnExactPlaneOfSeriesSpec)

/-- 'laws.FnExactPartialPlane', WHERE WHAT IT READS IS OF BULK AT MOST 1048576: true; the input reads as it did. -/
def fnExactPartialPlaneUptoRow : OpenClaim := { program := "ytjgpdgoclianlaa", sum := "71f1c62b0f20e3ab39ad742fd62efe9ea00d58175cf68bc290e5ceec96e76d6e", func := "loop.example/g01152/laws.FnExactPartialPlane", spec := "fnExactPartialPlane", unfollowed := true, recurses := true, apart := false, narrowed := true }
def FnExactPartialPlaneUptoSaid : Prop := fnExactPartialPlaneUptoRow.holds Try.pinned (OpenSpec.upto fnExactPartialPlaneSpec)

end Rows
end Go.Proofs.Ytjgpdgoclianlaa
