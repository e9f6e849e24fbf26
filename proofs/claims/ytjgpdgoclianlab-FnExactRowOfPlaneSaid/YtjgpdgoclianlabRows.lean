/-
  No cell of these rows narrows 'for every input' (looked for: loops, veiled, ifaces, maps, wideKeys, modest, calm, conditions, laid).
  DERIVED. THE GIVEN ROWS OF THIS SEAT. 6 by the template 'for every input the law returns true; each argument reads behind the call as it read before'; 0 by the template 'total and deterministic' (their statements: YtjgpdgoclianlabTotals.lean).
  GIVEN WITH THE SEED: the statements are not yours to turn. If you find one false, say at which input.
  Laid BY PROGRAM, IN A SANDBOX (cutbox-rows.mjs): the forced cells as the released guide's own fill.sh prints them over the translation 1efe37e0f3da04a8… (all of the seat's roots in one cut). By AI agents, Wed Nov 11 2026. No macro, syntax, notation, axiom, sorry.
-/
import Derived.Test.YtjgpdgoclianlabChecked
import GoSem.Claim
import GoSem.ClaimJoined
import GoSem.ClaimMapViews
import Derived.JoinedTies
import Derived.KernelRfl
namespace Go.Proofs.Ytjgpdgoclianlab
/- THE CELL 'sum', in the pinned program and in every row, IS THE sha256 OF THE DUMP (.gsa) THAT YtjgpdgoclianlabProg.lean LOADS. Nothing in Lean hashes anything: it is a label: what it is worth is what the hold of that sum in a sandbox is worth. -/
noncomputable def Try.pinned : Pinned := { name := "ytjgpdgoclianlab", sum := "1efe37e0f3da04a8ec76eec6cb1d2493a73e832f9d151124b8ede4788d35ce58", checked := Try.checked }
namespace Rows
def none {H : Type} : Left H := { results := [], args := [] }

/-- 'laws.FnExactRowOfPlane': WHATEVER THE INPUT: true; the input reads as it did. -/
def fnExactRowOfPlaneSpec : ChangeSpec := { name := "fnExactRowOfPlane", fn := fun _ => fun
  | [d1, d2] => { results := [.lit (.bool true)], args := [d1, d2] }
  | _ => none }
def fnExactRowOfPlaneRow : OpenClaim := { program := "ytjgpdgoclianlab", sum := "1efe37e0f3da04a8ec76eec6cb1d2493a73e832f9d151124b8ede4788d35ce58", func := "loop.example/g01152/laws.FnExactRowOfPlane", spec := "fnExactRowOfPlane", apart := false }
def FnExactRowOfPlaneSaid : Prop := fnExactRowOfPlaneRow.holds Try.pinned (OpenSpec.ofChange fnExactRowOfPlaneSpec)

/-- ITS FALSE NEIGHBOUR: 'it returns false'. Refute it at one input. -/
def fnExactRowOfPlaneWrong : ChangeSpec := { name := "fnExactRowOfPlane", fn := fun _ => fun
  | [d1, d2] => { results := [.lit (.bool false)], args := [d1, d2] }
  | _ => none }
def FnExactRowOfPlaneWrongFalsely : Prop := fnExactRowOfPlaneRow.holds Try.pinned (OpenSpec.ofChange fnExactRowOfPlaneWrong)

/-- 'laws.FnExactCutPlane': WHATEVER THE INPUT: true; the input reads as it did. -/
def fnExactCutPlaneSpec : ChangeSpec := { name := "fnExactCutPlane", fn := fun _ => fun
  | [d1, d2] => { results := [.lit (.bool true)], args := [d1, d2] }
  | _ => none }
def fnExactCutPlaneRow : OpenClaim := { program := "ytjgpdgoclianlab", sum := "1efe37e0f3da04a8ec76eec6cb1d2493a73e832f9d151124b8ede4788d35ce58", func := "loop.example/g01152/laws.FnExactCutPlane", spec := "fnExactCutPlane", unfollowed := true, recurses := true, apart := false }
def FnExactCutPlaneSaid : Prop := fnExactCutPlaneRow.holds Try.pinned (OpenSpec.ofChange fnExactCutPlaneSpec)

/-- ITS FALSE NEIGHBOUR: 'it returns false'. Refute it at one input. -/
def fnExactCutPlaneWrong : ChangeSpec := { name := "fnExactCutPlane", fn := fun _ => fun
  | [d1, d2] => { results := [.lit (.bool false)], args := [d1, d2] }
  | _ => none }
def FnExactCutPlaneWrongFalsely : Prop := fnExactCutPlaneRow.holds Try.pinned (OpenSpec.ofChange fnExactCutPlaneWrong)

/-- 'laws.FnExactChangePlane': WHATEVER THE INPUT: true; the input reads as it did. -/
def fnExactChangePlaneSpec : ChangeSpec := { name := "fnExactChangePlane", fn := fun _ => fun
  | [d1, d2] => { results := [.lit (.bool true)], args := [d1, d2] }
  | _ => none }
def fnExactChangePlaneRow : OpenClaim := { program := "ytjgpdgoclianlab", sum := "1efe37e0f3da04a8ec76eec6cb1d2493a73e832f9d151124b8ede4788d35ce58", func := "loop.example/g01152/laws.FnExactChangePlane", spec := "fnExactChangePlane", unfollowed := true, recurses := true, apart := false }
def FnExactChangePlaneSaid : Prop := fnExactChangePlaneRow.holds Try.pinned (OpenSpec.ofChange fnExactChangePlaneSpec)

/-- ITS FALSE NEIGHBOUR: 'it returns false'. Refute it at one input. -/
def fnExactChangePlaneWrong : ChangeSpec := { name := "fnExactChangePlane", fn := fun _ => fun
  | [d1, d2] => { results := [.lit (.bool false)], args := [d1, d2] }
  | _ => none }
def FnExactChangePlaneWrongFalsely : Prop := fnExactChangePlaneRow.holds Try.pinned (OpenSpec.ofChange fnExactChangePlaneWrong)

/-- 'laws.FnSeries': WHATEVER THE INPUT: true; the input reads as it did. -/
def fnSeriesSpec : ChangeSpec := { name := "fnSeries", fn := fun _ => fun
  | [d] => { results := [.lit (.bool true)], args := [d] }
  | _ => none }
def fnSeriesRow : OpenClaim := { program := "ytjgpdgoclianlab", sum := "1efe37e0f3da04a8ec76eec6cb1d2493a73e832f9d151124b8ede4788d35ce58", func := "loop.example/g01152/laws.FnSeries", spec := "fnSeries", unfollowed := true, recurses := true, apart := false }
def FnSeriesSaid : Prop := fnSeriesRow.holds Try.pinned (OpenSpec.ofChange fnSeriesSpec)

/-- ITS FALSE NEIGHBOUR: 'it returns false'. Refute it at one input. -/
def fnSeriesWrong : ChangeSpec := { name := "fnSeries", fn := fun _ => fun
  | [d] => { results := [.lit (.bool false)], args := [d] }
  | _ => none }
def FnSeriesWrongFalsely : Prop := fnSeriesRow.holds Try.pinned (OpenSpec.ofChange fnSeriesWrong)

/-- 'laws.FnSeriesCalculus': WHATEVER THE INPUT: true; the input reads as it did. -/
def fnSeriesCalculusSpec : ChangeSpec := { name := "fnSeriesCalculus", fn := fun _ => fun
  | [d] => { results := [.lit (.bool true)], args := [d] }
  | _ => none }
def fnSeriesCalculusRow : OpenClaim := { program := "ytjgpdgoclianlab", sum := "1efe37e0f3da04a8ec76eec6cb1d2493a73e832f9d151124b8ede4788d35ce58", func := "loop.example/g01152/laws.FnSeriesCalculus", spec := "fnSeriesCalculus", unfollowed := true, recurses := true, apart := false }
def FnSeriesCalculusSaid : Prop := fnSeriesCalculusRow.holds Try.pinned (OpenSpec.ofChange fnSeriesCalculusSpec)

/-- ITS FALSE NEIGHBOUR: 'it returns false'. Refute it at one input. -/
def fnSeriesCalculusWrong : ChangeSpec := { name := "fnSeriesCalculus", fn := fun _ => fun
  | [d] => { results := [.lit (.bool false)], args := [d] }
  | _ => none }
def FnSeriesCalculusWrongFalsely : Prop := fnSeriesCalculusRow.holds Try.pinned (OpenSpec.ofChange fnSeriesCalculusWrong)

/-- 'laws.FnPlanes': WHATEVER THE INPUT: true; the input reads as it did. -/
def fnPlanesSpec : ChangeSpec := { name := "fnPlanes", fn := fun _ => fun
  | [d] => { results := [.lit (.bool true)], args := [d] }
  | _ => none }
def fnPlanesRow : OpenClaim := { program := "ytjgpdgoclianlab", sum := "1efe37e0f3da04a8ec76eec6cb1d2493a73e832f9d151124b8ede4788d35ce58", func := "loop.example/g01152/laws.FnPlanes", spec := "fnPlanes", unfollowed := true, recurses := true, apart := false }
def FnPlanesSaid : Prop := fnPlanesRow.holds Try.pinned (OpenSpec.ofChange fnPlanesSpec)

/-- ITS FALSE NEIGHBOUR: 'it returns false'. Refute it at one input. -/
def fnPlanesWrong : ChangeSpec := { name := "fnPlanes", fn := fun _ => fun
  | [d] => { results := [.lit (.bool false)], args := [d] }
  | _ => none }
def FnPlanesWrongFalsely : Prop := fnPlanesRow.holds Try.pinned (OpenSpec.ofChange fnPlanesWrong)

/- THE SECOND FORM. 'bulk': how many values and letters a reading holds, each counted each time it is reached (what is shared counts as often as it is met; a slice's spare places count too). A statement '..UptoSaid' is the law's where the arguments, and the package variables that the reading takes, are together of bulk at most 1048576: NARROWER than '..Said'. Prove '..Said' where nothing that the law and all that it calls make is longer than what came in: it says more and counts as full. Else prove '..UptoSaid'. A law counts once. -/
mutual
def uptoBulk {H : Type} : DataW H → Nat
  | .lit (.string bytes) => bytes.length + 1
  | .lit _ => 1
  | .nil => 1
  | .ptr d => uptoBulk d + 1
  | .slice elems spare => uptoBulkAll elems + uptoBulkAll spare + 1
  | .agg parts => uptoBulkAll parts + 1
  | .iface _ d => uptoBulk d + 1
  | .map entries => uptoBulkEntries entries + 1
  | .held _ => 1
def uptoBulkAll {H : Type} : List (DataW H) → Nat
  | [] => 0
  | d :: r => uptoBulk d + uptoBulkAll r
def uptoBulkEntries {H : Type} : List (Lit × DataW H) → Nat
  | [] => 0
  | x :: r => uptoBulkEntry x + uptoBulkEntries r
def uptoBulkEntry {H : Type} : Lit × DataW H → Nat
  | (.string bytes, d) => bytes.length + uptoBulk d + 1
  | (_, d) => uptoBulk d + 1
 end
def uptoSmall : (H : Type) → List (DataW H) → Bool := fun _ ds => decide (uptoBulkAll ds ≤ 1048576)
def OpenSpec.upto (s : _root_.Go.ChangeSpec) : _root_.Go.OpenSpec := { _root_.Go.OpenSpec.ofChange s with cond := some uptoSmall }

/-- 'laws.FnExactRowOfPlane', WHERE WHAT IT READS IS OF BULK AT MOST 1048576: true; the input reads as it did. -/
def fnExactRowOfPlaneUptoRow : OpenClaim := { program := "ytjgpdgoclianlab", sum := "1efe37e0f3da04a8ec76eec6cb1d2493a73e832f9d151124b8ede4788d35ce58", func := "loop.example/g01152/laws.FnExactRowOfPlane", spec := "fnExactRowOfPlane", apart := false, narrowed := true }
def FnExactRowOfPlaneUptoSaid : Prop := fnExactRowOfPlaneUptoRow.holds Try.pinned (OpenSpec.upto fnExactRowOfPlaneSpec)

/-- 'laws.FnExactCutPlane', WHERE WHAT IT READS IS OF BULK AT MOST 1048576: true; the input reads as it did. -/
def fnExactCutPlaneUptoRow : OpenClaim := { program := "ytjgpdgoclianlab", sum := "1efe37e0f3da04a8ec76eec6cb1d2493a73e832f9d151124b8ede4788d35ce58", func := "loop.example/g01152/laws.FnExactCutPlane", spec := "fnExactCutPlane", unfollowed := true, recurses := true, apart := false, narrowed := true }
def FnExactCutPlaneUptoSaid : Prop := fnExactCutPlaneUptoRow.holds Try.pinned (OpenSpec.upto fnExactCutPlaneSpec)

/-- 'laws.FnExactChangePlane', WHERE WHAT IT READS IS OF BULK AT MOST 1048576: true; the input reads as it did. -/
def fnExactChangePlaneUptoRow : OpenClaim := { program := "ytjgpdgoclianlab", sum := "1efe37e0f3da04a8ec76eec6cb1d2493a73e832f9d151124b8ede4788d35ce58", func := "loop.example/g01152/laws.FnExactChangePlane", spec := "fnExactChangePlane", unfollowed := true, recurses := true, apart := false, narrowed := true }
def FnExactChangePlaneUptoSaid : Prop := fnExactChangePlaneUptoRow.holds Try.pinned (OpenSpec.upto fnExactChangePlaneSpec)

/-- 'laws.FnSeries', WHERE WHAT IT READS IS OF BULK AT MOST 1048576: true; the input reads as it did. -/
def fnSeriesUptoRow : OpenClaim := { program := "ytjgpdgoclianlab", sum := "1efe37e0f3da04a8ec76eec6cb1d2493a73e832f9d151124b8ede4788d35ce58", func := "loop.example/g01152/laws.FnSeries", spec := "fnSeries", unfollowed := true, recurses := true, apart := false, narrowed := true }
def FnSeriesUptoSaid : Prop := fnSeriesUptoRow.holds Try.pinned (OpenSpec.upto fnSeriesSpec)

/-- 'laws.FnSeriesCalculus', WHERE WHAT IT READS IS OF BULK AT MOST 1048576: true; the input reads as it did. -/
def fnSeriesCalculusUptoRow : OpenClaim := { program := "ytjgpdgoclianlab", sum := "1efe37e0f3da04a8ec76eec6cb1d2493a73e832f9d151124b8ede4788d35ce58", func := "loop.example/g01152/laws.FnSeriesCalculus", spec := "fnSeriesCalculus", unfollowed := true, recurses := true, apart := false, narrowed := true }
def FnSeriesCalculusUptoSaid : Prop := fnSeriesCalculusUptoRow.holds Try.pinned (OpenSpec.upto fnSeriesCalculusSpec)

/-- 'laws.FnPlanes', WHERE WHAT IT READS IS OF BULK AT MOST 1048576: true; the input reads as it did. -/
def fnPlanesUptoRow : OpenClaim := { program := "ytjgpdgoclianlab", sum := "1efe37e0f3da04a8ec76eec6cb1d2493a73e832f9d151124b8ede4788d35ce58", func := "loop.example/g01152/laws.FnPlanes", spec := "fnPlanes", unfollowed := true, recurses := true, apart := false, narrowed := true }
def FnPlanesUptoSaid : Prop := fnPlanesUptoRow.holds Try.pinned (OpenSpec.upto fnPlanesSpec)

end Rows
end Go.Proofs.Ytjgpdgoclianlab
