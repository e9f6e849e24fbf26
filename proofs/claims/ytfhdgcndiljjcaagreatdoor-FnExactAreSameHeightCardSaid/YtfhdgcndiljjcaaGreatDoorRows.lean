/-
  NARROWER THAN 'FOR EVERY INPUT', by the rows' own cells (each row's printed sentence says how): FnExactHeightOf: ifaces, laid · FnExactUnitOfHeight: ifaces, laid · FnExactSeriesOfHeight: ifaces, laid · FnExactAreSameHeight: ifaces, laid · FnExactHasseOfLaw: laid · FnExactOrderOfMultiple: ifaces, laid.
  DERIVED. THE GIVEN ROWS OF THIS SEAT. 6 by the template 'for every input the law returns true; each argument reads behind the call as it read before'; 0 by the template 'total and deterministic' (their statements: YtfhdgcndiljjcaaGreatDoorTotals.lean).
  GIVEN WITH THE SEED: the statements are not yours to turn. If you find one false, say at which input.
  Laid BY PROGRAM, IN A SANDBOX (cutbox-rows.mjs): the forced cells as the released guide's own fill.sh prints them over the translation 62bd9f3b7f6a0751… (all of the seat's roots in one cut). By AI agents, Wed Nov 11 2026. No macro, syntax, notation, axiom, sorry.
-/
import Derived.Test.YtfhdgcndiljjcaaGreatDoorChecked
import GoSem.Claim
import GoSem.ClaimJoined
import GoSem.ClaimMapViews
import Derived.JoinedTies
import Derived.KernelRfl
namespace Go.Proofs.YtfhdgcndiljjcaaGreatDoor
/- THE CELL 'sum', in the pinned program and in every row, IS THE sha256 OF THE DUMP (.gsa) THAT YtfhdgcndiljjcaaGreatDoorProg.lean LOADS. Nothing in Lean hashes anything: it is a label: what it is worth is what the hold of that sum in a sandbox is worth. -/
noncomputable def Tryz.pinned : Pinned := { name := "ytfhdgcndiljjcaagreatdoor", sum := "62bd9f3b7f6a0751cba7061f28cd359ffdfc9917cd2ec58a19dfd51568c68f4a", checked := Tryz.checked }
namespace Rows
def none {H : Type} : Left H := { results := [], args := [] }

/- WHAT THE LISTED PACKAGE-LEVEL VARIABLES READ AS WHEN THE CALL BEGINS. Each datum BY PROGRAM (the guide's laid-datum.mjs) off the statement by which the dump's own 'gosem.cut.vars' lays the variable. In a bare row this is a premise. The card (YtfhdgcndiljjcaaGreatDoorCards.lean) ties it to the program's text. -/
def laid_errors_errorType {H : Type} : DataW H := .iface "internal/reflectlite.rtype" (.agg [.ptr (.lit (.string [101, 114, 114, 111, 114]))])
def laid_loop_example_g01152_impl_errZeroMultiple {H : Type} : DataW H := .iface "*errors.errorString" (.ptr (.agg [.lit (.string [116, 104, 101, 32, 109, 117, 108, 116, 105, 112, 108, 101, 32, 105, 115, 32, 48])]))

/-- 'laws.FnExactHeightOf': WHATEVER THE INPUT: true; the input reads as it did. -/
def fnExactHeightOfSpec : ChangeSpec := { name := "fnExactHeightOf", vars := ["loop.example/g01152/impl.errZeroMultiple"], fn := fun _ => fun
  | [d, g1] => { results := [.lit (.bool true)], args := [d], vars := [g1] }
  | _ => none }
def fnExactHeightOfRow : OpenClaim := { program := "ytfhdgcndiljjcaagreatdoor", sum := "62bd9f3b7f6a0751cba7061f28cd359ffdfc9917cd2ec58a19dfd51568c68f4a", func := "loop.example/g01152/laws.FnExactHeightOf", spec := "fnExactHeightOf", inPlace := ["internal/reflectlite.ValueOf", "(internal/reflectlite.Value).Type", "(internal/reflectlite.Value).IsNil", "internal/reflectlite.TypeOf", "(internal/reflectlite.Value).Elem", "(internal/reflectlite.Value).Set"], unfollowed := true, recurses := true, named := ["loop.example/g01152/impl.errZeroMultiple", "errors.errorType"], ifaces := true, apart := false, laid := [("errors.errorType", laid_errors_errorType), ("loop.example/g01152/impl.errZeroMultiple", laid_loop_example_g01152_impl_errZeroMultiple)] }
def FnExactHeightOfSaid : Prop := fnExactHeightOfRow.holds Tryz.pinned (OpenSpec.ofChange fnExactHeightOfSpec)

/-- ITS FALSE NEIGHBOUR: 'it returns false'. Refute it at one input. -/
def fnExactHeightOfWrong : ChangeSpec := { name := "fnExactHeightOf", vars := ["loop.example/g01152/impl.errZeroMultiple"], fn := fun _ => fun
  | [d, g1] => { results := [.lit (.bool false)], args := [d], vars := [g1] }
  | _ => none }
def FnExactHeightOfWrongFalsely : Prop := fnExactHeightOfRow.holds Tryz.pinned (OpenSpec.ofChange fnExactHeightOfWrong)

/-- 'laws.FnExactUnitOfHeight': WHATEVER THE INPUT: true; the input reads as it did. -/
def fnExactUnitOfHeightSpec : ChangeSpec := { name := "fnExactUnitOfHeight", vars := ["loop.example/g01152/impl.errZeroMultiple"], fn := fun _ => fun
  | [d, g1] => { results := [.lit (.bool true)], args := [d], vars := [g1] }
  | _ => none }
def fnExactUnitOfHeightRow : OpenClaim := { program := "ytfhdgcndiljjcaagreatdoor", sum := "62bd9f3b7f6a0751cba7061f28cd359ffdfc9917cd2ec58a19dfd51568c68f4a", func := "loop.example/g01152/laws.FnExactUnitOfHeight", spec := "fnExactUnitOfHeight", inPlace := ["internal/reflectlite.ValueOf", "(internal/reflectlite.Value).Type", "(internal/reflectlite.Value).IsNil", "internal/reflectlite.TypeOf", "(internal/reflectlite.Value).Elem", "(internal/reflectlite.Value).Set"], unfollowed := true, recurses := true, named := ["loop.example/g01152/impl.errZeroMultiple", "errors.errorType"], ifaces := true, apart := false, laid := [("errors.errorType", laid_errors_errorType), ("loop.example/g01152/impl.errZeroMultiple", laid_loop_example_g01152_impl_errZeroMultiple)] }
def FnExactUnitOfHeightSaid : Prop := fnExactUnitOfHeightRow.holds Tryz.pinned (OpenSpec.ofChange fnExactUnitOfHeightSpec)

/-- ITS FALSE NEIGHBOUR: 'it returns false'. Refute it at one input. -/
def fnExactUnitOfHeightWrong : ChangeSpec := { name := "fnExactUnitOfHeight", vars := ["loop.example/g01152/impl.errZeroMultiple"], fn := fun _ => fun
  | [d, g1] => { results := [.lit (.bool false)], args := [d], vars := [g1] }
  | _ => none }
def FnExactUnitOfHeightWrongFalsely : Prop := fnExactUnitOfHeightRow.holds Tryz.pinned (OpenSpec.ofChange fnExactUnitOfHeightWrong)

/-- 'laws.FnExactSeriesOfHeight': WHATEVER THE INPUT: true; the input reads as it did. -/
def fnExactSeriesOfHeightSpec : ChangeSpec := { name := "fnExactSeriesOfHeight", vars := ["loop.example/g01152/impl.errZeroMultiple"], fn := fun _ => fun
  | [d, g1] => { results := [.lit (.bool true)], args := [d], vars := [g1] }
  | _ => none }
def fnExactSeriesOfHeightRow : OpenClaim := { program := "ytfhdgcndiljjcaagreatdoor", sum := "62bd9f3b7f6a0751cba7061f28cd359ffdfc9917cd2ec58a19dfd51568c68f4a", func := "loop.example/g01152/laws.FnExactSeriesOfHeight", spec := "fnExactSeriesOfHeight", inPlace := ["internal/reflectlite.ValueOf", "(internal/reflectlite.Value).Type", "(internal/reflectlite.Value).IsNil", "internal/reflectlite.TypeOf", "(internal/reflectlite.Value).Elem", "(internal/reflectlite.Value).Set"], unfollowed := true, recurses := true, named := ["loop.example/g01152/impl.errZeroMultiple", "errors.errorType"], ifaces := true, apart := false, laid := [("errors.errorType", laid_errors_errorType), ("loop.example/g01152/impl.errZeroMultiple", laid_loop_example_g01152_impl_errZeroMultiple)] }
def FnExactSeriesOfHeightSaid : Prop := fnExactSeriesOfHeightRow.holds Tryz.pinned (OpenSpec.ofChange fnExactSeriesOfHeightSpec)

/-- ITS FALSE NEIGHBOUR: 'it returns false'. Refute it at one input. -/
def fnExactSeriesOfHeightWrong : ChangeSpec := { name := "fnExactSeriesOfHeight", vars := ["loop.example/g01152/impl.errZeroMultiple"], fn := fun _ => fun
  | [d, g1] => { results := [.lit (.bool false)], args := [d], vars := [g1] }
  | _ => none }
def FnExactSeriesOfHeightWrongFalsely : Prop := fnExactSeriesOfHeightRow.holds Tryz.pinned (OpenSpec.ofChange fnExactSeriesOfHeightWrong)

/-- 'laws.FnExactAreSameHeight': WHATEVER THE INPUT: true; the input reads as it did. -/
def fnExactAreSameHeightSpec : ChangeSpec := { name := "fnExactAreSameHeight", vars := ["loop.example/g01152/impl.errZeroMultiple"], fn := fun _ => fun
  | [d1, d2, g1] => { results := [.lit (.bool true)], args := [d1, d2], vars := [g1] }
  | _ => none }
def fnExactAreSameHeightRow : OpenClaim := { program := "ytfhdgcndiljjcaagreatdoor", sum := "62bd9f3b7f6a0751cba7061f28cd359ffdfc9917cd2ec58a19dfd51568c68f4a", func := "loop.example/g01152/laws.FnExactAreSameHeight", spec := "fnExactAreSameHeight", inPlace := ["internal/reflectlite.ValueOf", "(internal/reflectlite.Value).Type", "(internal/reflectlite.Value).IsNil", "internal/reflectlite.TypeOf", "(internal/reflectlite.Value).Elem", "(internal/reflectlite.Value).Set"], unfollowed := true, recurses := true, named := ["loop.example/g01152/impl.errZeroMultiple", "errors.errorType"], ifaces := true, apart := false, laid := [("errors.errorType", laid_errors_errorType), ("loop.example/g01152/impl.errZeroMultiple", laid_loop_example_g01152_impl_errZeroMultiple)] }
def FnExactAreSameHeightSaid : Prop := fnExactAreSameHeightRow.holds Tryz.pinned (OpenSpec.ofChange fnExactAreSameHeightSpec)

/-- ITS FALSE NEIGHBOUR: 'it returns false'. Refute it at one input. -/
def fnExactAreSameHeightWrong : ChangeSpec := { name := "fnExactAreSameHeight", vars := ["loop.example/g01152/impl.errZeroMultiple"], fn := fun _ => fun
  | [d1, d2, g1] => { results := [.lit (.bool false)], args := [d1, d2], vars := [g1] }
  | _ => none }
def FnExactAreSameHeightWrongFalsely : Prop := fnExactAreSameHeightRow.holds Tryz.pinned (OpenSpec.ofChange fnExactAreSameHeightWrong)

/-- 'laws.FnExactHasseOfLaw': WHATEVER THE INPUT: true; the input reads as it did. -/
def fnExactHasseOfLawSpec : ChangeSpec := { name := "fnExactHasseOfLaw", fn := fun _ => fun
  | [d] => { results := [.lit (.bool true)], args := [d] }
  | _ => none }
def fnExactHasseOfLawRow : OpenClaim := { program := "ytfhdgcndiljjcaagreatdoor", sum := "62bd9f3b7f6a0751cba7061f28cd359ffdfc9917cd2ec58a19dfd51568c68f4a", func := "loop.example/g01152/laws.FnExactHasseOfLaw", spec := "fnExactHasseOfLaw", inPlace := ["internal/reflectlite.ValueOf", "(internal/reflectlite.Value).Type", "(internal/reflectlite.Value).IsNil", "internal/reflectlite.TypeOf", "(internal/reflectlite.Value).Elem", "(internal/reflectlite.Value).Set"], unfollowed := true, recurses := true, named := ["errors.errorType"], apart := false, laid := [("errors.errorType", laid_errors_errorType)] }
def FnExactHasseOfLawSaid : Prop := fnExactHasseOfLawRow.holds Tryz.pinned (OpenSpec.ofChange fnExactHasseOfLawSpec)

/-- ITS FALSE NEIGHBOUR: 'it returns false'. Refute it at one input. -/
def fnExactHasseOfLawWrong : ChangeSpec := { name := "fnExactHasseOfLaw", fn := fun _ => fun
  | [d] => { results := [.lit (.bool false)], args := [d] }
  | _ => none }
def FnExactHasseOfLawWrongFalsely : Prop := fnExactHasseOfLawRow.holds Tryz.pinned (OpenSpec.ofChange fnExactHasseOfLawWrong)

/-- 'laws.FnExactOrderOfMultiple': WHATEVER THE INPUT: true; the input reads as it did. -/
def fnExactOrderOfMultipleSpec : ChangeSpec := { name := "fnExactOrderOfMultiple", vars := ["loop.example/g01152/impl.errZeroMultiple"], fn := fun _ => fun
  | [d1, d2, g1] => { results := [.lit (.bool true)], args := [d1, d2], vars := [g1] }
  | _ => none }
def fnExactOrderOfMultipleRow : OpenClaim := { program := "ytfhdgcndiljjcaagreatdoor", sum := "62bd9f3b7f6a0751cba7061f28cd359ffdfc9917cd2ec58a19dfd51568c68f4a", func := "loop.example/g01152/laws.FnExactOrderOfMultiple", spec := "fnExactOrderOfMultiple", inPlace := ["internal/reflectlite.ValueOf", "(internal/reflectlite.Value).Type", "(internal/reflectlite.Value).IsNil", "internal/reflectlite.TypeOf", "(internal/reflectlite.Value).Elem", "(internal/reflectlite.Value).Set"], unfollowed := true, recurses := true, named := ["loop.example/g01152/impl.errZeroMultiple", "errors.errorType"], ifaces := true, apart := false, laid := [("errors.errorType", laid_errors_errorType), ("loop.example/g01152/impl.errZeroMultiple", laid_loop_example_g01152_impl_errZeroMultiple)] }
def FnExactOrderOfMultipleSaid : Prop := fnExactOrderOfMultipleRow.holds Tryz.pinned (OpenSpec.ofChange fnExactOrderOfMultipleSpec)

/-- ITS FALSE NEIGHBOUR: 'it returns false'. Refute it at one input. -/
def fnExactOrderOfMultipleWrong : ChangeSpec := { name := "fnExactOrderOfMultiple", vars := ["loop.example/g01152/impl.errZeroMultiple"], fn := fun _ => fun
  | [d1, d2, g1] => { results := [.lit (.bool false)], args := [d1, d2], vars := [g1] }
  | _ => none }
def FnExactOrderOfMultipleWrongFalsely : Prop := fnExactOrderOfMultipleRow.holds Tryz.pinned (OpenSpec.ofChange fnExactOrderOfMultipleWrong)

/- THE SECOND FORM. 'bulk': how many values and letters a reading holds, each counted each time it is reached (what is shared counts as often as it is met; a slice's spare places count too). A statement '..UptoSaid' is the law's where the arguments, and the package variables that the reading takes, are together of bulk at most 1048576: NARROWER than '..Said'. Prove '..Said' where nothing that the law and all that it calls make is longer than what came in: it says more and counts as full. Else prove '..UptoSaid'. A law counts once. -/
mutual
def uptoBulk {H : Type} : DataW H → Nat
  | .lit (.string bytes) => bytes.length + 1
  | .lit _ => 1
  | .nil => 1
  | .ptr d => uptoBulk d + 1
  | .slice elems spare => uptoBulkAll elems + uptoBulkAll spare + 1
  | .agg parts => uptoBulkAll parts + 1
  | .iface _ d => uptoBulk d + 1
  | .map entries => uptoBulkEntries entries + 1
  | .held _ => 1
def uptoBulkAll {H : Type} : List (DataW H) → Nat
  | [] => 0
  | d :: r => uptoBulk d + uptoBulkAll r
def uptoBulkEntries {H : Type} : List (Lit × DataW H) → Nat
  | [] => 0
  | x :: r => uptoBulkEntry x + uptoBulkEntries r
def uptoBulkEntry {H : Type} : Lit × DataW H → Nat
  | (.string bytes, d) => bytes.length + uptoBulk d + 1
  | (_, d) => uptoBulk d + 1
 end
def uptoSmall : (H : Type) → List (DataW H) → Bool := fun _ ds => decide (uptoBulkAll ds ≤ 1048576)
def OpenSpec.upto (s : _root_.Go.ChangeSpec) : _root_.Go.OpenSpec := { _root_.Go.OpenSpec.ofChange s with cond := some uptoSmall }

/-- 'laws.FnExactHeightOf', WHERE WHAT IT READS IS OF BULK AT MOST 1048576: true; the input reads as it did. -/
def fnExactHeightOfUptoRow : OpenClaim := { program := "ytfhdgcndiljjcaagreatdoor", sum := "62bd9f3b7f6a0751cba7061f28cd359ffdfc9917cd2ec58a19dfd51568c68f4a", func := "loop.example/g01152/laws.FnExactHeightOf", spec := "fnExactHeightOf", inPlace := ["internal/reflectlite.ValueOf", "(internal/reflectlite.Value).Type", "(internal/reflectlite.Value).IsNil", "internal/reflectlite.TypeOf", "(internal/reflectlite.Value).Elem", "(internal/reflectlite.Value).Set"], unfollowed := true, recurses := true, named := ["loop.example/g01152/impl.errZeroMultiple", "errors.errorType"], ifaces := true, apart := false, laid := [("errors.errorType", laid_errors_errorType), ("loop.example/g01152/impl.errZeroMultiple", laid_loop_example_g01152_impl_errZeroMultiple)], narrowed := true }
def FnExactHeightOfUptoSaid : Prop := fnExactHeightOfUptoRow.holds Tryz.pinned (OpenSpec.upto fnExactHeightOfSpec)

/-- 'laws.FnExactUnitOfHeight', WHERE WHAT IT READS IS OF BULK AT MOST 1048576: true; the input reads as it did. -/
def fnExactUnitOfHeightUptoRow : OpenClaim := { program := "ytfhdgcndiljjcaagreatdoor", sum := "62bd9f3b7f6a0751cba7061f28cd359ffdfc9917cd2ec58a19dfd51568c68f4a", func := "loop.example/g01152/laws.FnExactUnitOfHeight", spec := "fnExactUnitOfHeight", inPlace := ["internal/reflectlite.ValueOf", "(internal/reflectlite.Value).Type", "(internal/reflectlite.Value).IsNil", "internal/reflectlite.TypeOf", "(internal/reflectlite.Value).Elem", "(internal/reflectlite.Value).Set"], unfollowed := true, recurses := true, named := ["loop.example/g01152/impl.errZeroMultiple", "errors.errorType"], ifaces := true, apart := false, laid := [("errors.errorType", laid_errors_errorType), ("loop.example/g01152/impl.errZeroMultiple", laid_loop_example_g01152_impl_errZeroMultiple)], narrowed := true }
def FnExactUnitOfHeightUptoSaid : Prop := fnExactUnitOfHeightUptoRow.holds Tryz.pinned (OpenSpec.upto fnExactUnitOfHeightSpec)

/-- 'laws.FnExactSeriesOfHeight', WHERE WHAT IT READS IS OF BULK AT MOST 1048576: true; the input reads as it did. -/
def fnExactSeriesOfHeightUptoRow : OpenClaim := { program := "ytfhdgcndiljjcaagreatdoor", sum := "62bd9f3b7f6a0751cba7061f28cd359ffdfc9917cd2ec58a19dfd51568c68f4a", func := "loop.example/g01152/laws.FnExactSeriesOfHeight", spec := "fnExactSeriesOfHeight", inPlace := ["internal/reflectlite.ValueOf", "(internal/reflectlite.Value).Type", "(internal/reflectlite.Value).IsNil", "internal/reflectlite.TypeOf", "(internal/reflectlite.Value).Elem", "(internal/reflectlite.Value).Set"], unfollowed := true, recurses := true, named := ["loop.example/g01152/impl.errZeroMultiple", "errors.errorType"], ifaces := true, apart := false, laid := [("errors.errorType", laid_errors_errorType), ("loop.example/g01152/impl.errZeroMultiple", laid_loop_example_g01152_impl_errZeroMultiple)], narrowed := true }
def FnExactSeriesOfHeightUptoSaid : Prop := fnExactSeriesOfHeightUptoRow.holds Tryz.pinned (OpenSpec.upto fnExactSeriesOfHeightSpec)

/-- 'laws.FnExactAreSameHeight', WHERE WHAT IT READS IS OF BULK AT MOST 1048576: true; the input reads as it did. -/
def fnExactAreSameHeightUptoRow : OpenClaim := { program := "ytfhdgcndiljjcaagreatdoor", sum := "62bd9f3b7f6a0751cba7061f28cd359ffdfc9917cd2ec58a19dfd51568c68f4a", func := "loop.example/g01152/laws.FnExactAreSameHeight", spec := "fnExactAreSameHeight", inPlace := ["internal/reflectlite.ValueOf", "(internal/reflectlite.Value).Type", "(internal/reflectlite.Value).IsNil", "internal/reflectlite.TypeOf", "(internal/reflectlite.Value).Elem", "(internal/reflectlite.Value).Set"], unfollowed := true, recurses := true, named := ["loop.example/g01152/impl.errZeroMultiple", "errors.errorType"], ifaces := true, apart := false, laid := [("errors.errorType", laid_errors_errorType), ("loop.example/g01152/impl.errZeroMultiple", laid_loop_example_g01152_impl_errZeroMultiple)], narrowed := true }
def FnExactAreSameHeightUptoSaid : Prop := fnExactAreSameHeightUptoRow.holds Tryz.pinned (OpenSpec.upto fnExactAreSameHeightSpec)

/-- 'laws.FnExactHasseOfLaw', WHERE WHAT IT READS IS OF BULK AT MOST 1048576: true; the input reads as it did. -/
def fnExactHasseOfLawUptoRow : OpenClaim := { program := "ytfhdgcndiljjcaagreatdoor", sum := "62bd9f3b7f6a0751cba7061f28cd359ffdfc9917cd2ec58a19dfd51568c68f4a", func := "loop.example/g01152/laws.FnExactHasseOfLaw", spec := "fnExactHasseOfLaw", inPlace := ["internal/reflectlite.ValueOf", "(internal/reflectlite.Value).Type", "(internal/reflectlite.Value).IsNil", "internal/reflectlite.TypeOf", "(internal/reflectlite.Value).Elem", "(internal/reflectlite.Value).Set"], unfollowed := true, recurses := true, named := ["errors.errorType"], apart := false, laid := [("errors.errorType", laid_errors_errorType)], narrowed := true }
def FnExactHasseOfLawUptoSaid : Prop := fnExactHasseOfLawUptoRow.holds Tryz.pinned (OpenSpec.upto fnExactHasseOfLawSpec)

/-- 'laws.FnExactOrderOfMultiple', WHERE WHAT IT READS IS OF BULK AT MOST 1048576: true; the input reads as it did. -/
def fnExactOrderOfMultipleUptoRow : OpenClaim := { program := "ytfhdgcndiljjcaagreatdoor", sum := "62bd9f3b7f6a0751cba7061f28cd359ffdfc9917cd2ec58a19dfd51568c68f4a", func := "loop.example/g01152/laws.FnExactOrderOfMultiple", spec := "fnExactOrderOfMultiple", inPlace := ["internal/reflectlite.ValueOf", "(internal/reflectlite.Value).Type", "(internal/reflectlite.Value).IsNil", "internal/reflectlite.TypeOf", "(internal/reflectlite.Value).Elem", "(internal/reflectlite.Value).Set"], unfollowed := true, recurses := true, named := ["loop.example/g01152/impl.errZeroMultiple", "errors.errorType"], ifaces := true, apart := false, laid := [("errors.errorType", laid_errors_errorType), ("loop.example/g01152/impl.errZeroMultiple", laid_loop_example_g01152_impl_errZeroMultiple)], narrowed := true }
def FnExactOrderOfMultipleUptoSaid : Prop := fnExactOrderOfMultipleUptoRow.holds Tryz.pinned (OpenSpec.upto fnExactOrderOfMultipleSpec)

end Rows
end Go.Proofs.YtfhdgcndiljjcaaGreatDoor
