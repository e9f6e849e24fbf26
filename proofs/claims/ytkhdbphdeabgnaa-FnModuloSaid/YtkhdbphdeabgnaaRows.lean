/-
  No cell of these rows narrows 'for every input' (looked for: loops, veiled, ifaces, maps, wideKeys, modest, calm, conditions, laid).
  DERIVED. THE GIVEN ROWS OF THIS SEAT. 12 by the template 'for every input the law returns true; each argument reads behind the call as it read before'; 0 by the template 'total and deterministic' (their statements: YtkhdbphdeabgnaaTotals.lean).
  GIVEN WITH THE SEED: the statements are not yours to turn. If you find one false, say at which input.
  Laid BY PROGRAM, IN A SANDBOX (cutbox-rows.mjs): the forced cells as the released guide's own fill.sh prints them over the translation 27d0f7849111c82c… (all of the seat's roots in one cut). By AI agents, Wed Nov 11 2026. No macro, syntax, notation, axiom, sorry.
-/
import Derived.Test.YtkhdbphdeabgnaaChecked
import GoSem.Claim
import GoSem.ClaimJoined
import GoSem.ClaimMapViews
import Derived.JoinedTies
import Derived.KernelRfl
namespace Go.Proofs.Ytkhdbphdeabgnaa
/- THE CELL 'sum', in the pinned program and in every row, IS THE sha256 OF THE DUMP (.gsa) THAT YtkhdbphdeabgnaaProg.lean LOADS. Nothing in Lean hashes anything: it is a label: what it is worth is what the hold of that sum in a sandbox is worth. -/
noncomputable def Try.pinned : Pinned := { name := "ytkhdbphdeabgnaa", sum := "27d0f7849111c82c0996371988dd5b0aa2e331f1d07612281ebf676ba6e8665f", checked := Try.checked }
namespace Rows
def none {H : Type} : Left H := { results := [], args := [] }

/-- 'laws.FnModulo': WHATEVER THE INPUT: true; the input reads as it did. -/
def fnModuloSpec : ChangeSpec := { name := "fnModulo", fn := fun _ => fun
  | [d] => { results := [.lit (.bool true)], args := [d] }
  | _ => none }
def fnModuloRow : OpenClaim := { program := "ytkhdbphdeabgnaa", sum := "27d0f7849111c82c0996371988dd5b0aa2e331f1d07612281ebf676ba6e8665f", func := "loop.example/g01152/laws.FnModulo", spec := "fnModulo", apart := false }
def FnModuloSaid : Prop := fnModuloRow.holds Try.pinned (OpenSpec.ofChange fnModuloSpec)

/-- ITS FALSE NEIGHBOUR: 'it returns false'. Refute it at one input. -/
def fnModuloWrong : ChangeSpec := { name := "fnModulo", fn := fun _ => fun
  | [d] => { results := [.lit (.bool false)], args := [d] }
  | _ => none }
def FnModuloWrongFalsely : Prop := fnModuloRow.holds Try.pinned (OpenSpec.ofChange fnModuloWrong)

/-- 'laws.FnIntegers': WHATEVER THE INPUT: true; the input reads as it did. -/
def fnIntegersSpec : ChangeSpec := { name := "fnIntegers", fn := fun _ => fun
  | [d] => { results := [.lit (.bool true)], args := [d] }
  | _ => none }
def fnIntegersRow : OpenClaim := { program := "ytkhdbphdeabgnaa", sum := "27d0f7849111c82c0996371988dd5b0aa2e331f1d07612281ebf676ba6e8665f", func := "loop.example/g01152/laws.FnIntegers", spec := "fnIntegers", apart := false }
def FnIntegersSaid : Prop := fnIntegersRow.holds Try.pinned (OpenSpec.ofChange fnIntegersSpec)

/-- ITS FALSE NEIGHBOUR: 'it returns false'. Refute it at one input. -/
def fnIntegersWrong : ChangeSpec := { name := "fnIntegers", fn := fun _ => fun
  | [d] => { results := [.lit (.bool false)], args := [d] }
  | _ => none }
def FnIntegersWrongFalsely : Prop := fnIntegersRow.holds Try.pinned (OpenSpec.ofChange fnIntegersWrong)

/-- 'laws.FnExactIsModulus': WHATEVER THE INPUT: true; the input reads as it did. -/
def fnExactIsModulusSpec : ChangeSpec := { name := "fnExactIsModulus", fn := fun _ => fun
  | [d] => { results := [.lit (.bool true)], args := [d] }
  | _ => none }
def fnExactIsModulusRow : OpenClaim := { program := "ytkhdbphdeabgnaa", sum := "27d0f7849111c82c0996371988dd5b0aa2e331f1d07612281ebf676ba6e8665f", func := "loop.example/g01152/laws.FnExactIsModulus", spec := "fnExactIsModulus", apart := false }
def FnExactIsModulusSaid : Prop := fnExactIsModulusRow.holds Try.pinned (OpenSpec.ofChange fnExactIsModulusSpec)

/-- ITS FALSE NEIGHBOUR: 'it returns false'. Refute it at one input. -/
def fnExactIsModulusWrong : ChangeSpec := { name := "fnExactIsModulus", fn := fun _ => fun
  | [d] => { results := [.lit (.bool false)], args := [d] }
  | _ => none }
def FnExactIsModulusWrongFalsely : Prop := fnExactIsModulusRow.holds Try.pinned (OpenSpec.ofChange fnExactIsModulusWrong)

/-- 'laws.FnExactRemainderOf': WHATEVER THE INPUT: true; the input reads as it did. -/
def fnExactRemainderOfSpec : ChangeSpec := { name := "fnExactRemainderOf", fn := fun _ => fun
  | [d1, d2] => { results := [.lit (.bool true)], args := [d1, d2] }
  | _ => none }
def fnExactRemainderOfRow : OpenClaim := { program := "ytkhdbphdeabgnaa", sum := "27d0f7849111c82c0996371988dd5b0aa2e331f1d07612281ebf676ba6e8665f", func := "loop.example/g01152/laws.FnExactRemainderOf", spec := "fnExactRemainderOf", apart := false }
def FnExactRemainderOfSaid : Prop := fnExactRemainderOfRow.holds Try.pinned (OpenSpec.ofChange fnExactRemainderOfSpec)

/-- ITS FALSE NEIGHBOUR: 'it returns false'. Refute it at one input. -/
def fnExactRemainderOfWrong : ChangeSpec := { name := "fnExactRemainderOf", fn := fun _ => fun
  | [d1, d2] => { results := [.lit (.bool false)], args := [d1, d2] }
  | _ => none }
def FnExactRemainderOfWrongFalsely : Prop := fnExactRemainderOfRow.holds Try.pinned (OpenSpec.ofChange fnExactRemainderOfWrong)

/-- 'laws.FnExactAddModulo': WHATEVER THE INPUT: true; the input reads as it did. -/
def fnExactAddModuloSpec : ChangeSpec := { name := "fnExactAddModulo", fn := fun _ => fun
  | [d1, d2, d3] => { results := [.lit (.bool true)], args := [d1, d2, d3] }
  | _ => none }
def fnExactAddModuloRow : OpenClaim := { program := "ytkhdbphdeabgnaa", sum := "27d0f7849111c82c0996371988dd5b0aa2e331f1d07612281ebf676ba6e8665f", func := "loop.example/g01152/laws.FnExactAddModulo", spec := "fnExactAddModulo", apart := false }
def FnExactAddModuloSaid : Prop := fnExactAddModuloRow.holds Try.pinned (OpenSpec.ofChange fnExactAddModuloSpec)

/-- ITS FALSE NEIGHBOUR: 'it returns false'. Refute it at one input. -/
def fnExactAddModuloWrong : ChangeSpec := { name := "fnExactAddModulo", fn := fun _ => fun
  | [d1, d2, d3] => { results := [.lit (.bool false)], args := [d1, d2, d3] }
  | _ => none }
def FnExactAddModuloWrongFalsely : Prop := fnExactAddModuloRow.holds Try.pinned (OpenSpec.ofChange fnExactAddModuloWrong)

/-- 'laws.FnExactMultiplyModulo': WHATEVER THE INPUT: true; the input reads as it did. -/
def fnExactMultiplyModuloSpec : ChangeSpec := { name := "fnExactMultiplyModulo", fn := fun _ => fun
  | [d1, d2, d3] => { results := [.lit (.bool true)], args := [d1, d2, d3] }
  | _ => none }
def fnExactMultiplyModuloRow : OpenClaim := { program := "ytkhdbphdeabgnaa", sum := "27d0f7849111c82c0996371988dd5b0aa2e331f1d07612281ebf676ba6e8665f", func := "loop.example/g01152/laws.FnExactMultiplyModulo", spec := "fnExactMultiplyModulo", apart := false }
def FnExactMultiplyModuloSaid : Prop := fnExactMultiplyModuloRow.holds Try.pinned (OpenSpec.ofChange fnExactMultiplyModuloSpec)

/-- ITS FALSE NEIGHBOUR: 'it returns false'. Refute it at one input. -/
def fnExactMultiplyModuloWrong : ChangeSpec := { name := "fnExactMultiplyModulo", fn := fun _ => fun
  | [d1, d2, d3] => { results := [.lit (.bool false)], args := [d1, d2, d3] }
  | _ => none }
def FnExactMultiplyModuloWrongFalsely : Prop := fnExactMultiplyModuloRow.holds Try.pinned (OpenSpec.ofChange fnExactMultiplyModuloWrong)

/-- 'laws.FnExactPowerModulo': WHATEVER THE INPUT: true; the input reads as it did. -/
def fnExactPowerModuloSpec : ChangeSpec := { name := "fnExactPowerModulo", fn := fun _ => fun
  | [d1, d2, d3] => { results := [.lit (.bool true)], args := [d1, d2, d3] }
  | _ => none }
def fnExactPowerModuloRow : OpenClaim := { program := "ytkhdbphdeabgnaa", sum := "27d0f7849111c82c0996371988dd5b0aa2e331f1d07612281ebf676ba6e8665f", func := "loop.example/g01152/laws.FnExactPowerModulo", spec := "fnExactPowerModulo", apart := false }
def FnExactPowerModuloSaid : Prop := fnExactPowerModuloRow.holds Try.pinned (OpenSpec.ofChange fnExactPowerModuloSpec)

/-- ITS FALSE NEIGHBOUR: 'it returns false'. Refute it at one input. -/
def fnExactPowerModuloWrong : ChangeSpec := { name := "fnExactPowerModulo", fn := fun _ => fun
  | [d1, d2, d3] => { results := [.lit (.bool false)], args := [d1, d2, d3] }
  | _ => none }
def FnExactPowerModuloWrongFalsely : Prop := fnExactPowerModuloRow.holds Try.pinned (OpenSpec.ofChange fnExactPowerModuloWrong)

/-- 'laws.FnExactIsUnit': WHATEVER THE INPUT: true; the input reads as it did. -/
def fnExactIsUnitSpec : ChangeSpec := { name := "fnExactIsUnit", fn := fun _ => fun
  | [d1, d2] => { results := [.lit (.bool true)], args := [d1, d2] }
  | _ => none }
def fnExactIsUnitRow : OpenClaim := { program := "ytkhdbphdeabgnaa", sum := "27d0f7849111c82c0996371988dd5b0aa2e331f1d07612281ebf676ba6e8665f", func := "loop.example/g01152/laws.FnExactIsUnit", spec := "fnExactIsUnit", apart := false }
def FnExactIsUnitSaid : Prop := fnExactIsUnitRow.holds Try.pinned (OpenSpec.ofChange fnExactIsUnitSpec)

/-- ITS FALSE NEIGHBOUR: 'it returns false'. Refute it at one input. -/
def fnExactIsUnitWrong : ChangeSpec := { name := "fnExactIsUnit", fn := fun _ => fun
  | [d1, d2] => { results := [.lit (.bool false)], args := [d1, d2] }
  | _ => none }
def FnExactIsUnitWrongFalsely : Prop := fnExactIsUnitRow.holds Try.pinned (OpenSpec.ofChange fnExactIsUnitWrong)

/-- 'laws.FnExactInverseModulo': WHATEVER THE INPUT: true; the input reads as it did. -/
def fnExactInverseModuloSpec : ChangeSpec := { name := "fnExactInverseModulo", fn := fun _ => fun
  | [d1, d2] => { results := [.lit (.bool true)], args := [d1, d2] }
  | _ => none }
def fnExactInverseModuloRow : OpenClaim := { program := "ytkhdbphdeabgnaa", sum := "27d0f7849111c82c0996371988dd5b0aa2e331f1d07612281ebf676ba6e8665f", func := "loop.example/g01152/laws.FnExactInverseModulo", spec := "fnExactInverseModulo", apart := false }
def FnExactInverseModuloSaid : Prop := fnExactInverseModuloRow.holds Try.pinned (OpenSpec.ofChange fnExactInverseModuloSpec)

/-- ITS FALSE NEIGHBOUR: 'it returns false'. Refute it at one input. -/
def fnExactInverseModuloWrong : ChangeSpec := { name := "fnExactInverseModulo", fn := fun _ => fun
  | [d1, d2] => { results := [.lit (.bool false)], args := [d1, d2] }
  | _ => none }
def FnExactInverseModuloWrongFalsely : Prop := fnExactInverseModuloRow.holds Try.pinned (OpenSpec.ofChange fnExactInverseModuloWrong)

/-- 'laws.FnExactOrderModulo': WHATEVER THE INPUT: true; the input reads as it did. -/
def fnExactOrderModuloSpec : ChangeSpec := { name := "fnExactOrderModulo", fn := fun _ => fun
  | [d1, d2] => { results := [.lit (.bool true)], args := [d1, d2] }
  | _ => none }
def fnExactOrderModuloRow : OpenClaim := { program := "ytkhdbphdeabgnaa", sum := "27d0f7849111c82c0996371988dd5b0aa2e331f1d07612281ebf676ba6e8665f", func := "loop.example/g01152/laws.FnExactOrderModulo", spec := "fnExactOrderModulo", apart := false }
def FnExactOrderModuloSaid : Prop := fnExactOrderModuloRow.holds Try.pinned (OpenSpec.ofChange fnExactOrderModuloSpec)

/-- ITS FALSE NEIGHBOUR: 'it returns false'. Refute it at one input. -/
def fnExactOrderModuloWrong : ChangeSpec := { name := "fnExactOrderModulo", fn := fun _ => fun
  | [d1, d2] => { results := [.lit (.bool false)], args := [d1, d2] }
  | _ => none }
def FnExactOrderModuloWrongFalsely : Prop := fnExactOrderModuloRow.holds Try.pinned (OpenSpec.ofChange fnExactOrderModuloWrong)

/-- 'laws.FnExactCountUnits': WHATEVER THE INPUT: true; the input reads as it did. -/
def fnExactCountUnitsSpec : ChangeSpec := { name := "fnExactCountUnits", fn := fun _ => fun
  | [d] => { results := [.lit (.bool true)], args := [d] }
  | _ => none }
def fnExactCountUnitsRow : OpenClaim := { program := "ytkhdbphdeabgnaa", sum := "27d0f7849111c82c0996371988dd5b0aa2e331f1d07612281ebf676ba6e8665f", func := "loop.example/g01152/laws.FnExactCountUnits", spec := "fnExactCountUnits", apart := false }
def FnExactCountUnitsSaid : Prop := fnExactCountUnitsRow.holds Try.pinned (OpenSpec.ofChange fnExactCountUnitsSpec)

/-- ITS FALSE NEIGHBOUR: 'it returns false'. Refute it at one input. -/
def fnExactCountUnitsWrong : ChangeSpec := { name := "fnExactCountUnits", fn := fun _ => fun
  | [d] => { results := [.lit (.bool false)], args := [d] }
  | _ => none }
def FnExactCountUnitsWrongFalsely : Prop := fnExactCountUnitsRow.holds Try.pinned (OpenSpec.ofChange fnExactCountUnitsWrong)

/-- 'laws.FnExactSolveModulo': WHATEVER THE INPUT: true; the input reads as it did. -/
def fnExactSolveModuloSpec : ChangeSpec := { name := "fnExactSolveModulo", fn := fun _ => fun
  | [d1, d2, d3] => { results := [.lit (.bool true)], args := [d1, d2, d3] }
  | _ => none }
def fnExactSolveModuloRow : OpenClaim := { program := "ytkhdbphdeabgnaa", sum := "27d0f7849111c82c0996371988dd5b0aa2e331f1d07612281ebf676ba6e8665f", func := "loop.example/g01152/laws.FnExactSolveModulo", spec := "fnExactSolveModulo", apart := false }
def FnExactSolveModuloSaid : Prop := fnExactSolveModuloRow.holds Try.pinned (OpenSpec.ofChange fnExactSolveModuloSpec)

/-- ITS FALSE NEIGHBOUR: 'it returns false'. Refute it at one input. -/
def fnExactSolveModuloWrong : ChangeSpec := { name := "fnExactSolveModulo", fn := fun _ => fun
  | [d1, d2, d3] => { results := [.lit (.bool false)], args := [d1, d2, d3] }
  | _ => none }
def FnExactSolveModuloWrongFalsely : Prop := fnExactSolveModuloRow.holds Try.pinned (OpenSpec.ofChange fnExactSolveModuloWrong)

/- THE SECOND FORM. 'bulk': how many values and letters a reading holds, each counted each time it is reached (what is shared counts as often as it is met; a slice's spare places count too). A statement '..UptoSaid' is the law's where the arguments, and the package variables that the reading takes, are together of bulk at most 1048576: NARROWER than '..Said'. Prove '..Said' where nothing that the law and all that it calls make is longer than what came in: it says more and counts as full. Else prove '..UptoSaid'. A law counts once. -/
mutual
def uptoBulk {H : Type} : DataW H → Nat
  | .lit (.string bytes) => bytes.length + 1
  | .lit _ => 1
  | .nil => 1
  | .ptr d => uptoBulk d + 1
  | .slice elems spare => uptoBulkAll elems + uptoBulkAll spare + 1
  | .agg parts => uptoBulkAll parts + 1
  | .iface _ d => uptoBulk d + 1
  | .map entries => uptoBulkEntries entries + 1
  | .held _ => 1
def uptoBulkAll {H : Type} : List (DataW H) → Nat
  | [] => 0
  | d :: r => uptoBulk d + uptoBulkAll r
def uptoBulkEntries {H : Type} : List (Lit × DataW H) → Nat
  | [] => 0
  | x :: r => uptoBulkEntry x + uptoBulkEntries r
def uptoBulkEntry {H : Type} : Lit × DataW H → Nat
  | (.string bytes, d) => bytes.length + uptoBulk d + 1
  | (_, d) => uptoBulk d + 1
 end
def uptoSmall : (H : Type) → List (DataW H) → Bool := fun _ ds => decide (uptoBulkAll ds ≤ 1048576)
def OpenSpec.upto (s : _root_.Go.ChangeSpec) : _root_.Go.OpenSpec := { _root_.Go.OpenSpec.ofChange s with cond := some uptoSmall }

/-- 'laws.FnModulo', WHERE WHAT IT READS IS OF BULK AT MOST 1048576: true; the input reads as it did. -/
def fnModuloUptoRow : OpenClaim := { program := "ytkhdbphdeabgnaa", sum := "27d0f7849111c82c0996371988dd5b0aa2e331f1d07612281ebf676ba6e8665f", func := "loop.example/g01152/laws.FnModulo", spec := "fnModulo", apart := false, narrowed := true }
def FnModuloUptoSaid : Prop := fnModuloUptoRow.holds Try.pinned (OpenSpec.upto fnModuloSpec)

/-- 'laws.FnIntegers', WHERE WHAT IT READS IS OF BULK AT MOST 1048576: true; the input reads as it did. -/
def fnIntegersUptoRow : OpenClaim := { program := "ytkhdbphdeabgnaa", sum := "27d0f7849111c82c0996371988dd5b0aa2e331f1d07612281ebf676ba6e8665f", func := "loop.example/g01152/laws.FnIntegers", spec := "fnIntegers", apart := false, narrowed := true }
def FnIntegersUptoSaid : Prop := fnIntegersUptoRow.holds Try.pinned (OpenSpec.upto fnIntegersSpec)

/-- 'laws.FnExactIsModulus', WHERE WHAT IT READS IS OF BULK AT MOST 1048576: true; the input reads as it did. -/
def fnExactIsModulusUptoRow : OpenClaim := { program := "ytkhdbphdeabgnaa", sum := "27d0f7849111c82c0996371988dd5b0aa2e331f1d07612281ebf676ba6e8665f", func := "loop.example/g01152/laws.FnExactIsModulus", spec := "fnExactIsModulus", apart := false, narrowed := true }
def FnExactIsModulusUptoSaid : Prop := fnExactIsModulusUptoRow.holds Try.pinned (OpenSpec.upto fnExactIsModulusSpec)

/-- 'laws.FnExactRemainderOf', WHERE WHAT IT READS IS OF BULK AT MOST 1048576: true; the input reads as it did. -/
def fnExactRemainderOfUptoRow : OpenClaim := { program := "ytkhdbphdeabgnaa", sum := "27d0f7849111c82c0996371988dd5b0aa2e331f1d07612281ebf676ba6e8665f", func := "loop.example/g01152/laws.FnExactRemainderOf", spec := "fnExactRemainderOf", apart := false, narrowed := true }
def FnExactRemainderOfUptoSaid : Prop := fnExactRemainderOfUptoRow.holds Try.pinned (OpenSpec.upto fnExactRemainderOfSpec)

/-- 'laws.FnExactAddModulo', WHERE WHAT IT READS IS OF BULK AT MOST 1048576: true; the input reads as it did. -/
def fnExactAddModuloUptoRow : OpenClaim := { program := "ytkhdbphdeabgnaa", sum := "27d0f7849111c82c0996371988dd5b0aa2e331f1d07612281ebf676ba6e8665f", func := "loop.example/g01152/laws.FnExactAddModulo", spec := "fnExactAddModulo", apart := false, narrowed := true }
def FnExactAddModuloUptoSaid : Prop := fnExactAddModuloUptoRow.holds Try.pinned (OpenSpec.upto fnExactAddModuloSpec)

/-- 'laws.FnExactMultiplyModulo', WHERE WHAT IT READS IS OF BULK AT MOST 1048576: true; the input reads as it did. -/
def fnExactMultiplyModuloUptoRow : OpenClaim := { program := "ytkhdbphdeabgnaa", sum := "27d0f7849111c82c0996371988dd5b0aa2e331f1d07612281ebf676ba6e8665f", func := "loop.example/g01152/laws.FnExactMultiplyModulo", spec := "fnExactMultiplyModulo", apart := false, narrowed := true }
def FnExactMultiplyModuloUptoSaid : Prop := fnExactMultiplyModuloUptoRow.holds Try.pinned (OpenSpec.upto fnExactMultiplyModuloSpec)

/-- 'laws.FnExactPowerModulo', WHERE WHAT IT READS IS OF BULK AT MOST 1048576: true; the input reads as it did. -/
def fnExactPowerModuloUptoRow : OpenClaim := { program := "ytkhdbphdeabgnaa", sum := "27d0f7849111c82c0996371988dd5b0aa2e331f1d07612281ebf676ba6e8665f", func := "loop.example/g01152/laws.FnExactPowerModulo", spec := "fnExactPowerModulo", apart := false, narrowed := true }
def FnExactPowerModuloUptoSaid : Prop := fnExactPowerModuloUptoRow.holds Try.pinned (OpenSpec.upto fnExactPowerModuloSpec)

/-- 'laws.FnExactIsUnit', WHERE WHAT IT READS IS OF BULK AT MOST 1048576: true; the input reads as it did. -/
def fnExactIsUnitUptoRow : OpenClaim := { program := "ytkhdbphdeabgnaa", sum := "27d0f7849111c82c0996371988dd5b0aa2e331f1d07612281ebf676ba6e8665f", func := "loop.example/g01152/laws.FnExactIsUnit", spec := "fnExactIsUnit", apart := false, narrowed := true }
def FnExactIsUnitUptoSaid : Prop := fnExactIsUnitUptoRow.holds Try.pinned (OpenSpec.upto fnExactIsUnitSpec)

/-- 'laws.FnExactInverseModulo', WHERE WHAT IT READS IS OF BULK AT MOST 1048576: true; the input reads as it did. -/
def fnExactInverseModuloUptoRow : OpenClaim := { program := "ytkhdbphdeabgnaa", sum := "27d0f7849111c82c0996371988dd5b0aa2e331f1d07612281ebf676ba6e8665f", func := "loop.example/g01152/laws.FnExactInverseModulo", spec := "fnExactInverseModulo", apart := false, narrowed := true }
def FnExactInverseModuloUptoSaid : Prop := fnExactInverseModuloUptoRow.holds Try.pinned (OpenSpec.upto fnExactInverseModuloSpec)

/-- 'laws.FnExactOrderModulo', WHERE WHAT IT READS IS OF BULK AT MOST 1048576: true; the input reads as it did. -/
def fnExactOrderModuloUptoRow : OpenClaim := { program := "ytkhdbphdeabgnaa", sum := "27d0f7849111c82c0996371988dd5b0aa2e331f1d07612281ebf676ba6e8665f", func := "loop.example/g01152/laws.FnExactOrderModulo", spec := "fnExactOrderModulo", apart := false, narrowed := true }
def FnExactOrderModuloUptoSaid : Prop := fnExactOrderModuloUptoRow.holds Try.pinned (OpenSpec.upto fnExactOrderModuloSpec)

/-- 'laws.FnExactCountUnits', WHERE WHAT IT READS IS OF BULK AT MOST 1048576: true; the input reads as it did. -/
def fnExactCountUnitsUptoRow : OpenClaim := { program := "ytkhdbphdeabgnaa", sum := "27d0f7849111c82c0996371988dd5b0aa2e331f1d07612281ebf676ba6e8665f", func := "loop.example/g01152/laws.FnExactCountUnits", spec := "fnExactCountUnits", apart := false, narrowed := true }
def FnExactCountUnitsUptoSaid : Prop := fnExactCountUnitsUptoRow.holds Try.pinned (OpenSpec.upto fnExactCountUnitsSpec)

/-- 'laws.FnExactSolveModulo', WHERE WHAT IT READS IS OF BULK AT MOST 1048576: true; the input reads as it did. -/
def fnExactSolveModuloUptoRow : OpenClaim := { program := "ytkhdbphdeabgnaa", sum := "27d0f7849111c82c0996371988dd5b0aa2e331f1d07612281ebf676ba6e8665f", func := "loop.example/g01152/laws.FnExactSolveModulo", spec := "fnExactSolveModulo", apart := false, narrowed := true }
def FnExactSolveModuloUptoSaid : Prop := fnExactSolveModuloUptoRow.holds Try.pinned (OpenSpec.upto fnExactSolveModuloSpec)

end Rows
end Go.Proofs.Ytkhdbphdeabgnaa
