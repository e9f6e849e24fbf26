/- A series among a law's arguments: what its reading tells. -/
import Derived.Test.YtjgpdgoclianlabSep
import Derived.Test.YtjgpdgoclianlabSof
import Derived.ProofKit
import Derived.OpenShut
import Derived.ChangeSame
namespace Go.Proofs.Ytjgpdgoclianlab
open Go.RowKit Go.WideShapes Go.ChangeShapes Go.ChangeAt

theorem use_it {p q : Prop} (h : p) (k : p → q) : q := k h
theorem Var2.drew {w : World} {g : Nat} {x y : Value} (h : Var2 w g x y) : Var2 w.drew g x y := h
theorem cells_i64 : Try.prog.cellsOf 2 = 1 := by kernel_rfl
theorem cells_i64s : Try.prog.cellsOf 26 = 1 := by kernel_rfl
end Go.Proofs.Ytjgpdgoclianlab
