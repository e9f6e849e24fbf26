/- Contracts of IsPlane at planes of bounded size. -/
import Derived.Test.YtjgpdgoclianlaaPit
import Derived.Test.YtjgpdgoclianlaaExp
namespace Go.Proofs.Ytjgpdgoclianlaa
open Go.RowKit Go.WideShapes Go.ChangeShapes Go.ChangeAt

theorem IsPlane_any (m : Int) (A : Option Addr) (c : Nat) (t : List (List Int)) (w : World) (hz : szT t ≤ 1048576) (hr : RP w A t) :
    Calls Try.prog 19 #[.agg #[.int .i64 m, .slice A t.length c]] w fun e w' => e = .returned (.bool (isP m t)) ∧ Below w.heap.size w w' := IsPlane_c m A c t w (lenT hz) (rowT hz) hr
theorem sIsPlane_any (m : Int) (A : Option Addr) (c : Nat) (t : List (List Int)) (w : World) (hz : szT t ≤ 1048576) (hr : RP w A t) :
    Calls Try.prog 17 #[.agg #[.int .i64 m, .slice A t.length c]] w fun e w' => e = .returned (.bool (isP m t)) ∧ Below w.heap.size w w' := sIsPlane_c m A c t w (lenT hz) (rowT hz) hr
theorem l03Is_z (m : Int) (A : Option Addr) (c : Nat) (t : List (List Int)) (w : World) (hz : szT t ≤ 1048576) (hr : RP w A t) :
    Calls Try.prog 53 #[.agg #[.int .i64 m, .slice A t.length c]] w fun e w' => e = .returned (.bool (isP m t)) ∧ Below w.heap.size w w' := l03Is_any m A c t w (lenT hz) (rowT hz) hr
end Go.Proofs.Ytjgpdgoclianlaa
