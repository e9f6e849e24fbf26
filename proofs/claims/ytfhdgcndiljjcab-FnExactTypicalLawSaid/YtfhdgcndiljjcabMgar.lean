/- Texts of contracts, joined. -/
import Derived.Test.YtfhdgcndiljjcabMgai
import Derived.Test.YtfhdgcndiljjcabMgal
/- Contracts of ComposeSeries, of the model. -/
namespace Go.Proofs.Ytfhdgcndiljjcab
open Go.RowKit Go.WideShapes Go.ChangeShapes Go.ChangeAt

end Go.Proofs.Ytfhdgcndiljjcab

/- Contracts of InverseOfSeries, of the model. -/
namespace Go.Proofs.Ytfhdgcndiljjcab
open Go.RowKit Go.WideShapes Go.ChangeShapes Go.ChangeAt

theorem inv_next (m u S : Int) : (m - S % m) * u % m = (-u * S) % m := by
  have h1 : (m - S % m) % m = (0 - S) % m := Ser.sub_cong (by simp) (Int.emod_emod _ _)
  have h2 : (m - S % m) * u % m = (0 - S) * u % m := Ser.mul_cong h1 rfl
  rw [h2, Int.zero_sub, Int.neg_mul, Int.neg_mul, Int.mul_comm]
theorem invC_next (m u : Int) (a : Nat → Int) (k : Nat) : Ser.invC m u a (k + 1) = Ser.invC m u a k ++ [(m - Ser.psum (fun q => a (q + 1) * Ser.co (Ser.invC m u a k) (k - q)) (k + 1) % m) * u % m] := by
  rw [inv_next, Ser.invC, Ser.cv_succ, Ser.co_over (l := Ser.invC m u a k) (by rw [Ser.invC_length]; exact Nat.le_refl _), Int.mul_zero, Int.zero_add, Ser.cv_psum]
  rfl

end Go.Proofs.Ytfhdgcndiljjcab

