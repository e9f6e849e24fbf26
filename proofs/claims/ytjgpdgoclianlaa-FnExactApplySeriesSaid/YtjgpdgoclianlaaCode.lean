/- Contracts of the functions that look at a modulus and at numbers, of the program and of the model. -/
import Derived.Test.YtjgpdgoclianlaaProg
import Derived.Test.YtjgpdgoclianlaaBase
namespace Go.Proofs.Ytjgpdgoclianlaa
open Go.RowKit Go.WideShapes Go.ChangeShapes Go.ChangeAt

/-- n lies in lo..hi -/
def inB (n lo hi : Int) : Bool := decide (lo ≤ n) && decide (n ≤ hi)
theorem inB_iff (n lo hi : Int) : inB n lo hi = true ↔ lo ≤ n ∧ n ≤ hi := by simp [inB]
theorem inB_yes {n lo hi : Int} (h1 : lo ≤ n) (h2 : n ≤ hi) : inB n lo hi = true := (inB_iff _ _ _).2 ⟨h1, h2⟩
theorem inB_no {n lo hi : Int} (h : ¬ (lo ≤ n ∧ n ≤ hi)) : inB n lo hi = false := by
  rw [← Bool.not_eq_true, inB_iff]; exact h

theorem isWithin_any (n lo hi : Int) (w : World) :
    Calls Try.prog 56 #[.int .i64 n, .int .i64 lo, .int .i64 hi] w fun e w' => e = .returned (.bool (inB n lo hi)) ∧ w = w' := by
  by_cases h1 : lo ≤ n
  · go_enter Try.func56, Try.ntmps56
    go_wp2
    go_ret
    exact ⟨by simp [inB, h1], rfl⟩
  · have h2 : inB n lo hi = false := inB_no (fun h => h1 h.1)
    have H := Lib.hid h2
    clear h2
    go_enter Try.func56, Try.ntmps56
    go_wp2
    go_ret
    exact ⟨ret_bool H.out.symm, rfl⟩

theorem l01In_any (n lo hi : Int) (w : World) :
    Calls Try.prog 68 #[.int .i64 n, .int .i64 lo, .int .i64 hi] w fun e w' => e = .returned (.bool (inB n lo hi)) ∧ w = w' := by
  by_cases h1 : lo ≤ n
  · go_enter Try.func68, Try.ntmps68
    go_wp2
    go_ret
    exact ⟨by simp [inB, h1], rfl⟩
  · have h2 : inB n lo hi = false := inB_no (fun h => h1 h.1)
    have H := Lib.hid h2
    clear h2
    go_enter Try.func68, Try.ntmps68
    go_wp2
    go_ret
    exact ⟨ret_bool H.out.symm, rfl⟩

/-- m is a modulus -/
def isM (m : Int) : Bool := inB m 2 10000
theorem IsModulus_any (m : Int) (w : World) :
    Calls Try.prog 80 #[.int .i64 m] w fun e w' => e = .returned (.bool (isM m)) ∧ w = w' := by
  go_enter Try.func80, Try.ntmps80
  go_wp2_with (go_at_call 56; refine (isWithin_any _ _ _ _).mono ?_; rintro e w' ⟨rfl, rfl⟩)
  go_ret
  exact ⟨rfl, rfl⟩
theorem l01Modulus_any (m : Int) (w : World) :
    Calls Try.prog 78 #[.int .i64 m] w fun e w' => e = .returned (.bool (isM m)) ∧ w = w' := by
  go_enter Try.func78, Try.ntmps78
  go_wp2_with (go_at_call 68; refine (l01In_any _ _ _ _).mono ?_; rintro e w' ⟨rfl, rfl⟩)
  go_ret
  exact ⟨rfl, rfl⟩

/-- all numbers of the list lie in lo..hi -/
def allIn (lo hi : Int) (l : List Int) : Bool := l.all fun n => inB n lo hi
/-- the code of a modulus and numbers -/
def codeN (m : Int) (l : List Int) : Int := if isM m then (if allIn 0 (m - 1) l then 0 else 2) else 1

end Go.Proofs.Ytjgpdgoclianlaa
