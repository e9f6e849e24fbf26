/- Contracts of IsUnit, InverseModulo and PowerModulo, of the program and of the model. -/
import Derived.Test.YtcnkpfikafaocaaEuc
namespace Go.Proofs.Ytcnkpfikafaocaa
open Go.RowKit Go.WideShapes Go.ChangeShapes Go.ChangeAt

theorem eg_fact (m a : Int) (h0 : 0 ≤ a) (h1 : a < m) : (egI m a).1 = gcdI a m ∧ m ∣ a * (egI m a).2 - gcdI a m ∧ 0 ≤ (egI m a).2 ∧ (egI m a).2 < m := by
  obtain ⟨A, rfl⟩ := Int.eq_ofNat_of_zero_le h0
  obtain ⟨M, rfl⟩ := Int.eq_ofNat_of_zero_le (show 0 ≤ m by omega)
  obtain ⟨e1, e2⟩ := Num.eg_spec A M 0 1 (Num.EInv.start (show A < M by omega))
  have hg : (((Num.eg M A 0 1).1 : Nat) : Int) = gcdI A M := by rw [e1, gcdI, Int.natAbs_natCast, Int.natAbs_natCast, Nat.gcd_comm]
  refine ⟨hg, ?_, Int.emod_nonneg _ (by omega), Int.emod_lt_of_pos _ (by omega)⟩
  simp only [egI, Int.toNat_natCast]
  rw [hg] at e2
  generalize (Num.eg M A 0 1).2 = x at *
  have h := Int.emod_add_mul_ediv x (M : Int)
  generalize x % (M : Int) = r at *
  generalize x / (M : Int) = q at *
  obtain ⟨u, hu⟩ := e2
  exact ⟨u - A * q, by grind⟩

theorem divFac_any (m a : Int) (w : World) (h0 : 0 ≤ a) (h1 : a < m) (h2 : m ≤ 10000) :
    Calls Try.prog 119 #[.int .i64 m, .int .i64 a] w fun e w' => e = .returned (.tuple #[.int .i64 (gcdI a m), .int .i64 (egI m a).2]) ∧ w = w' :=
  (divisorAndFactor_any m a w h0 h1 h2).mono fun _ _ ⟨e, hw⟩ => ⟨by rw [e, (eg_fact m a h0 h1).1], hw⟩

theorem l01Unit_any (m a : Int) (w : World) (h0 : 0 ≤ a) (h1 : a < m) (h2 : m ≤ 10000) :
    Calls Try.prog 77 #[.int .i64 m, .int .i64 a] w fun e w' => e = .returned (.bool (gcdI a m == 1)) ∧ w = w' := by
  go_enter Try.func77, Try.ntmps77
  go_wp2_with (go_at_call 121; refine (l01Gcd_any _ _ _ (by omega) (by omega) (by omega) (by omega)).mono ?_; rintro e w' ⟨rfl, rfl⟩)
  go_ret
  exact ⟨rfl, rfl⟩


/-- the code of a modulus and a unit -/
def codeU (m a : Int) : Int := if codeN m [a] = 0 then (if gcdI a m = 1 then 0 else 5) else codeN m [a]

def invM (m a : Int) : Int × Int := if codeU m a = 0 then ((egI m a).2, 0) else (0, codeU m a)
theorem codeU_zero (m a : Int) : codeU m a = 0 ↔ codeN m [a] = 0 ∧ gcdI a m = 1 := by
  unfold codeU
  by_cases h0 : codeN m [a] = 0
  · rw [if_pos h0]
    by_cases k0 : gcdI a m = 1 <;> simp [k0, h0]
  · rw [if_neg h0]; simp [h0]
theorem InverseModulo_any (m a : Int) (w : World) :
    Calls Try.prog 75 #[.int .i64 m, .int .i64 a] w fun e w' => e = .returned (.tuple #[.int .i64 (invM m a).1, .int .i64 (invM m a).2]) ∧ Below w.heap.size w w' := by
  by_cases h0 : codeN m [a] = 0
  · obtain ⟨h1, h2, h3, h4⟩ := (codeN_one m a).1 h0
    by_cases k0 : gcdI a m = 1
    · have HF := Lib.hid (show invM m a = ((egI m a).2, 0) by rw [invM, if_pos ((codeU_zero m a).2 ⟨h0, k0⟩)])
      go_enter Try.func75, Try.ntmps75
      go_wp2_with (first | (go_at_call 69; refine (codeOfNumbers_any _ _ _ [a] _ (by simp) (RI_one _ _ _)).mono ?_; rintro e w' ⟨rfl, rfl⟩) | (go_at_call 119; refine (divFac_any _ _ _ (by omega) (by omega) (by omega)).mono ?_; rintro e w' ⟨rfl, rfl⟩))
      go_ret2
      exact ⟨ret_ii (by rw [HF.out]) (by rw [HF.out]), (Below.refl _ _).alloc (Nat.le_refl _) _⟩
    · have HF := Lib.hid (show invM m a = (0, 5) by rw [invM, if_neg (fun h => k0 ((codeU_zero m a).1 h).2), codeU, if_pos h0, if_neg k0])
      have k1 : (gcdI a m == 1) = false := by simpa using k0
      have k2 : (gcdI a m != 1) = true := by simpa using k0
      clear k0
      go_enter Try.func75, Try.ntmps75
      go_wp2_with (first | (go_at_call 69; refine (codeOfNumbers_any _ _ _ [a] _ (by simp) (RI_one _ _ _)).mono ?_; rintro e w' ⟨rfl, rfl⟩) | (go_at_call 119; refine (divFac_any _ _ _ (by omega) (by omega) (by omega)).mono ?_; rintro e w' ⟨rfl, rfl⟩))
      go_ret2
      exact ⟨ret_ii (by rw [HF.out]) (by rw [HF.out]), (Below.refl _ _).alloc (Nat.le_refl _) _⟩
  · have HF := Lib.hid (show invM m a = (0, codeN m [a]) by rw [invM, if_neg (fun h => h0 ((codeU_zero m a).1 h).1), codeU, if_neg h0])
    obtain ⟨n1, n2⟩ := ne_facts h0
    clear h0
    go_enter Try.func75, Try.ntmps75
    go_wp2_with (go_at_call 69; refine (codeOfNumbers_any _ _ _ [a] _ (by simp) (RI_one _ _ _)).mono ?_; rintro e w' ⟨rfl, rfl⟩)
    go_ret2
    exact ⟨ret_ii (by rw [HF.out]) (by rw [HF.out]), (Below.refl _ _).alloc (Nat.le_refl _) _⟩

end Go.Proofs.Ytcnkpfikafaocaa
