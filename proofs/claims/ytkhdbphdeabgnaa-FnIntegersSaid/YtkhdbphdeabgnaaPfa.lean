/- Contracts of PrimeFactors, of the program and of the model. -/
import Derived.Test.YtkhdbphdeabgnaaFct
import Derived.Test.YtkhdbphdeabgnaaLol2
namespace Go.Proofs.Ytkhdbphdeabgnaa
open Go.RowKit Go.WideShapes Go.ChangeShapes Go.ChangeAt

theorem ret_vj {v u : Value} {b d : Int} (h : v = u) (k : b = d) : Ending.returned (.tuple #[v, .int .i64 b]) = .returned (.tuple #[u, .int .i64 d]) := by rw [h, k]
theorem fz_len : ∀ (k p n : Nat), n + 1 - p ≤ k → 2 ≤ p → 1 ≤ n → n ≤ 1000000000000 → (Num.fz p n).length ≤ 1 + (1000001 - p) := by
  intro k
  induction k with
  | zero =>
    intro p n hk hp hn hn2
    have : n < p * p := by
      have := Nat.mul_le_mul_left p (show 1 ≤ p by omega)
      omega
    rw [Num.fz_end p n this]
    split <;> simp
  | succ k ih =>
    intro p n hk hp hn hn2
    by_cases hpp : p * p ≤ n
    · have hp6 : p ≤ 1000000 := by
        apply Nat.le_of_not_lt; intro hlt
        have := Nat.mul_le_mul (show 1000001 ≤ p by omega) (show 1000001 ≤ p by omega)
        omega
      have hpn : p ≤ n := by have := Nat.mul_le_mul_left p (show 1 ≤ p by omega); omega
      obtain ⟨-, t2, t3, -⟩ := Num.takeN_spec p hp n hn
      have := ih (p + 1) (Num.takeN p n).2 (by omega) (by omega) t2 (by omega)
      rw [Num.fz_go p n hp hn hpp, List.length_append]
      have h1 : (if 0 < (Num.takeN p n).1 then [(p, (Num.takeN p n).1)] else []).length ≤ 1 := by split <;> simp
      omega
    · rw [Num.fz_end p n (by omega)]
      split <;> simp
theorem facN_len {N : Nat} (h1 : 1 ≤ N) (h2 : N ≤ 1000000000000) : (facN N).length ≤ 1000000 := by
  unfold facN; rw [List.length_map]
  have := fz_len _ 2 N (Nat.le_refl _) (by omega) h1 h2
  omega
theorem tot_map (f : List (Nat × Nat)) : tot (f.map rowF) = 2 * f.length := by
  induction f with
  | nil => rfl
  | cons x t ih => rw [List.map_cons, tot, ih, List.length_cons]; simp [rowF]; omega
theorem row_map (f : List (Nat × Nat)) (i : Nat) : ((f.map rowF)[i]?.getD []).length ≤ 2 := by
  rw [List.getElem?_map]
  rcases f[i]? with _ | x <;> simp [rowF]

/-- the prime numbers with their exponents, and the code -/
def facM (n : Int) : List (List Int) × Int := if inB n 1 1000000000000 then (facN n.toNat, 0) else ([], 2)
theorem facM_bd (n : Int) : (facM n).1.length ≤ 1000000 ∧ tot (facM n).1 ≤ 2000000 ∧ ∀ i : Nat, ((facM n).1[i]?.getD []).length ≤ 2 := by
  unfold facM
  by_cases h : inB n 1 1000000000000 = true
  · rw [if_pos h]
    obtain ⟨h1, h2⟩ := (inB_iff _ _ _).1 h
    have hl := facN_len (N := n.toNat) (by omega) (by omega)
    refine ⟨hl, ?_, ?_⟩
    · unfold facN at hl ⊢; dsimp only; rw [tot_map]; rw [List.length_map] at hl; omega
    · unfold facN; exact row_map _
  · rw [if_neg h]; simp [tot]

theorem PrimeFactors_any (n : Int) (w : World) :
    Calls Try.prog 40 #[.int .i64 n] w fun e w' => ∃ v, e = .returned (.tuple #[v, .int .i64 (facM n).2]) ∧ OwnR w' w.heap.size w'.heap.size v (facM n).1 ∧ Below w.heap.size w w' := by
  by_cases h : inB n 1 1000000000000 = true
  · obtain ⟨h1, h2⟩ := (inB_iff _ _ _).1 h
    obtain ⟨N, rfl⟩ := Int.eq_ofNat_of_zero_le (show 0 ≤ n by omega)
    have HF := Lib.hid (show facM (N : Int) = (facN N, 0) by rw [facM, if_pos h]; rfl)
    go_enter Try.func40, Try.ntmps40
    go_wp2_with (first | (go_at_call 65; refine (isWithin_any _ _ _ _).mono ?_; rintro e w' ⟨rfl, rfl⟩) | (go_at_call 67; refine (primePowers_any _ _ (by omega) (by omega)).mono ?_; rintro e w1 ⟨v, rfl, ho, hb⟩))
    go_ret2
    exact ⟨v, ret_vj rfl (by rw [HF.out]), by rw [HF.out]; exact ho, hb⟩
  · have h' : inB n 1 1000000000000 = false := by simpa using h
    have HF := Lib.hid (show facM n = ([], 2) by rw [facM, if_neg h])
    clear h
    go_enter Try.func40, Try.ntmps40
    go_wp2_with (go_at_call 65; refine (isWithin_any _ _ _ _).mono ?_; rintro e w' ⟨rfl, rfl⟩)
    go_ret2
    exact ⟨_, ret_vj rfl (by rw [HF.out]), by rw [HF.out]; exact OwnR.nil _ _ _, Below.refl _ _⟩
theorem sPrimeFactors_any (n : Int) (w : World) :
    Calls Try.prog 41 #[.int .i64 n] w fun e w' => ∃ v, e = .returned (.tuple #[v, .int .i64 (facM n).2]) ∧ OwnR w' w.heap.size w'.heap.size v (facM n).1 ∧ Below w.heap.size w w' := by
  by_cases h : inB n 1 1000000000000 = true
  · obtain ⟨h1, h2⟩ := (inB_iff _ _ _).1 h
    obtain ⟨N, rfl⟩ := Int.eq_ofNat_of_zero_le (show 0 ≤ n by omega)
    have HF := Lib.hid (show facM (N : Int) = (facN N, 0) by rw [facM, if_pos h]; rfl)
    go_enter Try.func41, Try.ntmps41
    go_wp2_with (first | (go_at_call 83; refine (l01In_any _ _ _ _).mono ?_; rintro e w' ⟨rfl, rfl⟩) | (go_at_call 84; refine (l01Factors_any _ _ (by omega) (by omega)).mono ?_; rintro e w1 ⟨v, rfl, ho, hb⟩))
    go_ret2
    exact ⟨v, ret_vj rfl (by rw [HF.out]), by rw [HF.out]; exact ho, hb⟩
  · have h' : inB n 1 1000000000000 = false := by simpa using h
    have HF := Lib.hid (show facM n = ([], 2) by rw [facM, if_neg h])
    clear h
    go_enter Try.func41, Try.ntmps41
    go_wp2_with (go_at_call 83; refine (l01In_any _ _ _ _).mono ?_; rintro e w' ⟨rfl, rfl⟩)
    go_ret2
    exact ⟨_, ret_vj rfl (by rw [HF.out]), by rw [HF.out]; exact OwnR.nil _ _ _, Below.refl _ _⟩

end Go.Proofs.Ytkhdbphdeabgnaa
