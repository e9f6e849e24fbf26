/- Contracts of PowerModulo, of the program and of the model. -/
import Derived.Test.YtkhdbphdeabgnaaMod
import Derived.Test.YtkhdbphdeabgnaaNum
namespace Go.Proofs.Ytkhdbphdeabgnaa
open Go.RowKit Go.WideShapes Go.ChangeShapes Go.ChangeAt

/-- the power of a number -/
def powI (m a k : Int) : Int := (Num.pwr m.toNat a.toNat k.toNat : Nat)
theorem powI_bd (m a k : Int) (hm : 0 < m) : 0 ≤ powI m a k ∧ powI m a k < m := by
  have := Num.pwr_lt m.toNat a.toNat k.toNat (by omega)
  unfold powI; omega

theorem mul_mod_cast (a b m : Nat) : (a : Int) * (b : Int) % (m : Int) = ((a * b % m : Nat) : Int) := by
  rw [Int.natCast_emod, Int.natCast_mul]
theorem mul_small_nat {a b m : Nat} (h1 : a < m) (h2 : b < m) (hm : m ≤ 10000) : 0 ≤ (a : Int) * (b : Int) ∧ (a : Int) * (b : Int) ≤ 100000000 :=
  mul_small (m := (m : Int)) (by omega) (by omega) (by omega) (by omega) (by omega)

set_option maxHeartbeats 1000000 in
theorem power_any (m a k : Int) (w : World) (h0 : 0 ≤ a) (h1 : a < m) (h2 : 2 ≤ m) (h3 : m ≤ 10000) (h4 : 0 ≤ k) (h5 : k ≤ 1000000000000) :
    Calls Try.prog 68 #[.int .i64 m, .int .i64 a, .int .i64 k] w fun e w' => e = .returned (.int .i64 (powI m a k)) ∧ w = w' := by
  obtain ⟨A, rfl⟩ := Int.eq_ofNat_of_zero_le h0
  obtain ⟨M, rfl⟩ := Int.eq_ofNat_of_zero_le (show 0 ≤ m by omega)
  obtain ⟨K, rfl⟩ := Int.eq_ofNat_of_zero_le h4
  go_enter Try.func68, Try.ntmps68
  go_wp2
  go_loop [7, 8, 2] (fun out s k => ∃ (O S J : Nat), out = .int .i64 O ∧ s = .int .i64 S ∧ k = .int .i64 J ∧ O < M ∧ S < M ∧ J ≤ K ∧ O * S ^ J % M = Num.pwr M A K) (fun _ _ k => (intOf k).toNat)
  case atStart => exact ⟨1, A, K, rfl, rfl, rfl, by omega, by omega, Nat.le_refl _, by rw [Nat.one_mul]; rfl⟩
  case round =>
    obtain ⟨O, S, J, rfl, rfl, rfl, hO, hS, hJ, heq⟩ := hrel
    have HE := Lib.hid heq
    clear heq
    by_cases hJ0 : J = 0
    · subst hJ0
      go_wp2
      go_ret
      exact ⟨ret_int (by rw [powI]; simp only [Int.toNat_natCast]; rw [← HE.out, Nat.pow_zero, Nat.mul_one, Nat.mod_eq_of_lt hO]), rfl⟩
    · have hpos : 0 < J := by omega
      clear hJ0
      obtain ⟨p1, p2⟩ := mul_small_nat hS hS (show M ≤ 10000 by omega)
      have hSS : S * S % M < M := Nat.mod_lt _ (by omega)
      by_cases hodd : J % 2 = 1
      · obtain ⟨p3, p4⟩ := mul_small_nat hO hS (show M ≤ 10000 by omega)
        have hOS : O * S % M < M := Nat.mod_lt _ (by omega)
        have HP := Lib.hid (Num.pw_odd M O S J hodd)
        have hod : (J : Int) % 2 = 1 := by omega
        clear hodd
        go_wp2
        go_round
        case rel => exact ⟨O * S % M, S * S % M, J / 2, by rw [mul_mod_cast], by rw [mul_mod_cast], by go_num, hOS, hSS, by omega, HP.out.trans HE.out⟩
        case measure => simp only [intOf]; omega
      · have HP := Lib.hid (Num.pw_even M O S J (by omega))
        have hod : (J : Int) % 2 = 0 := by omega
        clear hodd
        go_wp2
        go_round
        case rel => exact ⟨O, S * S % M, J / 2, rfl, by rw [mul_mod_cast], by go_num, hO, hSS, by omega, HP.out.trans HE.out⟩
        case measure => simp only [intOf]; omega

set_option maxHeartbeats 1000000 in
theorem l01Pow_any (m a k : Int) (w : World) (h0 : 0 ≤ a) (h1 : a < m) (h2 : 2 ≤ m) (h3 : m ≤ 10000) (h4 : 0 ≤ k) (h5 : k ≤ 1000000000000) :
    Calls Try.prog 93 #[.int .i64 m, .int .i64 a, .int .i64 k] w fun e w' => e = .returned (.int .i64 (powI m a k)) ∧ w = w' := by
  obtain ⟨A, rfl⟩ := Int.eq_ofNat_of_zero_le h0
  obtain ⟨M, rfl⟩ := Int.eq_ofNat_of_zero_le (show 0 ≤ m by omega)
  obtain ⟨K, rfl⟩ := Int.eq_ofNat_of_zero_le h4
  have HA := Lib.hid (Int.emod_eq_of_lt h0 h1)
  have h11 : (1 : Int) % M = 1 := Int.emod_eq_of_lt (by omega) (by omega)
  go_enter Try.func93, Try.ntmps93
  go_wp2_with (go_at_call 82; refine (l01Mod_any _ _ _ (by omega) (by omega) (by omega) (by omega)).mono ?_; rintro e w' ⟨rfl, rfl⟩; rw [HA.out])
  go_loop [7, 1, 2] (fun out s k => ∃ (O S J : Nat), out = .int .i64 O ∧ s = .int .i64 S ∧ k = .int .i64 J ∧ O < M ∧ S < M ∧ J ≤ K ∧ O * S ^ J % M = Num.pwr M A K) (fun _ _ k => (intOf k).toNat)
  case atStart => exact ⟨1, A, K, rfl, rfl, rfl, by omega, by omega, Nat.le_refl _, by rw [Nat.one_mul]; rfl⟩
  case round =>
    obtain ⟨O, S, J, rfl, rfl, rfl, hO, hS, hJ, heq⟩ := hrel
    have HE := Lib.hid heq
    clear heq
    by_cases hJ0 : J = 0
    · subst hJ0
      go_wp2
      go_ret
      exact ⟨ret_int (by rw [powI]; simp only [Int.toNat_natCast]; rw [← HE.out, Nat.pow_zero, Nat.mul_one, Nat.mod_eq_of_lt hO]), rfl⟩
    · have hpos : 0 < J := by omega
      clear hJ0
      obtain ⟨p1, p2⟩ := mul_small_nat hS hS (show M ≤ 10000 by omega)
      have hSS : S * S % M < M := Nat.mod_lt _ (by omega)
      by_cases hodd : J % 2 = 1
      · obtain ⟨p3, p4⟩ := mul_small_nat hO hS (show M ≤ 10000 by omega)
        have hOS : O * S % M < M := Nat.mod_lt _ (by omega)
        have HP := Lib.hid (Num.pw_odd M O S J hodd)
        have hod : (J : Int) % 2 = 1 := by omega
        clear hodd
        go_wp2
        go_round
        case rel => exact ⟨O * S % M, S * S % M, J / 2, by rw [mul_mod_cast], by rw [mul_mod_cast], by go_num, hOS, hSS, by omega, HP.out.trans HE.out⟩
        case measure => simp only [intOf]; omega
      · have HP := Lib.hid (Num.pw_even M O S J (by omega))
        have hod : (J : Int) % 2 = 0 := by omega
        clear hodd
        go_wp2
        go_round
        case rel => exact ⟨O, S * S % M, J / 2, rfl, by rw [mul_mod_cast], by go_num, hO, hSS, by omega, HP.out.trans HE.out⟩
        case measure => simp only [intOf]; omega

def powM (m a k : Int) : Int × Int := if codeN m [a] = 0 then (if inB k 0 1000000000000 then (powI m a k, 0) else (0, 2)) else (0, codeN m [a])
theorem PowerModulo_any (m a k : Int) (w : World) :
    Calls Try.prog 27 #[.int .i64 m, .int .i64 a, .int .i64 k] w fun e w' => e = .returned (.tuple #[.int .i64 (powM m a k).1, .int .i64 (powM m a k).2]) ∧ Below w.heap.size w w' := by
  by_cases h0 : codeN m [a] = 0
  · obtain ⟨h1, h2, h3, h4⟩ := (codeN_one m a).1 h0
    by_cases k0 : inB k 0 1000000000000 = true
    · obtain ⟨h5, h6⟩ := (inB_iff _ _ _).1 k0
      have HF := Lib.hid (show powM m a k = (powI m a k, 0) by rw [powM, if_pos h0, if_pos k0])
      go_enter Try.func27, Try.ntmps27
      go_wp2_with (first | (go_at_call 59; refine (codeOfNumbers_any _ _ _ [a] _ (by simp) (RI_one _ _ _)).mono ?_; rintro e w' ⟨rfl, rfl⟩) | (go_at_call 65; refine (isWithin_any _ _ _ _).mono ?_; rintro e w' ⟨rfl, rfl⟩) | (go_at_call 68; refine (power_any _ _ _ _ (by omega) (by omega) (by omega) (by omega) (by omega) (by omega)).mono ?_; rintro e w' ⟨rfl, rfl⟩))
      go_ret2
      exact ⟨ret_ii (by rw [HF.out]) (by rw [HF.out]), (Below.refl _ _).alloc (Nat.le_refl _) _⟩
    · have HF := Lib.hid (show powM m a k = (0, 2) by rw [powM, if_pos h0, if_neg k0])
      have k0' : inB k 0 1000000000000 = false := by simpa using k0
      clear k0
      go_enter Try.func27, Try.ntmps27
      go_wp2_with (first | (go_at_call 59; refine (codeOfNumbers_any _ _ _ [a] _ (by simp) (RI_one _ _ _)).mono ?_; rintro e w' ⟨rfl, rfl⟩) | (go_at_call 65; refine (isWithin_any _ _ _ _).mono ?_; rintro e w' ⟨rfl, rfl⟩))
      go_ret2
      exact ⟨ret_ii (by rw [HF.out]) (by rw [HF.out]), (Below.refl _ _).alloc (Nat.le_refl _) _⟩
  · have HF := Lib.hid (show powM m a k = (0, codeN m [a]) by rw [powM, if_neg h0])
    obtain ⟨n1, n2⟩ := ne_facts h0
    clear h0
    go_enter Try.func27, Try.ntmps27
    go_wp2_with (go_at_call 59; refine (codeOfNumbers_any _ _ _ [a] _ (by simp) (RI_one _ _ _)).mono ?_; rintro e w' ⟨rfl, rfl⟩)
    go_ret2
    exact ⟨ret_ii (by rw [HF.out]) (by rw [HF.out]), (Below.refl _ _).alloc (Nat.le_refl _) _⟩
theorem sPowerModulo_any (m a k : Int) (w : World) :
    Calls Try.prog 56 #[.int .i64 m, .int .i64 a, .int .i64 k] w fun e w' => e = .returned (.tuple #[.int .i64 (powM m a k).1, .int .i64 (powM m a k).2]) ∧ Below w.heap.size w w' := by
  by_cases h0 : codeN m [a] = 0
  · obtain ⟨h1, h2, h3, h4⟩ := (codeN_one m a).1 h0
    by_cases k0 : inB k 0 1000000000000 = true
    · obtain ⟨h5, h6⟩ := (inB_iff _ _ _).1 k0
      have HF := Lib.hid (show powM m a k = (powI m a k, 0) by rw [powM, if_pos h0, if_pos k0])
      go_enter Try.func56, Try.ntmps56
      go_wp2_with (first | (go_at_call 63; refine (l01Code_any _ _ _ [a] _ (by simp) (RI_one _ _ _)).mono ?_; rintro e w' ⟨rfl, rfl⟩) | (go_at_call 83; refine (l01In_any _ _ _ _).mono ?_; rintro e w' ⟨rfl, rfl⟩) | (go_at_call 93; refine (l01Pow_any _ _ _ _ (by omega) (by omega) (by omega) (by omega) (by omega) (by omega)).mono ?_; rintro e w' ⟨rfl, rfl⟩))
      go_ret2
      exact ⟨ret_ii (by rw [HF.out]) (by rw [HF.out]), (Below.refl _ _).alloc (Nat.le_refl _) _⟩
    · have HF := Lib.hid (show powM m a k = (0, 2) by rw [powM, if_pos h0, if_neg k0])
      have k0' : inB k 0 1000000000000 = false := by simpa using k0
      clear k0
      go_enter Try.func56, Try.ntmps56
      go_wp2_with (first | (go_at_call 63; refine (l01Code_any _ _ _ [a] _ (by simp) (RI_one _ _ _)).mono ?_; rintro e w' ⟨rfl, rfl⟩) | (go_at_call 83; refine (l01In_any _ _ _ _).mono ?_; rintro e w' ⟨rfl, rfl⟩))
      go_ret2
      exact ⟨ret_ii (by rw [HF.out]) (by rw [HF.out]), (Below.refl _ _).alloc (Nat.le_refl _) _⟩
  · have HF := Lib.hid (show powM m a k = (0, codeN m [a]) by rw [powM, if_neg h0])
    obtain ⟨n1, n2⟩ := ne_facts h0
    clear h0
    go_enter Try.func56, Try.ntmps56
    go_wp2_with (go_at_call 63; refine (l01Code_any _ _ _ [a] _ (by simp) (RI_one _ _ _)).mono ?_; rintro e w' ⟨rfl, rfl⟩)
    go_ret2
    exact ⟨ret_ii (by rw [HF.out]) (by rw [HF.out]), (Below.refl _ _).alloc (Nat.le_refl _) _⟩

end Go.Proofs.Ytkhdbphdeabgnaa
