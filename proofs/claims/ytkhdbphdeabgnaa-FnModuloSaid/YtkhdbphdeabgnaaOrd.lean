/- Contracts of OrderModulo, of the program and of the model. -/
import Derived.Test.YtkhdbphdeabgnaaUnit
import Derived.Test.YtkhdbphdeabgnaaPow
namespace Go.Proofs.Ytkhdbphdeabgnaa
open Go.RowKit Go.WideShapes Go.ChangeShapes Go.ChangeAt

theorem uniM_of_codeN {m a c : Int} (h : codeN m [a] = c) (hc : c ≠ 0) : uniM m a = (false, c) := by rw [uniM, if_neg (by rw [h]; exact hc), h]
theorem IsUnit_val (m a : Int) (u : Bool) (c : Int) (h : Hid (uniM m a = (u, c))) (w : World) :
    Calls Try.prog 21 #[.int .i64 m, .int .i64 a] w fun e w' => e = .returned (.tuple #[.bool u, .int .i64 c]) ∧ Below w.heap.size w w' :=
  (IsUnit_any m a w).mono fun _ _ ⟨e, hb⟩ => ⟨by rw [e, h.out], hb⟩
theorem l01Units_val (m a : Int) (c : Int) (h : Hid (codeU m a = c)) (w : World) :
    Calls Try.prog 61 #[.int .i64 m, .int .i64 a] w fun e w' => e = .returned (.int .i64 c) ∧ Below w.heap.size w w' :=
  (l01Units_any m a w).mono fun _ _ ⟨e, hb⟩ => ⟨by rw [e, h.out], hb⟩

/-- the order of a number, and the code -/
def ordM (m a : Int) : Int × Int := if codeU m a = 0 then (((Num.ordN m.toNat a.toNat : Nat) : Int), 0) else (0, codeU m a)

theorem gcdI_nat (a m : Nat) : gcdI (a : Int) (m : Int) = ((Nat.gcd a m : Nat) : Int) := by simp [gcdI]
theorem unit_facts {m a : Int} (h : codeU m a = 0) : ∃ M A : Nat, m = M ∧ a = A ∧ 2 ≤ M ∧ M ≤ 10000 ∧ A < M ∧ Nat.gcd M A = 1 := by
  obtain ⟨h1, h2⟩ := (codeU_zero m a).1 h
  obtain ⟨h3, h4, h5, h6⟩ := (codeN_one m a).1 h1
  obtain ⟨A, rfl⟩ := Int.eq_ofNat_of_zero_le h5
  obtain ⟨M, rfl⟩ := Int.eq_ofNat_of_zero_le (show 0 ≤ m by omega)
  rw [gcdI_nat] at h2
  exact ⟨M, A, rfl, rfl, by omega, by omega, by omega, by rw [Nat.gcd_comm]; omega⟩

set_option maxHeartbeats 1000000 in
theorem OrderModulo_any (m a : Int) (w : World) :
    Calls Try.prog 19 #[.int .i64 m, .int .i64 a] w fun e w' => e = .returned (.tuple #[.int .i64 (ordM m a).1, .int .i64 (ordM m a).2]) ∧ Below w.heap.size w w' := by
  by_cases h0 : codeU m a = 0
  · obtain ⟨M, A, rfl, rfl, b1, b2, b3, b4⟩ := unit_facts h0
    obtain ⟨g1, g2⟩ := (codeU_zero _ _).1 h0
    have HU : Hid (uniM (M : Int) (A : Int) = (true, 0)) := Lib.hid (by rw [uniM, if_pos g1, g2]; rfl)
    have HF := Lib.hid (show ordM (M : Int) (A : Int) = (((Num.ordN M A : Nat) : Int), 0) by rw [ordM, if_pos h0]; simp)
    obtain ⟨N, n1, n2, n3⟩ := Num.ord_exists M A (by omega) b4
    have H3 := Lib.hid n3
    clear h0 g1 g2 b4 n3
    go_enter Try.func19, Try.ntmps19
    go_wp2_with (go_at_call 21; refine (IsUnit_val _ _ _ _ HU _).mono ?_; rintro e w1 ⟨rfl, hb1⟩)
    go_loop [8, 9] (fun o p => ∃ k : Nat, 1 ≤ k ∧ k ≤ N ∧ o = .int .i64 k ∧ p = .int .i64 (Num.pwr M A k : Nat) ∧ (∀ j, 1 ≤ j → j < k → Num.pwr M A j ≠ 1)) (fun o _ => N - (intOf o).toNat)
    case atStart => exact ⟨1, by omega, n1, rfl, by rw [Num.pwr_one _ _ b3], fun j h1 h2 => by omega⟩
    case round =>
      obtain ⟨k, k1, k2, rfl, rfl, hall⟩ := hrel
      have HA := Lib.hid hall
      clear hall
      by_cases hp : Num.pwr M A k = 1
      · have HP := Lib.hid hp
        have hp1 : ((Num.pwr M A k : Nat) : Int) = 1 := by omega
        clear hp
        go_wp2
        go_ret2
        have := Num.ordN_eq M A k ⟨k1, HP.out, HA.out⟩ (by omega)
        exact ⟨ret_ii (by rw [HF.out]; show (k : Int) = _; rw [this]) (by rw [HF.out]), hb1⟩
      · have hne : k ≠ N := by rintro rfl; exact hp H3.out
        have hkN : k + 1 ≤ N := by omega
        have hpl := Num.pwr_lt M A k (by omega)
        obtain ⟨p1, p2⟩ := mul_small_nat hpl b3 b2
        have HS := Lib.hid (Num.pwr_succ M A k)
        have HQ := Lib.hid hp
        obtain ⟨X, hX⟩ : ∃ X, Num.pwr M A k = X := ⟨_, rfl⟩
        rw [hX] at hpl p1 p2 hp ⊢
        have HX := Lib.hid hX
        have hp1 : ((X : Int) == 1) = false := by simpa using (by omega : ¬ (X : Int) = 1)
        have hp2 : ((X : Int) != 1) = true := by simpa using (by omega : ¬ (X : Int) = 1)
        clear hp hX hne
        go_wp2
        go_round
        case rel =>
          refine ⟨k + 1, by omega, hkN, by go_num, ?_, fun j h1 h2 => ?_⟩
          · rw [HS.out, HX.out, mul_mod_cast]
          · rcases (show j < k ∨ j = k by omega) with h | rfl
            · exact HA.out j h1 h
            · exact HQ.out
        case measure => simp only [intOf]; omega
  · have HF := Lib.hid (show ordM m a = (0, codeU m a) by rw [ordM, if_neg h0])
    by_cases g1 : codeN m [a] = 0
    · have g2 : ¬ gcdI a m = 1 := fun h => h0 ((codeU_zero m a).2 ⟨g1, h⟩)
      have HU : Hid (uniM m a = (false, 0)) := Lib.hid (by rw [uniM, if_pos g1]; simp [g2])
      have HV := Lib.hid (show codeU m a = 5 by rw [codeU, if_pos g1, if_neg g2])
      clear h0 g1 g2
      go_enter Try.func19, Try.ntmps19
      go_wp2_with (go_at_call 21; refine (IsUnit_val _ _ _ _ HU _).mono ?_; rintro e w1 ⟨rfl, hb1⟩)
      go_ret2
      exact ⟨ret_ii (by rw [HF.out]) (by rw [HF.out, HV.out]), hb1⟩
    · have HU : Hid (uniM m a = (false, codeN m [a])) := Lib.hid (by rw [uniM, if_neg g1])
      have HV := Lib.hid (show codeU m a = codeN m [a] by rw [codeU, if_neg g1])
      obtain ⟨n1, n2⟩ := ne_facts g1
      clear h0 g1
      go_enter Try.func19, Try.ntmps19
      go_wp2_with (go_at_call 21; refine (IsUnit_val _ _ _ _ HU _).mono ?_; rintro e w1 ⟨rfl, hb1⟩)
      go_ret2
      exact ⟨ret_ii (by rw [HF.out]) (by rw [HF.out, HV.out]), hb1⟩

set_option maxHeartbeats 1000000 in
theorem sOrderModulo_any (m a : Int) (w : World) :
    Calls Try.prog 20 #[.int .i64 m, .int .i64 a] w fun e w' => e = .returned (.tuple #[.int .i64 (ordM m a).1, .int .i64 (ordM m a).2]) ∧ Below w.heap.size w w' := by
  by_cases h0 : codeU m a = 0
  · obtain ⟨M, A, rfl, rfl, b1, b2, b3, b4⟩ := unit_facts h0
    have HU := Lib.hid h0
    have HF := Lib.hid (show ordM (M : Int) (A : Int) = (((Num.ordN M A : Nat) : Int), 0) by rw [ordM, if_pos h0]; simp)
    obtain ⟨N, n1, n2, n3⟩ := Num.ord_exists M A (by omega) b4
    have H3 := Lib.hid n3
    clear h0 b4 n3
    go_enter Try.func20, Try.ntmps20
    go_wp2_with (go_at_call 61; refine (l01Units_val _ _ _ HU _).mono ?_; rintro e w1 ⟨rfl, hb1⟩)
    go_loop [7, 8] (fun o p => ∃ k : Nat, 1 ≤ k ∧ k ≤ N ∧ o = .int .i64 k ∧ p = .int .i64 (Num.pwr M A k : Nat) ∧ (∀ j, 1 ≤ j → j < k → Num.pwr M A j ≠ 1)) (fun o _ => N - (intOf o).toNat)
    case atStart => exact ⟨1, by omega, n1, rfl, by rw [Num.pwr_one _ _ b3], fun j h1 h2 => by omega⟩
    case round =>
      obtain ⟨k, k1, k2, rfl, rfl, hall⟩ := hrel
      have HA := Lib.hid hall
      clear hall
      by_cases hp : Num.pwr M A k = 1
      · have HP := Lib.hid hp
        have hp1 : ((Num.pwr M A k : Nat) : Int) = 1 := by omega
        clear hp
        go_wp2
        go_ret2
        have := Num.ordN_eq M A k ⟨k1, HP.out, HA.out⟩ (by omega)
        exact ⟨ret_ii (by rw [HF.out]; show (k : Int) = _; rw [this]) (by rw [HF.out]), hb1⟩
      · have hne : k ≠ N := by rintro rfl; exact hp H3.out
        have hkN : k + 1 ≤ N := by omega
        have hpl := Num.pwr_lt M A k (by omega)
        obtain ⟨p1, p2⟩ := mul_small_nat hpl b3 b2
        have HS := Lib.hid (Num.pwr_succ M A k)
        have HQ := Lib.hid hp
        obtain ⟨X, hX⟩ : ∃ X, Num.pwr M A k = X := ⟨_, rfl⟩
        rw [hX] at hpl p1 p2 hp ⊢
        have HX := Lib.hid hX
        have hp1 : ((X : Int) == 1) = false := by simpa using (by omega : ¬ (X : Int) = 1)
        have hp2 : ((X : Int) != 1) = true := by simpa using (by omega : ¬ (X : Int) = 1)
        clear hp hX hne
        go_wp2
        go_round
        case rel =>
          refine ⟨k + 1, by omega, hkN, by go_num, ?_, fun j h1 h2 => ?_⟩
          · rw [HS.out, HX.out, mul_mod_cast]
          · rcases (show j < k ∨ j = k by omega) with h | rfl
            · exact HA.out j h1 h
            · exact HQ.out
        case measure => simp only [intOf]; omega
  · have HF := Lib.hid (show ordM m a = (0, codeU m a) by rw [ordM, if_neg h0])
    obtain ⟨n1, n2⟩ := ne_facts h0
    clear h0
    go_enter Try.func20, Try.ntmps20
    go_wp2_with (go_at_call 61; refine (l01Units_any _ _ _).mono ?_; rintro e w1 ⟨rfl, hb1⟩)
    go_ret2
    exact ⟨ret_ii (by rw [HF.out]) (by rw [HF.out]), hb1⟩

end Go.Proofs.Ytkhdbphdeabgnaa
