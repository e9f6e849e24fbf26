/- Contracts of SolveModulo, of the program and of the model. -/
import Derived.Test.YtkhdbphdeabgnaaUnit
import Derived.Test.YtkhdbphdeabgnaaSolN
import Derived.RegionTactic
import Derived.Deep.QuietTactic
import Derived.BigQuiet
namespace Go.Proofs.Ytkhdbphdeabgnaa
open Go.RowKit Go.WideShapes Go.ChangeShapes Go.ChangeAt

/-- the least solution, and the code -/
def solM (m a b : Int) : Int × Int :=
  if codeN m [a, b] = 0 then (if gcdI a m ∣ b then (b / gcdI a m * (egI m a).2 % (m / gcdI a m), 0) else (0, 4)) else (0, codeN m [a, b])

theorem gcdI_facts {m a : Int} (h1 : 2 ≤ m) (h2 : m ≤ 10000) : 1 ≤ gcdI a m ∧ gcdI a m ≤ m ∧ gcdI a m ∣ a ∧ gcdI a m ∣ m := by
  have hd : gcdI a m ∣ m := by
    unfold gcdI; exact Int.ofNat_dvd_left.2 (Nat.gcd_dvd_right _ _)
  refine ⟨?_, Int.le_of_dvd (by omega) hd, ?_, hd⟩
  · have : 0 < Nat.gcd a.natAbs m.natAbs := Nat.gcd_pos_of_pos_right _ (by omega)
    unfold gcdI; omega
  · unfold gcdI; exact Int.ofNat_dvd_left.2 (Nat.gcd_dvd_left _ _)

set_option maxHeartbeats 1000000 in
theorem SolveModulo_any (m a b : Int) (w : World) :
    Calls Try.prog 29 #[.int .i64 m, .int .i64 a, .int .i64 b] w fun e w' => e = .returned (.tuple #[.int .i64 (solM m a b).1, .int .i64 (solM m a b).2]) ∧ Below w.heap.size w w' := by
  by_cases h0 : codeN m [a, b] = 0
  · obtain ⟨h1, h2, h3, h4, h5, h6⟩ := (codeN_two m a b).1 h0
    obtain ⟨g1, g2, g3, g4⟩ := gcdI_facts (a := a) h1 h2
    obtain ⟨_, e2, e3, e4⟩ := eg_fact m a h3 h4
    obtain ⟨G, hG⟩ : ∃ G, gcdI a m = G := ⟨_, rfl⟩
    obtain ⟨X, hX⟩ : ∃ X, (egI m a).2 = X := ⟨_, rfl⟩
    rw [hG] at g1 g2 g3 g4 e2
    rw [hX] at e2 e3 e4
    have HC : ∀ w : World, Calls Try.prog 60 #[.int .i64 m, .int .i64 a] w fun e w' => e = .returned (.tuple #[.int .i64 G, .int .i64 X]) ∧ w = w' := fun w => by
      have := divFac_any m a w h3 h4 h2
      rwa [hG, hX] at this
    have HC' := Lib.hid HC
    by_cases k0 : G ∣ b
    · have HF := Lib.hid (show solM m a b = (b / G * X % (m / G), 0) by rw [solM, if_pos h0, hG, hX, if_pos k0])
      obtain ⟨s1, s2, s3, s4, s5, s6⟩ := Num.sol_some (by omega) (by omega) g3 g4 e2 h5 h6 k0
      have hb0 : b % G = 0 := Int.emod_eq_zero_of_dvd k0
      have q1 : 0 ≤ b / G := Int.ediv_nonneg h5 (by omega)
      have q2 : b / G ≤ 10000 := Int.le_trans (Int.ediv_le_self _ h5) (by omega)
      obtain ⟨p1, p2⟩ : 0 ≤ b / G * X ∧ b / G * X ≤ 100010000 := by
        refine ⟨Int.mul_nonneg q1 e3, ?_⟩
        have := Int.mul_le_mul_of_nonneg_right q2 e3
        omega
      clear HC hG hX e2 g3 g4 k0 s5 s6
      go_enter Try.func29, Try.ntmps29
      go_wp2_with (first | (go_at_call 59; refine (codeOfNumbers_any _ _ _ [a, b] _ (by simp) (RI_two _ _ _ _)).mono ?_; rintro e w' ⟨rfl, rfl⟩) | (go_at_call 60; refine (HC'.out _).mono ?_; rintro e w' ⟨rfl, rfl⟩))
      go_quiet (fail)
      go_wp2
      go_ret2
      exact ⟨ret_ii (by rw [HF.out]) (by rw [HF.out]), below_drewN ((Below.refl _ _).alloc (Nat.le_refl _) _) _⟩
    · have HF := Lib.hid (show solM m a b = (0, 4) by rw [solM, if_pos h0, hG, if_neg k0])
      have hb0 : ¬ b % G = 0 := fun h => k0 (Int.dvd_of_emod_eq_zero h)
      obtain ⟨n1, n2⟩ := ne_facts hb0
      clear HC hG hX e2 g3 g4 k0 hb0
      go_enter Try.func29, Try.ntmps29
      go_wp2_with (first | (go_at_call 59; refine (codeOfNumbers_any _ _ _ [a, b] _ (by simp) (RI_two _ _ _ _)).mono ?_; rintro e w' ⟨rfl, rfl⟩) | (go_at_call 60; refine (HC'.out _).mono ?_; rintro e w' ⟨rfl, rfl⟩))
      go_ret2
      exact ⟨ret_ii (by rw [HF.out]) (by rw [HF.out]), ((Below.refl _ _).alloc (Nat.le_refl _) _)⟩
  · have HF := Lib.hid (show solM m a b = (0, codeN m [a, b]) by rw [solM, if_neg h0])
    obtain ⟨n1, n2⟩ := ne_facts h0
    clear h0
    go_enter Try.func29, Try.ntmps29
    go_wp2_with (go_at_call 59; refine (codeOfNumbers_any _ _ _ [a, b] _ (by simp) (RI_two _ _ _ _)).mono ?_; rintro e w' ⟨rfl, rfl⟩)
    go_ret2
    exact ⟨ret_ii (by rw [HF.out]) (by rw [HF.out]), (Below.refl _ _).alloc (Nat.le_refl _) _⟩

set_option maxHeartbeats 1000000 in
theorem sSolveModulo_any (m a b : Int) (w : World) :
    Calls Try.prog 30 #[.int .i64 m, .int .i64 a, .int .i64 b] w fun e w' => e = .returned (.tuple #[.int .i64 (solM m a b).1, .int .i64 (solM m a b).2]) ∧ Below w.heap.size w w' := by
  by_cases h0 : codeN m [a, b] = 0
  · obtain ⟨h1, h2, h3, h4, h5, h6⟩ := (codeN_two m a b).1 h0
    obtain ⟨g1, g2, g3, g4⟩ := gcdI_facts (a := a) h1 h2
    obtain ⟨_, e2, e3, e4⟩ := eg_fact m a h3 h4
    have H0 := Lib.hid h0
    obtain ⟨M, rfl⟩ := Int.eq_ofNat_of_zero_le (show 0 ≤ m by omega)
    have HN : Hid (∀ K : Nat, K < M → (∀ j : Nat, j < K → ¬ a * (j : Int) % M = b) → a * (K : Int) % M = b → solM M a b = ((K : Int), 0)) := Lib.hid (fun K hK hall hh => by
      rw [solM, if_pos H0.out]
      by_cases k0 : gcdI a M ∣ b
      · rw [if_pos k0]
        obtain ⟨s1, s2, s3, s4, s5, s6⟩ := Num.sol_some (by omega) (by omega) g3 g4 e2 h5 h6 k0
        generalize b / gcdI a M * (egI M a).2 % (M / gcdI a M) = y at *
        obtain ⟨Y, rfl⟩ := Int.eq_ofNat_of_zero_le s2
        rcases Nat.lt_trichotomy Y K with c | c | c
        · exact absurd s5 (hall Y c)
        · rw [c]
        · exact absurd hh (s6 K (by omega) (by omega))
      · exact absurd hh (Num.sol_none g3 g4 k0 K))
    have HM : Hid ((∀ j : Nat, j < M → ¬ a * (j : Int) % M = b) → solM M a b = (0, 4)) := Lib.hid (fun hall => by
      rw [solM, if_pos H0.out]
      by_cases k0 : gcdI a M ∣ b
      · obtain ⟨s1, s2, s3, s4, s5, s6⟩ := Num.sol_some (by omega) (by omega) g3 g4 e2 h5 h6 k0
        generalize b / gcdI a M * (egI M a).2 % (M / gcdI a M) = y at *
        obtain ⟨Y, rfl⟩ := Int.eq_ofNat_of_zero_le s2
        exact absurd s5 (hall Y (by omega))
      · rw [if_neg k0])
    clear g1 g2 g3 g4 e2 e3 e4
    go_enter Try.func30, Try.ntmps30
    go_wp2_with (go_at_call 63; refine (l01Code_any _ _ _ [a, b] _ (by simp) (RI_two _ _ _ _)).mono ?_; rintro e w' ⟨rfl, rfl⟩)
    go_loop [9] (fun x => ∃ K : Nat, K ≤ M ∧ x = .int .i64 K ∧ ∀ j : Nat, j < K → ¬ a * (j : Int) % M = b) (fun x => M - (intOf x).toNat)
    case atStart => exact ⟨0, Nat.zero_le _, rfl, fun j hj => by omega⟩
    case round =>
      obtain ⟨K, hK, rfl, hall⟩ := hrel
      have HA := Lib.hid hall
      clear hall
      by_cases hlt : K < M
      · obtain ⟨p1, p2⟩ := mul_small (b := (K : Int)) h3 h4 (by omega) (by omega) h2
        have p3 := Int.emod_nonneg (a * (K : Int)) (show (M : Int) ≠ 0 by omega)
        by_cases hh : a * (K : Int) % M = b
        · have HH := Lib.hid hh
          have hh' : (a * (K : Int) % M == b) = true := by simpa using hh
          clear hh
          go_wp2
          go_ret2
          have := HN.out K hlt HA.out HH.out
          exact ⟨ret_ii (by rw [this]) (by rw [this]), (Below.refl _ _).alloc (Nat.le_refl _) _⟩
        · have HH := Lib.hid hh
          have hh' : (a * (K : Int) % M == b) = false := by simpa using hh
          clear hh
          go_wp2
          go_round
          case rel =>
            refine ⟨K + 1, by omega, by go_num, fun j hj => ?_⟩
            rcases (show j < K ∨ j = K by omega) with c | rfl
            · exact HA.out j c
            · exact HH.out
          case measure => simp only [intOf]; omega
      · obtain rfl : K = M := by omega
        go_wp2
        go_ret2
        have := HM.out HA.out
        exact ⟨ret_ii (by rw [this]) (by rw [this]), (Below.refl _ _).alloc (Nat.le_refl _) _⟩
  · have HF := Lib.hid (show solM m a b = (0, codeN m [a, b]) by rw [solM, if_neg h0])
    obtain ⟨n1, n2⟩ := ne_facts h0
    clear h0
    go_enter Try.func30, Try.ntmps30
    go_wp2_with (go_at_call 63; refine (l01Code_any _ _ _ [a, b] _ (by simp) (RI_two _ _ _ _)).mono ?_; rintro e w' ⟨rfl, rfl⟩)
    go_ret2
    exact ⟨ret_ii (by rw [HF.out]) (by rw [HF.out]), (Below.refl _ _).alloc (Nat.le_refl _) _⟩

end Go.Proofs.Ytkhdbphdeabgnaa
