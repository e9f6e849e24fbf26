/- Facts for the law of moduli: what the answers of chapter 1 have to do with each other. -/
import Derived.Test.YtkhdbphdeabgnaaLag
import Derived.Test.YtkhdbphdeabgnaaOrd
import Derived.Test.YtkhdbphdeabgnaaPow
import Derived.Test.YtkhdbphdeabgnaaCnt
import Derived.Test.YtkhdbphdeabgnaaSol
import Derived.Test.YtkhdbphdeabgnaaGcd
namespace Go.Proofs.Ytkhdbphdeabgnaa

theorem ordN_is {M A : Nat} (hM : 2 ≤ M) (hc : Nat.gcd M A = 1) : Num.IsOrd M A (Num.ordN M A) ∧ Num.ordN M A ≤ M := by
  obtain ⟨k, k1, k2, k3⟩ := Num.ord_exists M A (by omega) hc
  have hex : ∃ j, Num.IsOrd M A j ∧ j ≤ M := by
    clear hM hc
    induction k using Nat.strongRecOn with
    | _ k ih =>
      by_cases h : ∃ j, 1 ≤ j ∧ j < k ∧ Num.pwr M A j = 1
      · obtain ⟨j, j1, j2, j3⟩ := h
        exact ih j j2 j1 (by omega) j3
      · exact ⟨k, ⟨k1, k3, fun j j1 j2 e => h ⟨j, j1, j2, e⟩⟩, k2⟩
  obtain ⟨j, j1, j2⟩ := hex
  rw [Num.ordN_eq M A j j1 j2]
  exact ⟨j1, j2⟩

theorem modA {m a : Int} (h : (invM m a).2 = 0) :
    2 ≤ m ∧ m ≤ 10000 ∧ mulM m a (invM m a).1 = (1, 0) ∧ (∃ n u : Nat, ordM m a = ((n : Int), 0) ∧ cntM m = ((u : Int), 0) ∧ 1 ≤ n ∧ n ≤ 10000 ∧ u ≤ 10000 ∧ u % n = 0 ∧ powM m a (n : Int) = (1, 0)) ∧ uniM m a = (true, 0) := by
  have h0 : codeU m a = 0 := by
    unfold invM at h
    by_cases h0 : codeU m a = 0
    · exact h0
    · rw [if_neg h0] at h; exact h
  obtain ⟨M, A, rfl, rfl, b1, b2, b3, b4⟩ := unit_facts h0
  obtain ⟨g1, g2⟩ := (codeU_zero _ _).1 h0
  obtain ⟨_, e2, e3, e4⟩ := eg_fact (M : Int) (A : Int) (by omega) (by omega)
  rw [g2] at e2
  have hinv : (invM (M : Int) (A : Int)).1 = (egI M A).2 := by rw [invM, if_pos h0]
  obtain ⟨o1, o2⟩ := ordN_is b1 b4
  refine ⟨by omega, by omega, ?_, ⟨Num.ordN M A, uniN M M, ?_, ?_, o1.1, by omega, ?_, ?_, ?_⟩, ?_⟩
  · rw [hinv, mulM, if_pos ((codeN_two _ _ _).2 ⟨by omega, by omega, by omega, by omega, e3, e4⟩)]
    obtain ⟨q, hq⟩ := e2
    rw [show (A : Int) * (egI M A).2 = 1 + (M : Int) * q by omega, Int.add_mul_emod_self_left, Int.emod_eq_of_lt (by omega) (by omega)]
  · rw [ordM, if_pos h0]; simp
  · rw [cntM, if_pos ((isM_iff _).2 ⟨by omega, by omega⟩)]; simp
  · have := uniN_le M M; omega
  · exact Num.ord_dvd M A _ (by omega) b4 o1
  · rw [powM, if_pos g1, if_pos (inB_yes (by omega) (by omega)), powI]
    simp only [Int.toNat_natCast]
    rw [o1.2.1]; rfl
  · rw [uniM, if_pos g1, g2]; rfl

theorem codeN_ne4 (m : Int) (l : List Int) : codeN m l ≠ 4 := by
  unfold codeN
  by_cases h1 : isM m = true
  · rw [if_pos h1]
    by_cases h2 : allIn 0 (m - 1) l = true
    · rw [if_pos h2]; omega
    · rw [if_neg h2]; omega
  · rw [if_neg h1]; omega

theorem modB {k b c : Int} (h : (solM k b c).2 = 0 ∨ (solM k b c).2 = 4) :
    2 ≤ k ∧ k ≤ 10000 ∧ 0 ≤ b ∧ b < k ∧ 0 ≤ c ∧ c < k ∧ ∃ g : Int, comM b k = (g, 0) ∧ 1 ≤ g ∧ g ≤ k ∧
      ((solM k b c).2 = 0 → c % g = 0 ∧ 0 ≤ (solM k b c).1 ∧ (solM k b c).1 ≤ k ∧ b * (solM k b c).1 % k = c) ∧ ((solM k b c).2 = 4 → ¬ c % g = 0) := by
  have h0 : codeN k [b, c] = 0 := by
    by_cases h0 : codeN k [b, c] = 0
    · exact h0
    · have := codeN_ne4 k [b, c]
      unfold solM at h
      rw [if_neg h0] at h
      rcases h with h | h
      · exact h
      · exact absurd h this
  obtain ⟨h1, h2, h3, h4, h5, h6⟩ := (codeN_two k b c).1 h0
  obtain ⟨g1, g2, g3, g4⟩ := gcdI_facts (a := b) h1 h2
  obtain ⟨_, e2, e3, e4⟩ := eg_fact k b h3 h4
  refine ⟨h1, h2, h3, h4, h5, h6, gcdI b k, ?_, g1, g2, ?_, ?_⟩
  · rw [comM, if_pos ((codeI_two b k).2 ⟨⟨by omega, by omega⟩, by omega, by omega⟩)]
  · intro ht
    have hd : gcdI b k ∣ c := by
      apply Classical.byContradiction
      intro hd
      rw [solM, if_pos h0, if_neg hd] at ht
      simp at ht
    obtain ⟨s1, s2, s3, s4, s5, s6⟩ := Num.sol_some (by omega) (by omega) g3 g4 e2 h5 h6 hd
    have hv : (solM k b c).1 = c / gcdI b k * (egI k b).2 % (k / gcdI b k) := by rw [solM, if_pos h0, if_pos hd]
    rw [hv]
    exact ⟨Int.emod_eq_zero_of_dvd hd, s2, by omega, s5⟩
  · intro ht hc
    rw [solM, if_pos h0, if_pos (Int.dvd_of_emod_eq_zero hc)] at ht
    simp at ht

theorem modD {r s : Int} (h : (remM r s).2 = 0) : 2 ≤ r ∧ r ≤ 10000 ∧ -1000000000000 ≤ s ∧ s ≤ 1000000000000 ∧ 0 ≤ (remM r s).1 ∧ (remM r s).1 < r ∧ (s - (remM r s).1).tmod r = 0 := by
  have h0 : codeN r [] = 0 := by
    by_cases h0 : codeN r [] = 0
    · exact h0
    · unfold remM at h; rw [if_neg h0] at h; exact absurd h h0
  have h1 : codeI [s] = 0 := by
    by_cases h1 : codeI [s] = 0
    · exact h1
    · unfold remM at h; rw [if_pos h0, if_neg h1] at h; exact absurd h h1
  obtain ⟨a1, a2⟩ := (codeN_nil r).1 h0
  obtain ⟨a3, a4⟩ := (codeI_one s).1 h1
  have hv : (remM r s).1 = s % r := by rw [remM, if_pos h0, if_pos h1]
  rw [hv]
  refine ⟨a1, a2, a3, a4, Int.emod_nonneg _ (by omega), Int.emod_lt_of_pos _ (by omega), ?_⟩
  exact Int.tmod_eq_zero_of_dvd (Int.dvd_self_sub_emod)

end Go.Proofs.Ytkhdbphdeabgnaa
