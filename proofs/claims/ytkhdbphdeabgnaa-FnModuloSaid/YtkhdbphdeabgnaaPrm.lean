/- Plain number theory: what trial division tells. No program in sight. -/
namespace Go.Proofs.Ytkhdbphdeabgnaa
namespace Num

/-- n is a prime number -/
def prB (n : Int) : Bool := decide (1 < n ∧ ∀ d : Nat, d < n.toNat → 2 ≤ d → ¬ (d : Int) ∣ n)
theorem prB_iff (n : Int) : prB n = true ↔ 1 < n ∧ ∀ d : Nat, d < n.toNat → 2 ≤ d → ¬ (d : Int) ∣ n := by unfold prB; exact decide_eq_true_iff
theorem prB_small {n : Int} (h : n < 4) : prB n = decide (1 < n) := by
  rw [Bool.eq_iff_iff, prB_iff, decide_eq_true_iff]
  constructor
  · exact fun h => h.1
  · refine fun h1 => ⟨h1, fun d h2 h3 h4 => ?_⟩
    obtain ⟨rfl, rfl⟩ : d = 2 ∧ n = 3 := by omega
    omega
theorem prB_no {n : Int} (d : Nat) (h1 : 2 ≤ d) (h2 : (d : Int) < n) (h3 : n % (d : Int) = 0) : prB n = false := by
  rw [← Bool.not_eq_true, prB_iff]
  exact fun h => h.2 d (by omega) h1 (Int.dvd_of_emod_eq_zero h3)

/-- no divisor of n from 2 on lies below d -/
def LowI (d : Nat) (n : Int) : Prop := ∀ e : Nat, 2 ≤ e → e < d → ¬ (e : Int) ∣ n
theorem LowI.two (n : Int) : LowI 2 n := fun e h1 h2 => by omega
theorem LowI.succ {d : Nat} {n : Int} (h : LowI d n) (hn : ¬ n % (d : Int) = 0) : LowI (d + 1) n := by
  intro e h1 h2
  rcases (show e < d ∨ e = d by omega) with c | rfl
  · exact h e h1 c
  · exact fun h3 => hn (Int.emod_eq_zero_of_dvd h3)
theorem LowI.prime {d : Nat} {n : Int} (h : LowI d n) (hn : 1 < n) (hd : n < (d : Int) * d) : prB n = true := by
  refine (prB_iff n).2 ⟨hn, fun e h1 h2 h3 => ?_⟩
  obtain ⟨N, rfl⟩ := Int.eq_ofNat_of_zero_le (show 0 ≤ n by omega)
  have h3' : e ∣ N := Int.natCast_dvd_natCast.1 h3
  obtain ⟨f, hf⟩ := h3'
  have hd' : N < d * d := by rw [← Int.natCast_mul] at hd; omega
  have hde : d ≤ e := by
    apply Nat.le_of_not_lt
    intro hlt
    exact h e h2 hlt h3
  have hf2 : 2 ≤ f := by
    apply Nat.le_of_not_lt
    intro hlt
    have : f = 0 ∨ f = 1 := by omega
    rcases this with rfl | rfl <;> simp at hf <;> omega
  have hdf : d ≤ f := by
    apply Nat.le_of_not_lt
    intro hlt
    exact h f hf2 hlt (Int.natCast_dvd_natCast.2 ⟨e, by rw [hf, Nat.mul_comm]⟩)
  have := Nat.mul_le_mul hde hdf
  omega
theorem LowI.start {n : Int} (h2 : ¬ n % 2 = 0) (h3 : ¬ n % 3 = 0) : LowI 5 n := by
  intro e h1 h4 h5
  have := Int.emod_eq_zero_of_dvd h5
  rcases (show e = 2 ∨ e = 3 ∨ e = 4 by omega) with rfl | rfl | rfl <;> omega
theorem LowI.six {m : Nat} {n : Int} (h : LowI (m - 1) n) (hm : 6 ≤ m) (h6 : m % 6 = 0) (ha : ¬ n % ((m : Int) - 1) = 0) (hb : ¬ n % ((m : Int) + 1) = 0) : LowI (m + 5) n := by
  intro e h1 h2 h3
  have hz := Int.emod_eq_zero_of_dvd h3
  rcases (show e < m - 1 ∨ e = m - 1 ∨ e = m + 1 ∨ e % 2 = 0 ∨ e % 3 = 0 by omega) with c | rfl | rfl | c | c
  · exact h e h1 c h3
  · apply ha
    rw [← hz]; congr 1; omega
  · apply hb
    rw [← hz]; congr 1
  · refine h 2 (by omega) (by omega) (Int.dvd_trans ?_ h3)
    exact Int.natCast_dvd_natCast.2 (Nat.dvd_of_mod_eq_zero c)
  · refine h 3 (by omega) (by omega) (Int.dvd_trans ?_ h3)
    exact Int.natCast_dvd_natCast.2 (Nat.dvd_of_mod_eq_zero c)
theorem sq_le {d c : Int} (h0 : 0 ≤ d) (h : d ≤ c) : 0 ≤ d * d ∧ d * d ≤ c * c :=
  ⟨Int.mul_nonneg h0 h0, Int.mul_le_mul h h h0 (by omega)⟩
theorem lin_sq {d k : Int} (h0 : 0 ≤ d) (h : k ≤ d) : k * d ≤ d * d := Int.mul_le_mul_of_nonneg_right h h0

end Num
end Go.Proofs.Ytkhdbphdeabgnaa
