/- Plain number theory: the least solution of a linear equation. No program in sight. -/
namespace Go.Proofs.Ytkhdbphdeabgnaa
namespace Num

theorem sol_none {m a b g : Int} (h1 : g ∣ a) (h2 : g ∣ m) (hb : ¬ g ∣ b) (y : Int) : ¬ a * y % m = b := by
  intro h
  apply hb
  have h3 := Int.emod_add_mul_ediv (a * y) m
  rw [h] at h3
  obtain ⟨p, rfl⟩ := h1
  obtain ⟨q, rfl⟩ := h2
  exact ⟨p * y - q * (g * p * y / (g * q)), by grind⟩

theorem sol_some {m a b g x : Int} (hg : 0 < g) (hm : 0 < m) (h1 : g ∣ a) (h2 : g ∣ m) (hx : m ∣ a * x - g) (hb0 : 0 ≤ b) (hb1 : b < m) (hb : g ∣ b) :
    0 < m / g ∧ 0 ≤ b / g * x % (m / g) ∧ b / g * x % (m / g) < m / g ∧ m / g ≤ m ∧ a * (b / g * x % (m / g)) % m = b ∧ (∀ y, 0 ≤ y → y < b / g * x % (m / g) → ¬ a * y % m = b) := by
  obtain ⟨a', rfl⟩ := h1
  obtain ⟨m', rfl⟩ := h2
  obtain ⟨b', rfl⟩ := hb
  rw [Int.mul_ediv_cancel_left _ (by omega), Int.mul_ediv_cancel_left _ (by omega)]
  have hm' : 0 < m' := by
    apply Classical.byContradiction
    intro h
    have := Int.mul_nonpos_of_nonneg_of_nonpos (show 0 ≤ g by omega) (show m' ≤ 0 by omega)
    omega
  have hle : m' ≤ g * m' := by
    have := Int.mul_le_mul_of_nonneg_right (show 1 ≤ g by omega) (show 0 ≤ m' by omega)
    omega
  have r1 := Int.emod_nonneg (b' * x) (show m' ≠ 0 by omega)
  have r2 := Int.emod_lt_of_pos (b' * x) hm'
  have r3 := Int.emod_add_mul_ediv (b' * x) m'
  obtain ⟨u, hu⟩ := hx
  have hu' : a' * x - 1 = m' * u := by
    have : g * (a' * x - 1) = g * (m' * u) := by grind
    exact Int.eq_of_mul_eq_mul_left (by omega) this
  generalize b' * x % m' = y0 at *
  generalize b' * x / m' = q at *
  refine ⟨hm', r1, r2, hle, ?_, fun y hy0 hy1 hy => ?_⟩
  · have e : g * a' * y0 = g * b' + g * m' * (b' * u - a' * q) := by
      have : a' * y0 = b' + m' * (b' * u - a' * q) := by grind
      grind
    rw [e, Int.add_mul_emod_self_left, Int.emod_eq_of_lt hb0 hb1]
  · have h3 := Int.emod_add_mul_ediv (g * a' * y) (g * m')
    rw [hy] at h3
    generalize g * a' * y / (g * m') = v at *
    have h4 : b' + m' * v = a' * y := by
      have : g * (b' + m' * v) = g * (a' * y) := by grind
      exact Int.eq_of_mul_eq_mul_left (by omega) this
    have h5 : y0 - y = m' * (u * y - v * x - q) := by grind
    have h6 : m' ∣ y0 - y := ⟨_, h5⟩
    have := Int.le_of_dvd (by omega) h6
    omega

end Num
end Go.Proofs.Ytkhdbphdeabgnaa
