/- Plain number theory: no program in sight. Euclid with a factor; orders by the pigeonhole principle. -/
namespace Go.Proofs.Ytcnkpfikafaocaa
namespace Num

/-! Euclid's algorithm with a factor -/
def eg (g ng : Nat) (x nx : Int) : Nat × Int :=
  if _h : ng = 0 then (g, x) else eg ng (g % ng) nx (x - ((g / ng : Nat) : Int) * nx)
termination_by ng
decreasing_by exact Nat.mod_lt _ (by omega)

theorem eg_zero (g : Nat) (x nx : Int) : eg g 0 x nx = (g, x) := by rw [eg]; simp
theorem eg_step (g ng : Nat) (x nx : Int) (h : ng ≠ 0) : eg g ng x nx = eg ng (g % ng) nx (x - ((g / ng : Nat) : Int) * nx) := by rw [eg]; simp [h]

structure EInv (m a g ng : Nat) (x nx : Int) : Prop where
  lt : ng < g
  le : g ≤ m
  dx : (m : Int) ∣ a * x - g
  dn : (m : Int) ∣ a * nx - ng
  det : (0 ≤ x ∧ nx ≤ 0 ∧ x * ng - nx * g = m) ∨ (x ≤ 0 ∧ 0 ≤ nx ∧ nx * g - x * ng = m)
  gcd : Nat.gcd g ng = Nat.gcd m a
  sm : -(m : Int) ≤ x ∧ x ≤ m

theorem EInv.start {m a : Nat} (h : a < m) : EInv m a m a 0 1 :=
  ⟨h, Nat.le_refl _, ⟨-1, by omega⟩, ⟨0, by omega⟩, .inr ⟨by omega, by omega, by omega⟩, rfl, by omega⟩

theorem le_mul_pos {a b c : Int} (ha : 0 ≤ a) (hb : 1 ≤ b) (h : a * b ≤ c) : a ≤ c := by
  have : a * 1 ≤ a * b := Int.mul_le_mul_of_nonneg_left hb ha
  omega

theorem EInv.bn {m a g ng : Nat} {x nx : Int} (h : EInv m a g ng x nx) : -(m : Int) ≤ nx ∧ nx ≤ m := by
  have hg : 1 ≤ (g : Int) := by have := h.lt; omega
  rcases h.det with ⟨a1, a2, a3⟩ | ⟨a1, a2, a3⟩
  · have h1 : 0 ≤ x * ng := Int.mul_nonneg a1 (by omega)
    have := le_mul_pos (a := -nx) (b := g) (c := m) (by omega) hg (by rw [Int.neg_mul]; omega)
    omega
  · have h1 : 0 ≤ (-x) * ng := Int.mul_nonneg (by omega) (by omega)
    rw [Int.neg_mul] at h1
    have := le_mul_pos (a := nx) (b := g) (c := m) (by omega) hg (by omega)
    omega

theorem EInv.step {m a g ng : Nat} {x nx : Int} (h : EInv m a g ng x nx) (h0 : ng ≠ 0) : EInv m a ng (g % ng) nx (x - ((g / ng : Nat) : Int) * nx) := by
  have hd : g = ng * (g / ng) + g % ng := (Nat.div_add_mod g ng).symm
  have hdi : (g : Int) = (ng : Int) * ((g / ng : Nat) : Int) + ((g % ng : Nat) : Int) := by
    rw [← Int.natCast_mul, ← Int.natCast_add, ← hd]
  refine ⟨Nat.mod_lt _ (by omega), Nat.le_trans (Nat.le_of_lt h.lt) h.le, h.dn, ?_, ?_, ?_, h.bn⟩
  · obtain ⟨u, hu⟩ := h.dx
    obtain ⟨v, hv⟩ := h.dn
    refine ⟨u - v * ((g / ng : Nat) : Int), ?_⟩
    generalize ((g / ng : Nat) : Int) = q at *
    generalize ((g % ng : Nat) : Int) = r at *
    grind
  · have hq : 0 ≤ ((g / ng : Nat) : Int) := Int.natCast_nonneg _
    generalize ((g / ng : Nat) : Int) = q at *
    generalize ((g % ng : Nat) : Int) = r at *
    rcases h.det with ⟨a1, a2, a3⟩ | ⟨a1, a2, a3⟩
    · right
      have : q * nx ≤ 0 := Int.mul_nonpos_of_nonneg_of_nonpos hq a2
      refine ⟨a2, by omega, ?_⟩
      grind
    · left
      have : 0 ≤ q * nx := Int.mul_nonneg hq a2
      refine ⟨a2, by omega, ?_⟩
      grind
  · rw [← h.gcd]
    rw [Nat.gcd_comm g ng, Nat.gcd_comm ng (g % ng), ← Nat.gcd_rec]

/-- what the walk asks of a round: the product is small -/
theorem EInv.bq {m a g ng : Nat} {x nx : Int} (h : EInv m a g ng x nx) (h0 : ng ≠ 0) : -2 * (m : Int) ≤ ((g / ng : Nat) : Int) * nx ∧ ((g / ng : Nat) : Int) * nx ≤ 2 * m := by
  have h1 := (h.step h0).bn
  have h2 := h.sm
  omega

/-- the end -/
theorem EInv.stop {m a g : Nat} {x nx : Int} (h : EInv m a g 0 x nx) : g = Nat.gcd m a := by have := h.gcd; simpa using this

theorem eg_spec {m a : Nat} : ∀ (ng g : Nat) (x nx : Int), EInv m a g ng x nx → (eg g ng x nx).1 = Nat.gcd m a ∧ (m : Int) ∣ a * (eg g ng x nx).2 - (eg g ng x nx).1 := by
  intro ng
  induction ng using Nat.strongRecOn with
  | ind ng ih =>
    intro g x nx h
    by_cases h0 : ng = 0
    · subst h0; rw [eg_zero]; exact ⟨h.stop, h.dx⟩
    · rw [eg_step _ _ _ _ h0]
      exact ih _ (Nat.mod_lt _ (by omega)) _ _ _ (h.step h0)

/-! Orders -/
theorem pigeon (n : Nat) : ∀ f : Nat → Nat, (∀ i, i ≤ n → f i < n) → ∃ i j, i < j ∧ j ≤ n ∧ f i = f j := by
  induction n with
  | zero => intro f h; exact absurd (h 0 (Nat.le_refl _)) (by omega)
  | succ n ih =>
    intro f h
    by_cases hc : ∃ i, i ≤ n ∧ f i = f (n + 1)
    · obtain ⟨i, hi, e⟩ := hc
      exact ⟨i, n + 1, by omega, Nat.le_refl _, e⟩
    · have hne : ∀ i, i ≤ n → f i ≠ f (n + 1) := fun i hi e => hc ⟨i, hi, e⟩
      obtain ⟨i, j, h1, h2, h3⟩ := ih (fun i => if f i = n then f (n + 1) else f i) (by
        intro i hi
        have a1 := h i (by omega)
        have a2 := h (n + 1) (by omega)
        have a3 := hne i hi
        split <;> omega)
      refine ⟨i, j, h1, by omega, ?_⟩
      have a1 := hne i (by omega)
      have a2 := hne j h2
      split at h3 <;> split at h3 <;> omega

/-- the powers of a modulo m -/
def pwr (m a k : Nat) : Nat := a ^ k % m
theorem pwr_succ (m a k : Nat) : pwr m a (k + 1) = pwr m a k * a % m := by
  unfold pwr; rw [Nat.pow_succ, Nat.mod_mul_mod]
theorem pwr_lt (m a k : Nat) (h : 0 < m) : pwr m a k < m := Nat.mod_lt _ h
theorem pwr_one (m a : Nat) (h : a < m) : pwr m a 1 = a := by unfold pwr; rw [Nat.pow_one, Nat.mod_eq_of_lt h]

theorem ord_exists (m a : Nat) (hm : 1 < m) (hc : Nat.gcd m a = 1) : ∃ k, 1 ≤ k ∧ k ≤ m ∧ pwr m a k = 1 := by
  obtain ⟨i, j, h1, h2, h3⟩ := pigeon m (pwr m a) (fun i _ => pwr_lt m a i (by omega))
  refine ⟨j - i, by omega, by omega, ?_⟩
  unfold pwr at *
  have hle : a ^ i ≤ a ^ j := by
    by_cases h0 : a = 0
    · subst h0; rw [Nat.gcd_zero_right] at hc; omega
    · exact Nat.pow_le_pow_right (by omega) (by omega)
  have hd : m ∣ a ^ j - a ^ i := by
    refine ⟨a ^ j / m - a ^ i / m, ?_⟩
    have e1 := Nat.div_add_mod (a ^ i) m
    have e2 := Nat.div_add_mod (a ^ j) m
    rw [Nat.mul_sub]; omega
  have he : a ^ j - a ^ i = a ^ i * (a ^ (j - i) - 1) := by
    rw [Nat.mul_sub, ← Nat.pow_add, Nat.mul_one]; congr 2; omega
  rw [he] at hd
  have hcop : Nat.Coprime m (a ^ i) := Nat.Coprime.pow_right i hc
  have hd2 : m ∣ a ^ (j - i) - 1 := hcop.dvd_of_dvd_mul_left hd
  have hp : 1 ≤ a ^ (j - i) := by
    have : a ≠ 0 := by rintro rfl; rw [Nat.gcd_zero_right] at hc; omega
    exact Nat.pos_of_ne_zero (by simp [this])
  obtain ⟨q, hq⟩ := hd2
  have : a ^ (j - i) = 1 + m * q := by omega
  rw [this, Nat.add_mul_mod_self_left, Nat.mod_eq_of_lt hm]

/-- what the loop finds -/
def IsOrd (m a k : Nat) : Prop := 1 ≤ k ∧ pwr m a k = 1 ∧ ∀ j, 1 ≤ j → j < k → pwr m a j ≠ 1
theorem IsOrd.unique {m a k l : Nat} (h : IsOrd m a k) (h' : IsOrd m a l) : k = l := by
  rcases Nat.lt_trichotomy k l with c | c | c
  · exact absurd h.2.1 (h'.2.2 k h.1 c)
  · exact c
  · exact absurd h'.2.1 (h.2.2 l h'.1 c)

/-- the order, looked for from k on -/
def ordF (m a : Nat) : Nat → Nat → Nat
  | 0, k => k
  | f + 1, k => if pwr m a k = 1 then k else ordF m a f (k + 1)
def ordN (m a : Nat) : Nat := ordF m a m 1
theorem ordF_eq (m a k : Nat) (h : IsOrd m a k) : ∀ f j, 1 ≤ j → j ≤ k → k < j + f → ordF m a f j = k
  | 0, j, _, h2, h3 => by omega
  | f + 1, j, h1, h2, h3 => by
    rw [ordF]
    by_cases e : pwr m a j = 1
    · rw [if_pos e]
      apply Classical.byContradiction
      intro hne
      exact h.2.2 j h1 (by omega) e
    · rw [if_neg e]
      have : j ≠ k := by rintro rfl; exact e h.2.1
      exact ordF_eq m a k h f (j + 1) (by omega) (by omega) (by omega)
theorem ordN_eq (m a k : Nat) (h : IsOrd m a k) (hk : k ≤ m) : ordN m a = k := ordF_eq m a k h m 1 (Nat.le_refl _) h.1 (by omega)

/-! Powers by squaring -/
theorem pw_odd (m o s k : Nat) (h : k % 2 = 1) : (o * s % m) * (s * s % m) ^ (k / 2) % m = o * s ^ k % m := by
  have hk : k = 2 * (k / 2) + 1 := by omega
  have e : s ^ k = s * (s * s) ^ (k / 2) := by
    conv => lhs; rw [hk]
    rw [Nat.pow_succ, Nat.pow_mul, Nat.pow_two, Nat.mul_comm]
  rw [e, ← Nat.mul_assoc, Nat.mul_mod (o * s), Nat.pow_mod (s * s), Nat.mul_mod (o * s % m), Nat.mod_mod]
theorem pw_even (m o s k : Nat) (h : k % 2 = 0) : o * (s * s % m) ^ (k / 2) % m = o * s ^ k % m := by
  have hk : k = 2 * (k / 2) := by omega
  have e : s ^ k = (s * s) ^ (k / 2) := by
    conv => lhs; rw [hk]
    rw [Nat.pow_mul, Nat.pow_two]
  rw [e, Nat.mul_mod o ((s * s) ^ _), Nat.pow_mod (s * s), Nat.mul_mod o]

end Num
end Go.Proofs.Ytcnkpfikafaocaa
