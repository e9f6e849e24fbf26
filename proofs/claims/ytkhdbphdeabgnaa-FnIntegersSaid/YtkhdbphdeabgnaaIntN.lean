/- Plain number theory for the law of integers: exponents are valuations, products of powers, divisors of binomial numbers. No program in sight. -/
import Derived.Test.YtkhdbphdeabgnaaFac
import Derived.Test.YtkhdbphdeabgnaaBinN
import Derived.Test.YtkhdbphdeabgnaaPrm
namespace Go.Proofs.Ytkhdbphdeabgnaa
namespace Num

theorem takeN_uniq (p : Nat) (hp : 2 ≤ p) : ∀ (k r : Nat), 1 ≤ r → ¬ p ∣ r → takeN p (p ^ k * r) = (k, r)
  | 0, r, h1, h2 => by
    rw [Nat.pow_zero, Nat.one_mul, takeN_no p r (fun h => h2 (Nat.dvd_of_mod_eq_zero h))]
  | k + 1, r, h1, h2 => by
    have e : p ^ (k + 1) * r = p * (p ^ k * r) := by rw [Nat.pow_succ, Nat.mul_comm (p ^ k) p, Nat.mul_assoc]
    have hpos : 1 ≤ p ^ k * r := Nat.mul_pos (Nat.pow_pos (by omega)) h1
    rw [e, takeN_yes p _ hp (Nat.mul_pos (by omega) hpos) (Nat.mul_mod_right p _), Nat.mul_div_cancel_left _ (by omega), takeN_uniq p hp k r h1 h2]

theorem fz_val : ∀ (k p n : Nat), n + 1 - p ≤ k → 2 ≤ p → 1 ≤ n → Low p n → ∀ x ∈ fz p n, ∃ r, 1 ≤ r ∧ n = x.1 ^ x.2 * r ∧ ¬ x.1 ∣ r := by
  intro k
  induction k with
  | zero =>
    intro p n hk hp hn hl x hx
    have : n < p * p := by
      have := Nat.mul_le_mul_left p (show 1 ≤ p by omega)
      omega
    rw [fz_end p n this] at hx
    by_cases h1 : 1 < n
    · rw [if_pos h1] at hx
      simp at hx; subst hx
      exact ⟨1, Nat.le_refl _, by simp, fun h => by have := Nat.le_of_dvd (by omega) h; omega⟩
    · rw [if_neg h1] at hx; simp at hx
  | succ k ih =>
    intro p n hk hp hn hl x hx
    by_cases hpp : p * p ≤ n
    · have hpn : p ≤ n := by have := Nat.mul_le_mul_left p (show 1 ≤ p by omega); omega
      obtain ⟨a, b, c, d⟩ := takeN_spec p hp n hn
      rw [fz_go p n hp hn hpp] at hx
      rcases List.mem_append.1 hx with hx | hx
      · by_cases hk0 : 0 < (takeN p n).1
        · rw [if_pos hk0] at hx
          simp at hx; subst hx
          exact ⟨_, b, a, d⟩
        · rw [if_neg hk0] at hx; simp at hx
      · have hl' := hl.next hp hn
        obtain ⟨r, r1, r2, r3⟩ := ih (p + 1) (takeN p n).2 (by omega) (by omega) b hl' x hx
        have hsp := (fz_spec _ (p + 1) (takeN p n).2 (Nat.le_refl _) (by omega) b hl').1 x hx
        refine ⟨p ^ (takeN p n).1 * r, Nat.mul_pos (Nat.pow_pos (by omega)) r1, ?_, ?_⟩
        · rw [Nat.mul_left_comm, ← r2]; exact a
        · intro hd
          by_cases hk0 : 0 < (takeN p n).1
          · have hpr := hl.prime hp ((takeN_pos p n hp hn).1 hk0)
            have hcop : Nat.Coprime x.1 (p ^ (takeN p n).1) := Nat.Coprime.pow_right _ (hsp.2.1.cop2 hpr (by omega))
            exact r3 (hcop.dvd_of_dvd_mul_left hd)
          · have e0 : (takeN p n).1 = 0 := by omega
            rw [e0, Nat.pow_zero, Nat.one_mul] at hd
            exact r3 hd
    · rw [fz_end p n (by omega)] at hx
      by_cases h1 : 1 < n
      · rw [if_pos h1] at hx
        simp at hx; subst hx
        exact ⟨1, Nat.le_refl _, by simp, fun h => by have := Nat.le_of_dvd (by omega) h; omega⟩
      · rw [if_neg h1] at hx; simp at hx

/-- the product of powers -/
def prodF : List (Nat × Nat) → Nat
  | [] => 1
  | x :: t => x.1 ^ x.2 * prodF t
theorem prodF_append : ∀ a b : List (Nat × Nat), prodF (a ++ b) = prodF a * prodF b
  | [], b => by simp [prodF]
  | x :: t, b => by rw [List.cons_append, prodF, prodF, prodF_append t b, Nat.mul_assoc]
theorem fz_prod : ∀ (k p n : Nat), n + 1 - p ≤ k → 2 ≤ p → 1 ≤ n → prodF (fz p n) = n := by
  intro k
  induction k with
  | zero =>
    intro p n hk hp hn
    have : n < p * p := by
      have := Nat.mul_le_mul_left p (show 1 ≤ p by omega)
      omega
    rw [fz_end p n this]
    by_cases h1 : 1 < n
    · rw [if_pos h1]; simp [prodF]
    · rw [if_neg h1]; simp [prodF]; omega
  | succ k ih =>
    intro p n hk hp hn
    by_cases hpp : p * p ≤ n
    · have hpn : p ≤ n := by have := Nat.mul_le_mul_left p (show 1 ≤ p by omega); omega
      obtain ⟨a, b, c, d⟩ := takeN_spec p hp n hn
      rw [fz_go p n hp hn hpp, prodF_append, ih (p + 1) _ (by omega) (by omega) b]
      by_cases hk0 : 0 < (takeN p n).1
      · rw [if_pos hk0]; simp only [prodF, Nat.mul_one]; exact a.symm
      · rw [if_neg hk0]
        have e0 : (takeN p n).1 = 0 := by omega
        rw [e0, Nat.pow_zero, Nat.one_mul] at a
        simp only [prodF, Nat.one_mul]; exact a.symm
    · rw [fz_end p n (by omega)]
      by_cases h1 : 1 < n
      · rw [if_pos h1]; simp [prodF]
      · rw [if_neg h1]; simp [prodF]; omega
theorem prB_of_Pr {p : Nat} (h : Pr p) : prB (p : Int) = true := by
  refine (prB_iff _).2 ⟨by have := h.1; omega, fun d h1 h2 h3 => ?_⟩
  rcases h.2 d (Int.natCast_dvd_natCast.1 h3) with e | e <;> omega

/-- all that the law asks of a row of the prime factors -/
theorem fz_row (N : Nat) (hN : 1 ≤ N) (x : Nat × Nat) (hx : x ∈ fz 2 N) : 2 ≤ x.1 ∧ x.1 ≤ N ∧ prB (x.1 : Int) = true ∧ takeN x.1 N = (x.2, (takeN x.1 N).2) := by
  obtain ⟨_, h2, h3, _⟩ := (fz_spec _ 2 N (Nat.le_refl _) (by omega) hN (low_two N)).1 x hx
  obtain ⟨r, r1, r2, r3⟩ := fz_val _ 2 N (Nat.le_refl _) (by omega) hN (low_two N) x hx
  refine ⟨h2.1, Nat.le_of_dvd (by omega) h3, prB_of_Pr h2, ?_⟩
  have := takeN_uniq x.1 h2.1 x.2 r r1 r3
  rw [← r2] at this
  rw [this]
theorem fz_take (N : Nat) (hN : 1 ≤ N) (j : Nat) (x : Nat × Nat) (hx : (fz 2 N)[j]? = some x) :
    prodF ((fz 2 N).take (j + 1)) = prodF ((fz 2 N).take j) * x.1 ^ x.2 ∧ ∀ t, t ≤ x.2 → 1 ≤ prodF ((fz 2 N).take j) * x.1 ^ t ∧ prodF ((fz 2 N).take j) * x.1 ^ t ≤ N := by
  have hj : j < (fz 2 N).length := (List.getElem?_eq_some_iff.1 hx).1
  have hxe : (fz 2 N)[j] = x := (List.getElem?_eq_some_iff.1 hx).2
  have hp := (fz_row N hN x (List.mem_of_getElem? hx)).1
  have e1 : prodF ((fz 2 N).take (j + 1)) = prodF ((fz 2 N).take j) * x.1 ^ x.2 := by
    rw [List.take_succ_eq_append_getElem hj, prodF_append, hxe]
    simp [prodF]
  have e2 : prodF ((fz 2 N).take (j + 1)) * prodF ((fz 2 N).drop (j + 1)) = N := by
    rw [← prodF_append, List.take_append_drop]
    exact fz_prod _ 2 N (Nat.le_refl _) (by omega) hN
  refine ⟨e1, fun t ht => ?_⟩
  rw [e1] at e2
  have hD : prodF ((fz 2 N).take j) ≠ 0 := by intro h; rw [h] at e2; simp at e2; omega
  have hE : prodF ((fz 2 N).drop (j + 1)) ≠ 0 := by intro h; rw [h] at e2; simp at e2; omega
  have hpt : 1 ≤ x.1 ^ t := Nat.pow_pos (by omega)
  refine ⟨Nat.mul_pos (Nat.pos_of_ne_zero hD) hpt, ?_⟩
  have h1 : x.1 ^ t ≤ x.1 ^ x.2 := Nat.pow_le_pow_right (by omega) ht
  calc prodF ((fz 2 N).take j) * x.1 ^ t ≤ prodF ((fz 2 N).take j) * x.1 ^ x.2 := Nat.mul_le_mul_left _ h1
    _ ≤ prodF ((fz 2 N).take j) * x.1 ^ x.2 * prodF ((fz 2 N).drop (j + 1)) := Nat.le_mul_of_pos_right _ (Nat.pos_of_ne_zero hE)
    _ = N := e2

/-! the divisors of binomial numbers, by reckoning -/
def takeF : Nat → Nat → Nat → Nat × Nat
  | 0, _, n => (0, n)
  | f + 1, p, n => if 2 ≤ p ∧ 1 ≤ n ∧ n % p = 0 then ((takeF f p (n / p)).1 + 1, (takeF f p (n / p)).2) else (0, n)
theorem takeF_eq : ∀ (f p n : Nat), n ≤ f → takeF f p n = takeN p n
  | 0, p, n, h => by
    obtain rfl : n = 0 := by omega
    rw [takeF, takeN]; simp
  | f + 1, p, n, h => by
    rw [takeF]
    by_cases hc : 2 ≤ p ∧ 1 ≤ n ∧ n % p = 0
    · have := Nat.div_lt_self (show 0 < n by omega) (show 1 < p by omega)
      rw [if_pos hc, takeN_yes p n hc.1 hc.2.1 hc.2.2, takeF_eq f p (n / p) (by omega)]
    · rw [if_neg hc, takeN, dif_neg hc]
def fzF : Nat → Nat → Nat → List (Nat × Nat)
  | 0, _, n => if 1 < n then [(n, 1)] else []
  | f + 1, p, n => if 2 ≤ p ∧ 1 ≤ n ∧ p * p ≤ n then (if 0 < (takeF n p n).1 then [(p, (takeF n p n).1)] else []) ++ fzF f (p + 1) (takeF n p n).2
    else if 1 < n then [(n, 1)] else []
theorem fzF_eq : ∀ (f p n : Nat), n + 1 - p ≤ f → 2 ≤ p → 1 ≤ n → fzF f p n = fz p n
  | 0, p, n, h, hp, hn => by
    have : n < p * p := by
      have := Nat.mul_le_mul_left p (show 1 ≤ p by omega)
      omega
    rw [fzF, fz_end p n this]
  | f + 1, p, n, h, hp, hn => by
    rw [fzF]
    by_cases hc : p * p ≤ n
    · have hpn : p ≤ n := by have := Nat.mul_le_mul_left p (show 1 ≤ p by omega); omega
      obtain ⟨a, b, c, d⟩ := takeN_spec p hp n hn
      rw [if_pos ⟨hp, hn, hc⟩, fz_go p n hp hn hc, takeF_eq n p n (Nat.le_refl _), fzF_eq f (p + 1) _ (by omega) (by omega) b]
    · rw [if_neg (fun h => hc h.2.2), fz_end p n (by omega)]
/-- the greatest common divisor of the first numbers of a row -/
def gzR (r : List Nat) : Nat → Nat
  | 0 => 0
  | k + 1 => Nat.gcd (gzR r k) (r[k + 1]?.getD 0)
def chk (d : Nat) : Bool := match fzF 61 2 d with
  | [] => false
  | [x] => gzR (rowL d) (d - 1) == x.1
  | _ => gzR (rowL d) (d - 1) == 1
theorem chk_all : (List.range 61).all (fun d => decide (d < 2) || chk d) = true := by decide +kernel
theorem chk_at {d : Nat} (h1 : 2 ≤ d) (h2 : d ≤ 60) : chk d = true := by
  have := List.all_eq_true.1 chk_all d (List.mem_range.2 (by omega))
  simp at this
  rcases this with h | h
  · omega
  · exact h
theorem gz_facts {d : Nat} (h1 : 2 ≤ d) (h2 : d ≤ 60) : ∃ x t, fz 2 d = x :: t ∧ (t = [] → gzR (rowL d) (d - 1) = x.1) ∧ (t ≠ [] → gzR (rowL d) (d - 1) = 1) := by
  have h := chk_at h1 h2
  unfold chk at h
  rw [fzF_eq 61 2 d (by omega) (by omega) (by omega)] at h
  rcases hf : fz 2 d with _ | ⟨x, t⟩
  · rw [hf] at h; simp at h
  · refine ⟨x, t, rfl, fun ht => ?_, fun ht => ?_⟩
    · subst ht; rw [hf] at h; simpa using h
    · rw [hf] at h
      rcases t with _ | ⟨y, t⟩
      · exact absurd rfl ht
      · simpa using h

end Num
end Go.Proofs.Ytkhdbphdeabgnaa
