/- Plain number theory: the order of a unit divides the number of units. No program in sight. -/
import Derived.Test.YtkhdbphdeabgnaaNum
import Derived.Test.YtkhdbphdeabgnaaFac
namespace Go.Proofs.Ytkhdbphdeabgnaa
namespace Num

theorem perm_of_mem : ∀ (l k : List Nat), l.Nodup → k.Nodup → (∀ x, x ∈ l ↔ x ∈ k) → l.Perm k
  | [], k, _, _, h => by
    have : k = [] := by
      rcases k with _ | ⟨a, t⟩
      · rfl
      · exact absurd ((h a).2 (by simp)) (by simp)
    rw [this]
  | a :: t, k, hl, hk, h => by
    have ha : a ∈ k := (h a).1 (by simp)
    obtain ⟨hat, ht⟩ := List.nodup_cons.1 hl
    have ih := perm_of_mem t (k.erase a) ht (hk.erase a) (fun x => by
      rw [List.Nodup.mem_erase_iff hk]
      constructor
      · intro hx
        exact ⟨fun e => hat (e ▸ hx), (h x).1 (by simp [hx])⟩
      · rintro ⟨hne, hx⟩
        have := (h x).2 hx
        simp [hne] at this
        exact this)
    exact (ih.cons a).trans (List.perm_cons_erase ha).symm

def prodL : List Nat → Nat
  | [] => 1
  | a :: t => a * prodL t
theorem prodL_perm {l k : List Nat} (h : l.Perm k) : prodL l = prodL k := by
  induction h with
  | nil => rfl
  | cons x _ ih => rw [prodL, prodL, ih]
  | swap x y l => simp only [prodL]; rw [← Nat.mul_assoc, ← Nat.mul_assoc, Nat.mul_comm x y]
  | trans _ _ ih1 ih2 => rw [ih1, ih2]
theorem prodL_map (m a : Nat) : ∀ l : List Nat, prodL (l.map fun u => a * u % m) % m = a ^ l.length * prodL l % m
  | [] => by simp [prodL]
  | u :: t => by
    rw [List.map_cons, prodL, prodL, List.length_cons, Nat.mul_mod, prodL_map m a t, Nat.mod_mod, ← Nat.mul_mod]
    congr 1
    rw [Nat.pow_succ]
    simp only [Nat.mul_assoc, Nat.mul_left_comm, Nat.mul_comm]
theorem prodL_cop (m : Nat) : ∀ l : List Nat, (∀ u ∈ l, Nat.Coprime m u) → Nat.Coprime m (prodL l)
  | [], _ => Nat.coprime_one_right m
  | u :: t, h => Nat.Coprime.mul_right (h u (by simp)) (prodL_cop m t (fun v hv => h v (by simp [hv])))

/-- the units modulo m -/
def unis (m : Nat) : List Nat := (List.range m).filter fun i => decide (Nat.gcd i m = 1)
theorem unis_mem (m u : Nat) : u ∈ unis m ↔ u < m ∧ Nat.gcd u m = 1 := by simp [unis]
theorem unis_nodup (m : Nat) : (unis m).Nodup := List.Pairwise.filter _ List.nodup_range
theorem cntP_len (f : Nat → Bool) : ∀ n, cntP f n = ((List.range n).filter f).length
  | 0 => rfl
  | n + 1 => by
    rw [List.range_succ, List.filter_append, List.length_append, cntP, cntP_len f n]
    rcases hf : f n with _ | _ <;> simp [hf]

theorem mod_cop {m x : Nat} (h : Nat.Coprime m x) : Nat.gcd (x % m) m = 1 := by rw [← Nat.gcd_rec]; exact h

theorem mul_perm (m a : Nat) (hm : 1 < m) (ha : Nat.gcd m a = 1) : ((unis m).map fun u => a * u % m).Perm (unis m) := by
  obtain ⟨k, k1, _, k3⟩ := ord_exists m a hm ha
  -- an inverse
  obtain ⟨b, hb⟩ : ∃ b, a * b % m = 1 := ⟨a ^ (k - 1), by
    have : a * a ^ (k - 1) = a ^ k := by
      conv => rhs; rw [show k = (k - 1) + 1 by omega, Nat.pow_succ]
      rw [Nat.mul_comm]
    rw [this]; exact k3⟩
  have hbm : Nat.gcd m b = 1 := by
    have h1 : Nat.gcd m b ∣ a * b := Nat.dvd_trans (Nat.gcd_dvd_right _ _) (Nat.dvd_mul_left _ _)
    have h2 : Nat.gcd m b ∣ a * b % m := (Nat.dvd_mod_iff (Nat.gcd_dvd_left m b)).2 h1
    rw [hb] at h2
    exact Nat.eq_one_of_dvd_one h2
  have inv : ∀ u, u < m → b * (a * u % m) % m = u := fun u hu => by
    rw [Nat.mul_mod_mod, ← Nat.mul_assoc, Nat.mul_comm b a, ← Nat.mod_mul_mod, hb, Nat.one_mul, Nat.mod_eq_of_lt hu]
  refine perm_of_mem _ _ ?_ (unis_nodup m) (fun x => ?_)
  · unfold List.Nodup
    rw [List.pairwise_map]
    refine List.Pairwise.imp_of_mem ?_ (unis_nodup m)
    intro u v hu hv hne e
    apply hne
    rw [← inv u ((unis_mem m u).1 hu).1, ← inv v ((unis_mem m v).1 hv).1, e]
  · rw [List.mem_map, unis_mem]
    constructor
    · rintro ⟨u, hu, rfl⟩
      obtain ⟨h1, h2⟩ := (unis_mem m u).1 hu
      exact ⟨Nat.mod_lt _ (by omega), mod_cop (Nat.Coprime.mul_right ha (by rw [Nat.Coprime, Nat.gcd_comm]; exact h2))⟩
    · rintro ⟨h1, h2⟩
      refine ⟨b * x % m, (unis_mem m _).2 ⟨Nat.mod_lt _ (by omega), mod_cop (Nat.Coprime.mul_right hbm (by rw [Nat.Coprime, Nat.gcd_comm]; exact h2))⟩, ?_⟩
      rw [Nat.mul_mod_mod, ← Nat.mul_assoc, ← Nat.mod_mul_mod, hb, Nat.one_mul, Nat.mod_eq_of_lt h1]

theorem euler (m a : Nat) (hm : 1 < m) (ha : Nat.gcd m a = 1) : a ^ (unis m).length % m = 1 := by
  have h1 := prodL_perm (mul_perm m a hm ha)
  have h2 := prodL_map m a (unis m)
  rw [h1] at h2
  have hc : Nat.Coprime m (prodL (unis m)) := prodL_cop m _ (fun u hu => by
    rw [Nat.Coprime, Nat.gcd_comm]; exact ((unis_mem m u).1 hu).2)
  generalize prodL (unis m) = P at *
  generalize (unis m).length = n at *
  have hpos : 1 ≤ a ^ n := by
    have : a ≠ 0 := by rintro rfl; rw [Nat.gcd_zero_right] at ha; omega
    exact Nat.pos_of_ne_zero (by simp [this])
  have hd : m ∣ P * (a ^ n - 1) := by
    have e1 := Nat.div_add_mod P m
    have e2 := Nat.div_add_mod (a ^ n * P) m
    rw [Nat.mul_sub, Nat.mul_one, Nat.mul_comm P]
    refine ⟨a ^ n * P / m - P / m, ?_⟩
    rw [Nat.mul_sub]; omega
  have h3 : m ∣ a ^ n - 1 := hc.dvd_of_dvd_mul_left hd
  obtain ⟨q, hq⟩ := h3
  have : a ^ n = 1 + m * q := by omega
  rw [this, Nat.add_mul_mod_self_left, Nat.mod_eq_of_lt hm]

/-- the order of a unit divides the number of units -/
theorem ord_dvd (m a k : Nat) (hm : 1 < m) (ha : Nat.gcd m a = 1) (hk : IsOrd m a k) : cntP (fun i => decide (Nat.gcd i m = 1)) m % k = 0 := by
  rw [cntP_len]
  have he := euler m a hm ha
  unfold unis at he
  generalize ((List.range m).filter fun i => decide (Nat.gcd i m = 1)).length = n at *
  have hd := Nat.div_add_mod n k
  have hr := Nat.mod_lt n (show 0 < k by have := hk.1; omega)
  generalize n % k = r at *
  generalize n / k = q at *
  rw [← hd, Nat.pow_add, Nat.pow_mul, Nat.mul_mod, Nat.pow_mod (a ^ k)] at he
  have h1 : a ^ k % m = 1 := hk.2.1
  rw [h1, Nat.one_pow, Nat.mod_eq_of_lt hm, Nat.one_mul, Nat.mod_mod] at he
  apply Classical.byContradiction
  intro hne
  exact hk.2.2 r (by omega) hr he

end Num
end Go.Proofs.Ytkhdbphdeabgnaa
