/- Plain number theory: no program in sight. Counting units; prime factors. -/
namespace Go.Proofs.Ytkhdbphdeabgnaa
namespace Num

def cntP (f : Nat → Bool) : Nat → Nat
  | 0 => 0
  | n + 1 => cntP f n + if f n then 1 else 0
theorem cntP_congr (f g : Nat → Bool) : ∀ n, (∀ i, i < n → f i = g i) → cntP f n = cntP g n
  | 0, _ => rfl
  | n + 1, h => by
    rw [cntP, cntP, cntP_congr f g n (fun i hi => h i (by omega)), h n (by omega)]
theorem cntP_add (f : Nat → Bool) (a : Nat) : ∀ b, cntP f (a + b) = cntP f a + cntP (fun i => f (a + i)) b
  | 0 => rfl
  | b + 1 => by
    rw [← Nat.add_assoc, cntP, cntP, cntP_add f a b]; omega
theorem cntP_le (f : Nat → Bool) : ∀ n, cntP f n ≤ n
  | 0 => Nat.le_refl _
  | n + 1 => by
    have := cntP_le f n
    rw [cntP]; split <;> omega
theorem cntP_split (f g : Nat → Bool) : ∀ n, cntP f n = cntP (fun i => f i && !g i) n + cntP (fun i => f i && g i) n
  | 0 => rfl
  | n + 1 => by
    rw [cntP, cntP, cntP, cntP_split f g n]
    cases f n <;> cases g n <;> simp <;> omega
theorem cntP_period (f : Nat → Bool) (l : Nat) (h : ∀ i, f (l + i) = f i) : ∀ k, cntP f (k * l) = k * cntP f l
  | 0 => by simp [cntP]
  | k + 1 => by
    have e : (k + 1) * l = l + k * l := by rw [Nat.add_mul]; omega
    rw [e, cntP_add, cntP_congr (fun i => f (l + i)) f _ (fun i _ => h i), cntP_period f l h k, Nat.add_mul]; omega
theorem cntP_none (f : Nat → Bool) : ∀ n, (∀ i, i < n → f i = false) → cntP f n = 0
  | 0, _ => rfl
  | n + 1, h => by
    rw [cntP, cntP_none f n (fun i hi => h i (by omega)), h n (by omega)]; rfl
theorem cntP_mult (f : Nat → Bool) (p : Nat) (hp : 0 < p) : ∀ l, cntP (fun i => f i && decide (p ∣ i)) (p * l) = cntP (fun b => f (p * b)) l
  | 0 => rfl
  | l + 1 => by
    have e : p * (l + 1) = p * l + (1 + (p - 1)) := by rw [Nat.mul_add]; omega
    rw [e, cntP_add, cntP_mult f p hp l, cntP_add, cntP_none (fun i => _) (p - 1), cntP]
    · simp [cntP, Nat.dvd_mul_right]
    · intro i hi
      have : ¬ p ∣ p * l + (1 + i) := by
        rw [Nat.dvd_add_right (Nat.dvd_mul_right _ _)]
        intro hd
        have := Nat.le_of_dvd (by omega) hd
        omega
      simp [this]

def Pr (p : Nat) : Prop := 2 ≤ p ∧ ∀ d, d ∣ p → d = 1 ∨ d = p
theorem Pr.cop {p a : Nat} (h : Pr p) (hn : ¬ p ∣ a) : Nat.gcd p a = 1 := by
  rcases h.2 _ (Nat.gcd_dvd_left p a) with e | e
  · exact e
  · exact absurd (e ▸ Nat.gcd_dvd_right p a) hn
theorem Pr.cop2 {p q : Nat} (h : Pr p) (hq : Pr q) (hn : p ≠ q) : Nat.gcd p q = 1 := by
  apply h.cop
  intro hd
  rcases hq.2 _ hd with e | e
  · have := h.1; omega
  · exact hn e

/-- no number of the list divides a -/
def okL (ps : List Nat) (a : Nat) : Bool := ps.all fun p => !decide (p ∣ a)
theorem okL_iff (ps : List Nat) (a : Nat) : okL ps a = true ↔ ∀ p ∈ ps, ¬ p ∣ a := by simp [okL]

theorem phi_step (m p : Nat) (ps : List Nat) (hp : Pr p) (hm : p ∣ m) (hps : ∀ q ∈ ps, Pr q ∧ q ∣ m ∧ q ≠ p) :
    cntP (okL (ps ++ [p])) m = cntP (okL ps) m - cntP (okL ps) m / p := by
  obtain ⟨l, rfl⟩ := hm
  have h2 := hp.1
  have hper : ∀ i, okL ps (l + i) = okL ps i := by
    intro i
    rw [Bool.eq_iff_iff, okL_iff, okL_iff]
    have hq : ∀ q ∈ ps, q ∣ l := by
      intro q hq
      obtain ⟨a, b, c⟩ := hps q hq
      exact Nat.Coprime.dvd_of_dvd_mul_left (k := q) (m := p) (a.cop2 hp c) b
    constructor
    · intro h q hq' hd
      exact h q hq' ((Nat.dvd_add_right (hq q hq')).2 hd)
    · intro h q hq' hd
      exact h q hq' ((Nat.dvd_add_right (hq q hq')).1 hd)
  have hmul : ∀ b, okL ps (p * b) = okL ps b := by
    intro b
    rw [Bool.eq_iff_iff, okL_iff, okL_iff]
    constructor
    · intro h q hq hd
      exact h q hq (Nat.dvd_trans hd (Nat.dvd_mul_left _ _))
    · intro h q hq hd
      obtain ⟨a, b', c⟩ := hps q hq
      exact h q hq (Nat.Coprime.dvd_of_dvd_mul_left (a.cop2 hp c) hd)
  have e1 : cntP (okL ps) (p * l) = p * cntP (okL ps) l := cntP_period _ l hper p
  have e2 := cntP_split (okL ps) (fun i => decide (p ∣ i)) (p * l)
  have e3 := cntP_mult (okL ps) p (by omega) l
  rw [cntP_congr (fun b => okL ps (p * b)) (okL ps) l (fun i _ => hmul i)] at e3
  have e4 : cntP (okL (ps ++ [p])) (p * l) = cntP (fun i => okL ps i && !decide (p ∣ i)) (p * l) :=
    cntP_congr _ _ _ (fun i _ => by simp [okL])
  have e5 : cntP (okL ps) (p * l) / p = cntP (okL ps) l := by rw [e1, Nat.mul_div_cancel_left _ (by omega)]
  omega

/-- the fold of CountUnits over the primes -/
def phiF (c : Nat) : List Nat → Nat
  | [] => c
  | p :: ps => phiF (c - c / p) ps
theorem phi_all (m : Nat) : ∀ (qs ps : List Nat), (∀ q ∈ ps ++ qs, Pr q ∧ q ∣ m) → (ps ++ qs).Nodup → phiF (cntP (okL ps) m) qs = cntP (okL (ps ++ qs)) m
  | [], ps, _, _ => by simp [phiF]
  | p :: qs, ps, h, hn => by
    have e : ps ++ p :: qs = (ps ++ [p]) ++ qs := by simp
    have hstep := phi_step m p ps (h p (by simp)).1 (h p (by simp)).2 (fun q hq => ⟨(h q (by simp [hq])).1, (h q (by simp [hq])).2, by
      rintro rfl
      rw [e, List.nodup_append] at hn
      have := hn.1
      rw [List.nodup_append] at this
      exact this.2.2 q hq q (by simp) rfl⟩)
    rw [phiF, ← hstep, e]
    exact phi_all m qs (ps ++ [p]) (by rw [← e]; exact h) (by rw [← e]; exact hn)
theorem cntP_true (m : Nat) : cntP (okL []) m = m := by
  induction m with
  | zero => rfl
  | succ n ih => rw [cntP, ih]; simp [okL]

/-- dividing by p as often as possible: how often, and what is left -/
def takeN (p n : Nat) : Nat × Nat :=
  if _h : 2 ≤ p ∧ 1 ≤ n ∧ n % p = 0 then ((takeN p (n / p)).1 + 1, (takeN p (n / p)).2) else (0, n)
termination_by n
decreasing_by all_goals exact Nat.div_lt_self (by omega) (by omega)
theorem takeN_yes (p n : Nat) (hp : 2 ≤ p) (hn : 1 ≤ n) (h : n % p = 0) : takeN p n = ((takeN p (n / p)).1 + 1, (takeN p (n / p)).2) := by
  rw [takeN]; simp [hp, hn, h]
theorem takeN_no (p n : Nat) (h : n % p ≠ 0) : takeN p n = (0, n) := by rw [takeN]; simp [h]

theorem takeN_spec (p : Nat) (hp : 2 ≤ p) : ∀ n, 1 ≤ n → n = p ^ (takeN p n).1 * (takeN p n).2 ∧ 1 ≤ (takeN p n).2 ∧ (takeN p n).2 ≤ n ∧ ¬ p ∣ (takeN p n).2 := by
  intro n
  induction n using Nat.strongRecOn with
  | ind n ih =>
    intro hn
    by_cases h : n % p = 0
    · have hd : p * (n / p) = n := by have := Nat.div_add_mod n p; omega
      have hq : 1 ≤ n / p := by
        apply Nat.pos_of_ne_zero
        intro h0; rw [h0] at hd; omega
      obtain ⟨a, b, c, d⟩ := ih (n / p) (Nat.div_lt_self (by omega) (by omega)) hq
      rw [takeN_yes p n hp hn h]
      have hle : n / p ≤ n := Nat.div_le_self _ _
      refine ⟨?_, b, by dsimp only; omega, d⟩
      dsimp only
      rw [Nat.pow_succ, Nat.mul_comm (p ^ _) p, Nat.mul_assoc, ← a, hd]
    · rw [takeN_no p n h]
      exact ⟨by simp, hn, Nat.le_refl _, fun hd => h (Nat.mod_eq_zero_of_dvd hd)⟩
theorem takeN_pos (p n : Nat) (hp : 2 ≤ p) (hn : 1 ≤ n) : 0 < (takeN p n).1 ↔ p ∣ n := by
  constructor
  · intro h
    obtain ⟨a, _⟩ := takeN_spec p hp n hn
    rw [a]
    obtain ⟨k, hk⟩ : ∃ k, (takeN p n).1 = k + 1 := ⟨(takeN p n).1 - 1, by omega⟩
    rw [hk, Nat.pow_succ, Nat.mul_assoc, Nat.mul_comm]
    exact ⟨_, by rw [Nat.mul_assoc, Nat.mul_left_comm]⟩
  · intro h
    rw [takeN_yes p n hp hn (Nat.mod_eq_zero_of_dvd h)]
    exact Nat.succ_pos _

/-- the prime factors of n from p on -/
def fz (p n : Nat) : List (Nat × Nat) :=
  if _h : 2 ≤ p ∧ 1 ≤ n ∧ p * p ≤ n then (if 0 < (takeN p n).1 then [(p, (takeN p n).1)] else []) ++ fz (p + 1) (takeN p n).2
  else if 1 < n then [(n, 1)] else []
termination_by n + 1 - p
decreasing_by
  have h1 := takeN_spec p _h.1 n _h.2.1
  have h2 : p ≤ n := by
    have := Nat.mul_le_mul_left p (show 1 ≤ p by omega)
    omega
  omega
theorem fz_go (p n : Nat) (hp : 2 ≤ p) (hn : 1 ≤ n) (h : p * p ≤ n) :
    fz p n = (if 0 < (takeN p n).1 then [(p, (takeN p n).1)] else []) ++ fz (p + 1) (takeN p n).2 := by
  rw [fz]; simp [hp, hn, h]
theorem fz_end (p n : Nat) (h : n < p * p) : fz p n = if 1 < n then [(n, 1)] else [] := by
  rw [fz]; simp [show ¬ p * p ≤ n by omega]

/-- no divisor of n lies below p -/
def Low (p n : Nat) : Prop := ∀ d, 2 ≤ d → d < p → ¬ d ∣ n
theorem Low.prime {p n : Nat} (h : Low p n) (hp : 2 ≤ p) (hd : p ∣ n) : Pr p := by
  refine ⟨hp, fun d h1 => ?_⟩
  have hle := Nat.le_of_dvd (by omega) h1
  have h0 : d ≠ 0 := by rintro rfl; rw [Nat.zero_dvd] at h1; omega
  by_cases e1 : d = 1
  · exact .inl e1
  · by_cases e2 : d = p
    · exact .inr e2
    · exact absurd (Nat.dvd_trans h1 hd) (h d (by omega) (by omega))
theorem Low.last {p n : Nat} (h : Low p n) (hn : 2 ≤ n) (hl : n < p * p) : Pr n := by
  refine ⟨hn, fun d h1 => ?_⟩
  obtain ⟨c, rfl⟩ := h1
  have hd0 : d ≠ 0 := by rintro rfl; omega
  have hc0 : c ≠ 0 := by rintro rfl; omega
  by_cases e1 : d = 1
  · exact .inl e1
  · by_cases e2 : c = 1
    · right; subst e2; omega
    · exfalso
      have a1 : p ≤ d := by
        refine Nat.le_of_not_lt fun hlt => h d (by omega) hlt (Nat.dvd_mul_right _ _)
      have a2 : p ≤ c := by
        refine Nat.le_of_not_lt fun hlt => h c (by omega) hlt (Nat.dvd_mul_left _ _)
      have := Nat.mul_le_mul a1 a2
      omega
theorem Low.next {p n : Nat} (h : Low p n) (hp : 2 ≤ p) (hn : 1 ≤ n) : Low (p + 1) (takeN p n).2 := by
  obtain ⟨a, b, c, d⟩ := takeN_spec p hp n hn
  intro e h1 h2 h3
  by_cases e1 : e = p
  · subst e1; exact d h3
  · exact h e h1 (by omega) (by rw [a]; exact Nat.dvd_trans h3 (Nat.dvd_mul_left _ _))

theorem fz_spec : ∀ (k p n : Nat), n + 1 - p ≤ k → 2 ≤ p → 1 ≤ n → Low p n →
    (∀ x ∈ fz p n, p ≤ x.1 ∧ Pr x.1 ∧ x.1 ∣ n ∧ 1 ≤ x.2) ∧ ((fz p n).map (·.1)).Nodup ∧ (∀ d, 2 ≤ d → d ∣ n → ∃ x ∈ fz p n, x.1 ∣ d) := by
  intro k
  induction k with
  | zero =>
    intro p n hk hp hn hl
    have : n < p * p := by
      have := Nat.mul_le_mul_left p (show 1 ≤ p by omega)
      omega
    rw [fz_end p n this]
    by_cases h1 : 1 < n
    · rw [if_pos h1]
      have hpn : p ≤ n := Nat.le_of_not_lt fun hlt => hl n (by omega) hlt (Nat.dvd_refl _)
      omega
    · rw [if_neg h1]
      refine ⟨by simp, by simp, fun d h2 h3 => ?_⟩
      have := Nat.le_of_dvd (by omega) h3
      omega
  | succ k ih =>
    intro p n hk hp hn hl
    by_cases hpp : p * p ≤ n
    · have hpn : p ≤ n := by
        have := Nat.mul_le_mul_left p (show 1 ≤ p by omega)
        omega
      obtain ⟨a, b, c, d⟩ := takeN_spec p hp n hn
      obtain ⟨i1, i2, i3⟩ := ih (p + 1) (takeN p n).2 (by omega) (by omega) b (hl.next hp hn)
      rw [fz_go p n hp hn hpp]
      have hdv : (takeN p n).2 ∣ n := ⟨p ^ (takeN p n).1, by rw [Nat.mul_comm]; exact a⟩
      by_cases hk0 : 0 < (takeN p n).1
      · have hpd := (takeN_pos p n hp hn).1 hk0
        have hpr := hl.prime hp hpd
        rw [if_pos hk0]
        refine ⟨?_, ?_, ?_⟩
        · intro x hx
          simp only [List.cons_append, List.nil_append, List.mem_cons] at hx
          rcases hx with rfl | hx
          · exact ⟨Nat.le_refl _, hpr, hpd, hk0⟩
          · obtain ⟨j1, j2, j3, j4⟩ := i1 x hx
            exact ⟨by omega, j2, Nat.dvd_trans j3 hdv, j4⟩
        · simp only [List.cons_append, List.nil_append, List.map_cons, List.nodup_cons]
          refine ⟨?_, i2⟩
          intro hm
          simp only [List.mem_map] at hm
          obtain ⟨x, hx, e⟩ := hm
          have := (i1 x hx).1
          omega
        · intro e h1 h2
          by_cases hpe : p ∣ e
          · exact ⟨(p, (takeN p n).1), by simp, hpe⟩
          · have hcop : Nat.Coprime e (p ^ (takeN p n).1) := Nat.Coprime.pow_right _ (by
              have := hpr.cop hpe
              rw [Nat.Coprime, Nat.gcd_comm]; exact this)
            obtain ⟨x, hx, hxd⟩ := i3 e h1 (hcop.dvd_of_dvd_mul_left (a ▸ h2))
            exact ⟨x, by simp [hx], hxd⟩
      · rw [if_neg hk0, List.nil_append]
        have e0 : (takeN p n).1 = 0 := by omega
        rw [e0, Nat.pow_zero, Nat.one_mul] at a
        refine ⟨fun x hx => ?_, i2, fun e h1 h2 => i3 e h1 (a ▸ h2)⟩
        obtain ⟨j1, j2, j3, j4⟩ := i1 x hx
        exact ⟨by omega, j2, Nat.dvd_trans j3 hdv, j4⟩
    · rw [fz_end p n (by omega)]
      by_cases h1 : 1 < n
      · have hpr := hl.last (by omega) (show n < p * p by omega)
        rw [if_pos h1]
        have hpn : p ≤ n := Nat.le_of_not_lt fun hlt => hl n (by omega) hlt (Nat.dvd_refl _)
        refine ⟨by simp; exact ⟨hpn, hpr⟩, by simp, fun d h2 h3 => ⟨(n, 1), by simp, ?_⟩⟩
        rcases hpr.2 d h3 with e | e
        · omega
        · rw [e]; exact Nat.dvd_refl _
      · rw [if_neg h1]
        refine ⟨by simp, by simp, fun d h2 h3 => ?_⟩
        have := Nat.le_of_dvd (by omega) h3
        omega

theorem low_two (n : Nat) : Low 2 n := fun d h1 h2 => by omega
/-- the primes of m -/
def prs (m : Nat) : List Nat := (fz 2 m).map (·.1)
theorem prs_mem (m : Nat) (hm : 1 ≤ m) : ∀ q ∈ prs m, Pr q ∧ q ∣ m := by
  intro q hq
  unfold prs at hq
  rw [List.mem_map] at hq
  obtain ⟨x, hx, rfl⟩ := hq
  obtain ⟨_, j2, j3, _⟩ := (fz_spec _ 2 m (Nat.le_refl _) (by omega) hm (low_two m)).1 x hx
  exact ⟨j2, j3⟩
theorem prs_nodup (m : Nat) (hm : 1 ≤ m) : (prs m).Nodup := (fz_spec _ 2 m (Nat.le_refl _) (by omega) hm (low_two m)).2.1
theorem prs_ok (m a : Nat) (hm : 1 ≤ m) : okL (prs m) a = decide (Nat.gcd a m = 1) := by
  rw [Bool.eq_iff_iff, okL_iff, decide_eq_true_iff]
  constructor
  · intro h
    apply Classical.byContradiction
    intro hg
    have hpos : 0 < Nat.gcd a m := Nat.gcd_pos_of_pos_right _ (by omega)
    obtain ⟨x, hx, hd⟩ := (fz_spec _ 2 m (Nat.le_refl _) (by omega) hm (low_two m)).2.2 (Nat.gcd a m) (by omega) (Nat.gcd_dvd_right _ _)
    exact h x.1 (List.mem_map.2 ⟨x, hx, rfl⟩) (Nat.dvd_trans hd (Nat.gcd_dvd_left _ _))
  · intro h q hq hd
    obtain ⟨a1, a2⟩ := prs_mem m hm q hq
    have := Nat.dvd_gcd hd a2
    rw [h] at this
    have := Nat.le_of_dvd (by omega) this
    have := a1.1
    omega

end Num
end Go.Proofs.Ytkhdbphdeabgnaa
