/- Powers, compositions by Horner's rule and reversions as lists of coefficients. Plain: no program in sight. -/
import Derived.Test.YtjgpdgoclianlaaSeL
namespace Go.Proofs.Ytjgpdgoclianlaa
namespace Ser

def mulL (m : Int) (d : Nat) (a b : List Int) : List Int := cut m d (mul (co a) (co b))
theorem mulL_length (m : Int) (d : Nat) (a b : List Int) : (mulL m d a b).length = d + 1 := cut_length _ _ _
theorem mulL_red {m : Int} (hm : 0 < m) (d : Nat) (a b : List Int) : Red m (mulL m d a b) := cut_red hm _ _

/-- the steps of squaring: exponent left, product, square -/
def powS (m : Int) (d : Nat) (k : Nat) (p s : List Int) : List Int :=
  if _h : k = 0 then p else powS m d (k / 2) (if k % 2 = 1 then mulL m d p s else p) (mulL m d s s)
termination_by k
decreasing_by omega
theorem powS_zero (m : Int) (d : Nat) (p s : List Int) : powS m d 0 p s = p := by rw [powS]; simp
theorem powS_odd (m : Int) (d : Nat) {k : Nat} (p s : List Int) (h : k % 2 = 1) : powS m d k p s = powS m d (k / 2) (mulL m d p s) (mulL m d s s) := by rw [powS, dif_neg (by omega), if_pos h]
theorem powS_even (m : Int) (d : Nat) {k : Nat} (p s : List Int) (h0 : k ≠ 0) (h : ¬ k % 2 = 1) : powS m d k p s = powS m d (k / 2) p (mulL m d s s) := by rw [powS, dif_neg h0, if_neg h]
def one (m : Int) (d : Nat) : List Int := cut m d (mon 0 1)
def powL (m : Int) (d : Nat) (a : List Int) (k : Nat) : List Int := powS m d k (one m d) a
theorem powS_length (m : Int) (d : Nat) : ∀ (k : Nat) (p s : List Int), p.length = d + 1 → (powS m d k p s).length = d + 1 := by
  intro k
  induction k using Nat.strongRecOn with
  | ind k ih =>
    intro p s hp
    by_cases h0 : k = 0
    · subst h0; rw [powS_zero, hp]
    · by_cases h : k % 2 = 1
      · rw [powS_odd _ _ _ _ h]; exact ih _ (by omega) _ _ (mulL_length _ _ _ _)
      · rw [powS_even _ _ _ _ h0 h]; exact ih _ (by omega) _ _ hp
theorem powL_length (m : Int) (d : Nat) (a : List Int) (k : Nat) : (powL m d a k).length = d + 1 := powS_length _ _ _ _ _ (cut_length _ _ _)
theorem powS_red {m : Int} (hm : 0 < m) (d : Nat) : ∀ (k : Nat) (p s : List Int), Red m p → Red m (powS m d k p s) := by
  intro k
  induction k using Nat.strongRecOn with
  | ind k ih =>
    intro p s hp
    by_cases h0 : k = 0
    · subst h0; rw [powS_zero]; exact hp
    · by_cases h : k % 2 = 1
      · rw [powS_odd _ _ _ _ h]; exact ih _ (by omega) _ _ (mulL_red hm _ _ _)
      · rw [powS_even _ _ _ _ h0 h]; exact ih _ (by omega) _ _ hp
theorem powL_red {m : Int} (hm : 0 < m) (d : Nat) (a : List Int) (k : Nat) : Red m (powL m d a k) := powS_red hm _ _ _ _ (cut_red hm _ _)

/-- Horner's rule over lists: after j steps -/
def horC (m : Int) (d : Nat) (a f : Nat → Int) : Nat → List Int
  | 0 => List.replicate (d + 1) 0
  | j + 1 => (cut m d (mul (co (horC m d a f j)) f)).set 0 (a (d - j))
theorem horC_length (m : Int) (d : Nat) (a f : Nat → Int) : ∀ j, (horC m d a f j).length = d + 1 := by
  intro j
  cases j with
  | zero => simp [horC]
  | succ j => simp [horC, cut_length]
theorem horC_red {m : Int} (hm : 0 < m) (d : Nat) (a f : Nat → Int) (ha : ∀ i, 0 ≤ a i ∧ a i < m) : ∀ j, Red m (horC m d a f j) := by
  intro j i
  cases j with
  | zero => rw [horC, co_zeros]; omega
  | succ j =>
    rw [horC, co_set (by rw [cut_length]; omega)]
    split
    · exact ha _
    · exact cut_red hm _ _ i
theorem horC_hor {m : Int} {d : Nat} {a f : Nat → Int} (hf : f 0 = 0) : ∀ j, j ≤ d → Eq m d (co (horC m d a f (j + 1))) (hor j (fun i => a (d - j + i)) f) := by
  intro j
  induction j with
  | zero =>
    intro _ i hi
    rw [horC, co_set (by rw [cut_length]; omega), hor_zero]
    unfold mon
    by_cases h : i = 0
    · rw [if_pos h, if_pos h]; rfl
    · have z : co (horC m d a f 0) = fun _ => 0 := by funext i; rw [horC, co_zeros]
      rw [if_neg h, if_neg h, co_cut hi, mul_at, z, cv_zero_left]; simp
  | succ j ih =>
    intro hj i hi
    rw [horC, co_set (by rw [cut_length]; omega), hor_succ]
    dsimp only
    have e : (sh fun i => a (d - (j + 1) + i)) = fun i => a (d - j + i) := by
      funext i
      simp only [sh]
      congr 1
      omega
    rw [e, mul_at]
    by_cases h : i = 0
    · subst h
      rw [if_pos rfl, cv_zero, hf]
      simp [mon]
    · rw [if_neg h, co_cut hi, mul_at, Int.emod_emod, cv_comm]
      unfold mon
      rw [if_neg h, Int.zero_add]
      exact cv_congr i (Eq.refl _ _ _) ((ih (by omega)).less hi)
theorem horC_comp {m : Int} {d : Nat} {a f : Nat → Int} (hf : f 0 = 0) : Eq m d (co (horC m d a f (d + 1))) (comp a f) := by
  intro i hi
  rw [horC_hor hf d (Nat.le_refl _) i hi]
  have e : (fun i => a (d - d + i)) = a := by funext i; rw [Nat.sub_self, Nat.zero_add]
  rw [e, hor_comp hf a d i hi]
/-- composition of lists -/
def cmpL (m : Int) (d : Nat) (a f : List Int) : List Int := horC m d (co a) (co f) (d + 1)
theorem cmpL_length (m : Int) (d : Nat) (a f : List Int) : (cmpL m d a f).length = d + 1 := horC_length _ _ _ _ _
theorem cmpL_eq {m : Int} {d : Nat} {a f : List Int} (hf : co f 0 = 0) : Eq m d (co (cmpL m d a f)) (comp (co a) (co f)) := horC_comp hf
theorem cmpL_red {m : Int} (hm : 0 < m) (d : Nat) {a : List Int} (ha : Red m a) (f : List Int) : Red m (cmpL m d a f) := horC_red hm _ _ _ ha _
theorem comp_ext {a a' f : Nat → Int} (hf : f 0 = 0) : ∀ n, (∀ i, i ≤ n → a i = a' i) → comp a f n = comp a' f n := by
  intro n
  induction n using Nat.strongRecOn generalizing a a' with
  | ind n ih =>
    intro h
    rw [comp_eq hf a, comp_eq hf a', h 0 (Nat.zero_le _)]
    dsimp only
    rw [mul_at, mul_at]
    congr 1
    exact cv_ext_curve hf (fun j hj => ih j hj (fun i hi => h (i + 1) (by omega)))
theorem comp_ext_right {a f f' : Nat → Int} (hf : f 0 = 0) (hf' : f' 0 = 0) : ∀ n, (∀ i, i ≤ n → f i = f' i) → comp a f n = comp a f' n := by
  intro n
  induction n using Nat.strongRecOn generalizing a with
  | ind n ih =>
    intro h
    rw [comp_eq hf a, comp_eq hf' a]
    dsimp only
    rw [mul_at, mul_at]
    congr 1
    rw [cv_ext_curve (f := f) hf (fun j hj => ih j hj (fun i hi => h i (by omega)))]
    exact cv_ext n h (fun _ _ => rfl)

/-! the model's reversion: number by number -/
def revC (m u : Int) (f : Nat → Int) : Nat → List Int
  | 0 => [0, u]
  | n + 1 => revC m u f n ++ [((m - comp f (co (revC m u f n)) (n + 2) % m) * u) % m]
theorem revC_length (m u : Int) (f : Nat → Int) : ∀ n, (revC m u f n).length = n + 2 := by
  intro n
  induction n with
  | zero => rfl
  | succ n ih => simp [revC, ih]
theorem revC_pre (m u : Int) (f : Nat → Int) (n k i : Nat) (h : i ≤ n + 1) : co (revC m u f (n + k)) i = co (revC m u f n) i := by
  induction k with
  | zero => rfl
  | succ k ih => rw [Nat.add_succ, revC, co_app, if_pos (by rw [revC_length]; omega), ih]
theorem revC_curve (m u : Int) (f : Nat → Int) (n : Nat) : co (revC m u f n) 0 = 0 := by
  have := revC_pre m u f 0 n 0 (by omega)
  rw [Nat.zero_add] at this
  rw [this]; rfl
theorem revC_last (m u : Int) (f : Nat → Int) (n : Nat) : co (revC m u f (n + 1)) (n + 2) = ((m - comp f (co (revC m u f n)) (n + 2) % m) * u) % m := by
  rw [revC, co_app, if_neg (by rw [revC_length]; omega), revC_length, Nat.sub_self]; rfl
theorem revC_red {m u : Int} (hm : 0 < m) (hu : 0 ≤ u) (hu2 : u < m) (f : Nat → Int) : ∀ n, Red m (revC m u f n) := by
  intro n
  induction n with
  | zero =>
    intro i
    match i with
    | 0 => exact ⟨by simp [revC, co], by simp [revC, co]; exact hm⟩
    | 1 => exact ⟨by simpa [revC, co] using hu, by simpa [revC, co] using hu2⟩
    | i + 2 => rw [co_over (by simp [revC])]; omega
  | succ n ih =>
    intro i
    rw [revC, co_app]
    split
    · exact ih i
    · rename_i h
      rw [revC_length] at h ⊢
      rcases hi : i - (n + 2) with _ | j
      · exact ⟨Int.emod_nonneg _ (by omega), Int.emod_lt_of_pos _ hm⟩
      · rw [co_over (by simp)]; omega
/-- the highest coefficient of the inner curve enters by f(1) alone -/
theorem comp_last {f h h' : Nat → Int} (hh : h 0 = 0) (hh' : h' 0 = 0) (n : Nat) (e : ∀ i, i ≤ n → h i = h' i) :
    comp f h (n + 1) = comp f h' (n + 1) + f 1 * (h (n + 1) - h' (n + 1)) := by
  rw [comp_eq hh f, comp_eq hh' f]
  dsimp only
  rw [mul_at, mul_at, cv_succ' h, cv_succ' h', Int.mul_sub]
  have c0 : comp (sh f) h 0 = f 1 := comp_zero _ _
  have c1 : comp (sh f) h' 0 = f 1 := comp_zero _ _
  rw [c0, c1, Int.mul_comm (f 1), Int.mul_comm (f 1)]
  have c2 : cv n h (sh (comp (sh f) h)) = cv n h' (sh (comp (sh f) h')) := by
    cases n with
    | zero => rw [cv_zero, cv_zero, hh, hh']; simp
    | succ n =>
      rw [cv_succ, cv_succ, hh, hh']
      simp only [Int.zero_mul, Int.zero_add]
      refine cv_ext n (fun i hi => e (i + 1) (by omega)) (fun i hi => ?_)
      exact comp_ext_right hh hh' _ (fun j hj => e j (by omega))
  rw [c2]
  omega
theorem revC_right {m u : Int} {f : Nat → Int} (hf : f 0 = 0) (h : (f 1 * u) % m = 1 % m) (n : Nat) : Eq m (n + 1) (comp f (co (revC m u f n))) (mon 1 1) := by
  induction n with
  | zero =>
    intro i hi
    match i, hi with
    | 0, _ => rw [comp_zero, hf]; simp [mon]
    | 1, _ =>
      rw [comp_eq (revC_curve m u f 0)]
      dsimp only
      rw [mul_at, cv_succ, cv_zero]
      have c1 : comp (sh f) (co (revC m u f 0)) 0 = f 1 := comp_zero _ _
      rw [c1, revC_curve]
      have : sh (co (revC m u f 0)) 0 = u := rfl
      rw [this, Int.mul_comm u]
      simpa [mon] using h
  | succ n ih =>
    intro i hi
    by_cases hi' : i ≤ n + 1
    · rw [comp_ext_right (revC_curve m u f (n + 1)) (revC_curve m u f n) i (fun j hj => revC_pre m u f n 1 j (by omega))]
      exact ih i hi'
    · obtain rfl : i = n + 2 := by omega
      rw [comp_last (revC_curve m u f (n + 1)) (revC_curve m u f n) (n + 1) (fun j hj => revC_pre m u f n 1 j hj), revC_last, co_over (l := revC m u f n) (by rw [revC_length]; omega)]
      generalize comp f (co (revC m u f n)) (n + 2) = S
      have e : (S + f 1 * ((m - S % m) * u % m - 0)) % m = (S + f 1 * ((0 - S) * u)) % m := by
        rw [Int.sub_zero]
        refine add_cong rfl (mul_cong rfl ?_)
        rw [Int.emod_emod]
        refine mul_cong (sub_cong (by simp) (Int.emod_emod _ _)) rfl
      rw [e, Int.zero_sub, show f 1 * (-S * u) = -((f 1 * u) * S) by rw [Int.neg_mul, Int.mul_neg, Int.mul_assoc, Int.mul_comm S u], ← Int.sub_eq_add_neg]
      have e2 : (S - f 1 * u * S) % m = (S - 1 * S) % m := sub_cong rfl (mul_cong h rfl)
      rw [e2, Int.one_mul, Int.sub_self]
      simp [mon]

/-! the program's reversion: the powers of f take t apart -/
def pw (f : Nat → Int) : Nat → Nat → Int
  | 0 => mon 0 1
  | n + 1 => mul (pw f n) f
theorem pw_low {f : Nat → Int} (hf : f 0 = 0) : ∀ n i, i < n → pw f n i = 0 := by
  intro n
  induction n with
  | zero => intro i h; omega
  | succ n ih =>
    intro i hi
    have e : cv i (pw f n) f = cv i f (fun _ => 0) := by
      rw [cv_comm]
      exact cv_ext_curve hf (fun j hj => ih j (by omega))
    rw [pw, mul_at, e, cv_comm, cv_zero_left]
def ipow (x : Int) : Nat → Int
  | 0 => 1
  | n + 1 => ipow x n * x
theorem cv_low {p f : Nat → Int} : ∀ n, (∀ i, i < n → p i = 0) → f 0 = 0 → cv (n + 1) p f = p n * f 1 := by
  intro n
  induction n generalizing p with
  | zero => intro _ hf; rw [cv_succ, cv_zero, hf]; simp
  | succ n ih =>
    intro hp hf
    rw [cv_succ, hp 0 (by omega), ih (p := sh p) (fun i hi => hp (i + 1) (by omega)) hf]
    simp [sh]
theorem pw_lead {f : Nat → Int} (hf : f 0 = 0) : ∀ n, pw f n n = ipow (f 1) n := by
  intro n
  induction n with
  | zero => simp [pw, mon, ipow]
  | succ n ih => rw [pw, mul_at, cv_low n (fun i hi => pw_low hf n i hi) hf, ih]; rfl
theorem ipow_unit {m x u : Int} (h : (x * u) % m = 1 % m) : ∀ n, (ipow x n * ipow u n) % m = 1 % m := by
  intro n
  induction n with
  | zero => rfl
  | succ n ih =>
    rw [ipow, ipow, show ipow x n * x * (ipow u n * u) = (ipow x n * ipow u n) * (x * u) by
      rw [Int.mul_assoc, Int.mul_left_comm x, ← Int.mul_assoc]]
    have := mul_cong ih h
    rw [this]; rfl
theorem comp_mon {f : Nat → Int} (hf : f 0 = 0) : ∀ n, comp (mon n 1) f = pw f n := by
  intro n
  induction n with
  | zero => rw [comp_const hf]; rfl
  | succ n ih =>
    have e : mon (n + 1) 1 = mul (mon n 1) (mon 1 1) := by
      funext i
      rw [mul_comm, mul_at, cv_t]
      unfold mon
      cases i with
      | zero => simp
      | succ i => simp
    funext i
    rw [e, comp_mul hf, ih, t_comp hf]; rfl

/-- the state after n rounds: the reversion so far and what is left over -/
def lagG (m u : Int) (f : Nat → Int) (d : Nat) : Nat → List Int × List Int
  | 0 => (cut m d (mon 0 0), cut m d (mon 1 1))
  | n + 1 =>
    let s := lagG m u f d n
    let g := co s.2 (n + 1) * (ipow u (n + 1) % m) % m
    (s.1.set (n + 1) g, cut m d fun i => co s.2 i + (co (cut m d fun i => pw f (n + 1) i * -g) i))
theorem lagG_len1 (m u : Int) (f : Nat → Int) (d : Nat) : ∀ n, (lagG m u f d n).1.length = d + 1 := by
  intro n
  induction n with
  | zero => exact cut_length _ _ _
  | succ n ih => simp [lagG, ih]
theorem lagG_len2 (m u : Int) (f : Nat → Int) (d : Nat) : ∀ n, (lagG m u f d n).2.length = d + 1 := by
  intro n
  cases n with
  | zero => exact cut_length _ _ _
  | succ n => exact cut_length _ _ _
theorem lagG_red1 {m : Int} (hm : 0 < m) (u : Int) (f : Nat → Int) (d : Nat) : ∀ n, n ≤ d → Red m (lagG m u f d n).1 := by
  intro n
  induction n with
  | zero => intro _; exact cut_red hm _ _
  | succ n ih =>
    intro hn i
    simp only [lagG]
    rw [co_set (by rw [lagG_len1]; omega)]
    split
    · exact ⟨Int.emod_nonneg _ (by omega), Int.emod_lt_of_pos _ hm⟩
    · exact ih (by omega) i
theorem lagG_red2 {m : Int} (hm : 0 < m) (u : Int) (f : Nat → Int) (d : Nat) : ∀ n, Red m (lagG m u f d n).2 := by
  intro n
  cases n with
  | zero => exact cut_red hm _ _
  | succ n => exact cut_red hm _ _
theorem lagG_over {m u : Int} {f : Nat → Int} {d : Nat} : ∀ n i, n ≤ d → n < i → co (lagG m u f d n).1 i = 0 := by
  intro n
  induction n with
  | zero =>
    intro i _ hi
    by_cases h : i ≤ d
    · simp only [lagG]; rw [co_cut h]; simp [mon]
    · exact co_over (by simp only [lagG]; rw [cut_length]; omega)
  | succ n ih =>
    intro i hn hi
    simp only [lagG]
    rw [co_set (by rw [lagG_len1]; omega), if_neg (by omega), ih i (by omega) (by omega)]
theorem lagG_inv {m u : Int} {f : Nat → Int} (hf : f 0 = 0) (hu : (f 1 * u) % m = 1 % m) (d : Nat) : ∀ n, n ≤ d →
    co (lagG m u f d n).1 0 = 0 ∧ Eq m d (fun i => co (lagG m u f d n).2 i + comp (co (lagG m u f d n).1) f i) (mon 1 1) ∧ (∀ i, i ≤ n → co (lagG m u f d n).2 i % m = 0) := by
  intro n
  induction n with
  | zero =>
    intro _
    have z : co (lagG m u f d 0).1 = fun _ => 0 := by
      funext i
      by_cases h : i ≤ d
      · simp only [lagG]; rw [co_cut h]; simp [mon]
      · exact co_over (by simp only [lagG]; rw [cut_length]; omega)
    have c0 : ∀ i, comp (fun _ => 0) f i = 0 := by
      intro i
      have := comp_smul hf 0 i (fun _ => 0)
      simpa using this
    refine ⟨by rw [z], ?_, ?_⟩
    · intro i hi
      dsimp only
      rw [z, c0, Int.add_zero]
      exact co_cut_eq m d (mon 1 1) i hi
    · intro i hi
      obtain rfl : i = 0 := by omega
      simp only [lagG]
      rw [co_cut (by omega)]; simp [mon]
  | succ n ih =>
    intro hn
    obtain ⟨h1, h2, h3⟩ := ih (by omega)
    have l1 := lagG_len1 m u f d n
    have ov : co (lagG m u f d n).1 (n + 1) = 0 := lagG_over n (n + 1) (by omega) (by omega)
    simp only [lagG]
    generalize hR : (lagG m u f d n).2 = R at *
    generalize hG : (lagG m u f d n).1 = G at *
    obtain ⟨g, hg⟩ : ∃ g, co R (n + 1) * (ipow u (n + 1) % m) % m = g := ⟨_, rfl⟩
    rw [hg]
    have hgm : g % m = (co R (n + 1) * ipow u (n + 1)) % m := by
      rw [← hg, Int.emod_emod]; exact mul_cong rfl (Int.emod_emod _ _)
    have hset : co (G.set (n + 1) g) = fun i => co G i + g * mon (n + 1) 1 i := by
      funext i
      rw [co_set (by omega)]
      unfold mon
      by_cases h : i = n + 1
      · subst h; rw [if_pos rfl, if_pos rfl, ov]; omega
      · rw [if_neg h, if_neg h]; omega
    have hcomp : ∀ i, comp (co (G.set (n + 1) g)) f i = comp (co G) f i + g * pw f (n + 1) i := by
      intro i
      rw [hset, comp_add hf, comp_smul hf, comp_mon hf]
    have hrest : ∀ i, i ≤ d → co (cut m d fun i => co R i + co (cut m d fun i => pw f (n + 1) i * -g) i) i % m = (co R i - g * pw f (n + 1) i) % m := by
      intro i hi
      rw [co_cut hi, Int.emod_emod, co_cut hi, Int.sub_eq_add_neg]
      refine add_cong rfl ?_
      rw [Int.emod_emod, Int.mul_comm, Int.neg_mul]
    refine ⟨?_, ?_, ?_⟩
    · rw [hset]
      dsimp only
      rw [h1]
      simp [mon]
    · intro i hi
      have a := h2 i hi
      dsimp only at a ⊢
      rw [hcomp, ← a]
      have b : (co (cut m d fun i => co R i + co (cut m d fun i => pw f (n + 1) i * -g) i) i + (comp (co G) f i + g * pw f (n + 1) i)) % m = ((co R i - g * pw f (n + 1) i) + (comp (co G) f i + g * pw f (n + 1) i)) % m :=
        add_cong (hrest i hi) rfl
      rw [b]
      congr 1
      omega
    · intro i hi
      rw [hrest i (by omega)]
      by_cases hi' : i ≤ n
      · rw [pw_low hf (n + 1) i (by omega), Int.mul_zero, Int.sub_zero]
        exact h3 i hi'
      · obtain rfl : i = n + 1 := by omega
        rw [pw_lead hf]
        have k1 : (g * ipow (f 1) (n + 1)) % m = (co R (n + 1) * 1) % m := by
          have : (g * ipow (f 1) (n + 1)) % m = (co R (n + 1) * ipow u (n + 1) * ipow (f 1) (n + 1)) % m := mul_cong hgm rfl
          rw [this, Int.mul_assoc, Int.mul_comm (ipow u _)]
          exact mul_cong rfl (ipow_unit hu (n + 1))
        have k2 := sub_cong (m := m) (x := co R (n + 1)) (y := co R (n + 1)) rfl k1
        rw [k2, Int.mul_one, Int.sub_self]
        simp
/-- the program's list is the reversion from the left -/
theorem lagG_left {m u : Int} {f : Nat → Int} (hf : f 0 = 0) (hu : (f 1 * u) % m = 1 % m) (d : Nat) : co (lagG m u f d d).1 0 = 0 ∧ Eq m d (comp (co (lagG m u f d d).1) f) (mon 1 1) := by
  obtain ⟨h1, h2, h3⟩ := lagG_inv hf hu d d (Nat.le_refl _)
  refine ⟨h1, fun i hi => ?_⟩
  rw [← h2 i hi]
  dsimp only
  have := add_cong (m := m) (x := co (lagG m u f d d).2 i) (y := 0) (z := comp (co (lagG m u f d d).1) f i) (by rw [h3 i hi]; simp) rfl
  rw [this, Int.zero_add]
/-- both lists are the same -/
theorem lagG_revC {m u : Int} (hm : 0 < m) (hu1 : 0 ≤ u) (hu2 : u < m) {f : Nat → Int} (hf : f 0 = 0) (hu : (f 1 * u) % m = 1 % m) (n : Nat) : (lagG m u f (n + 1) (n + 1)).1 = revC m u f n := by
  obtain ⟨h1, h2⟩ := lagG_left hf hu (n + 1)
  exact red_unique (d := n + 1) (lagG_len1 _ _ _ _ _) (revC_length _ _ _ _) (lagG_red1 hm _ _ _ _ (Nat.le_refl _)) (revC_red hm hu1 hu2 _ _)
    (left_right hf (revC_curve m u f n) h2 (revC_right hf hu n))
end Ser
end Go.Proofs.Ytjgpdgoclianlaa
