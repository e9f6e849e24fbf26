/- Lists of coefficients modulo m up to a degree: the steps of the algorithms on them, of the program and of the model. Plain: no program in sight. -/
import Derived.Test.YtjgpdgoclianlaaSer
namespace Go.Proofs.Ytjgpdgoclianlaa
namespace Ser

/-- the series with a list of coefficients -/
def co (l : List Int) : Nat → Int := fun i => l[i]?.getD 0
/-- the list of the coefficients up to a degree, modulo m -/
def cut (m : Int) (d : Nat) (a : Nat → Int) : List Int := (List.range (d + 1)).map fun n => a n % m
theorem cut_length (m : Int) (d : Nat) (a : Nat → Int) : (cut m d a).length = d + 1 := by simp [cut]
theorem co_cut {m : Int} {d : Nat} {a : Nat → Int} {i : Nat} (h : i ≤ d) : co (cut m d a) i = a i % m := by
  unfold co cut
  rw [List.getElem?_map, List.getElem?_range (by omega)]; rfl
theorem co_over {l : List Int} {i : Nat} (h : l.length ≤ i) : co l i = 0 := by
  unfold co
  rw [List.getElem?_eq_none h]; rfl
theorem co_cut_eq (m : Int) (d : Nat) (a : Nat → Int) : Eq m d (co (cut m d a)) a := by
  intro i hi; rw [co_cut hi, Int.emod_emod]
theorem cut_congr {m : Int} {d : Nat} {a b : Nat → Int} (h : Eq m d a b) : cut m d a = cut m d b := by
  unfold cut
  refine List.map_congr_left (fun i hi => h i ?_)
  have := List.mem_range.1 hi
  omega
theorem list_ext {l k : List Int} (h : l.length = k.length) (hc : ∀ i, i < l.length → co l i = co k i) : l = k := by
  refine List.ext_getElem h (fun i h1 h2 => ?_)
  have := hc i h1
  unfold co at this
  rw [List.getElem?_eq_getElem h1, List.getElem?_eq_getElem h2] at this
  exact this
/-- the numbers of l are remainders -/
def Red (m : Int) (l : List Int) : Prop := ∀ i, 0 ≤ co l i ∧ co l i < m
theorem cut_red {m : Int} (hm : 0 < m) (d : Nat) (a : Nat → Int) : Red m (cut m d a) := by
  intro i
  by_cases h : i ≤ d
  · rw [co_cut h]; exact ⟨Int.emod_nonneg _ (by omega), Int.emod_lt_of_pos _ hm⟩
  · rw [co_over (by rw [cut_length]; omega)]; omega
theorem cut_self {m : Int} {d : Nat} {l : List Int} (hl : l.length = d + 1) (h : Red m l) : cut m d (co l) = l := by
  refine list_ext (by rw [cut_length, hl]) (fun i hi => ?_)
  rw [cut_length] at hi
  rw [co_cut (by omega), Int.emod_eq_of_lt (h i).1 (h i).2]
theorem red_unique {m : Int} {d : Nat} {l k : List Int} (hl : l.length = d + 1) (hk : k.length = d + 1) (h1 : Red m l) (h2 : Red m k) (h : Eq m d (co l) (co k)) : l = k := by
  rw [← cut_self hl h1, ← cut_self hk h2]; exact cut_congr h
theorem co_set {l : List Int} {i : Nat} (h : i < l.length) (x : Int) (j : Nat) : co (l.set i x) j = if j = i then x else co l j := by
  unfold co
  rw [List.getElem?_set]
  by_cases hj : i = j
  · subst hj; simp [h]
  · rw [if_neg hj, if_neg (fun e => hj e.symm)]
theorem co_app {l k : List Int} (i : Nat) : co (l ++ k) i = if i < l.length then co l i else co k (i - l.length) := by
  unfold co
  rw [List.getElem?_append]
  split <;> rfl
theorem co_zeros (n i : Nat) : co (List.replicate n 0) i = 0 := by
  unfold co
  rw [List.getElem?_replicate]
  split <;> rfl
theorem co_pad (l : List Int) (n : Nat) : co (l ++ List.replicate n 0) = co l := by
  funext i
  rw [co_app]
  by_cases h : i < l.length
  · rw [if_pos h]
  · rw [if_neg h, co_zeros, co_over (by omega)]
theorem co_nil (i : Nat) : co [] i = 0 := co_over (Nat.zero_le _)
theorem cut_take_succ (m : Int) (d : Nat) (a : Nat → Int) (k : Nat) (h : k ≤ d) : (cut m d a).take (k + 1) = (cut m d a).take k ++ [a k % m] := by
  rw [List.take_succ_eq_append_getElem (by rw [cut_length]; omega)]
  simp [cut]
theorem cut_take_all (m : Int) (d : Nat) (a : Nat → Int) : (cut m d a).take (d + 1) = cut m d a := List.take_of_length_le (by rw [cut_length]; omega)
theorem cut_zero (m : Int) (d : Nat) : cut m d (fun _ => 0) = List.replicate (d + 1) 0 := by
  refine list_ext (by rw [cut_length, List.length_replicate]) (fun i hi => ?_)
  rw [cut_length] at hi
  rw [co_cut (by omega), co_zeros, Int.zero_emod]

/-! the model's product: row by row -/
def tr (a b : Nat → Int) (n i : Nat) : Int := if i ≤ n then a i * b (n - i) else 0
def timS (m : Int) (d : Nat) (a b : Nat → Int) (i : Nat) : List Int := cut m d fun n => psum (tr a b n) i
def timP (m : Int) (d : Nat) (a b : Nat → Int) (i k : Nat) : List Int := cut m d fun n => psum (tr a b n) i + if i ≤ n ∧ n < i + k then a i * b (n - i) else 0
theorem timS_zero (m : Int) (d : Nat) (a b : Nat → Int) : timS m d a b 0 = List.replicate (d + 1) 0 := cut_zero m d
theorem timP_zero (m : Int) (d : Nat) (a b : Nat → Int) (i : Nat) : timP m d a b i 0 = timS m d a b i := by
  unfold timP timS
  refine cut_congr (Eq.of m d (fun n _ => ?_))
  rw [if_neg (by omega), Int.add_zero]
theorem timP_step (m : Int) (d : Nat) (a b : Nat → Int) (i k : Nat) (h : i + k ≤ d) : (timP m d a b i k).set (i + k) ((co (timP m d a b i k) (i + k) + a i * b k) % m) = timP m d a b i (k + 1) := by
  refine list_ext (by rw [List.length_set, timP, timP, cut_length, cut_length]) (fun j hj => ?_)
  rw [List.length_set, timP, cut_length] at hj
  rw [co_set (by rw [timP, cut_length]; omega)]
  unfold timP
  rw [co_cut (i := j) (by omega), co_cut (i := j) (by omega), co_cut h]
  by_cases e : j = i + k
  · subst e
    rw [if_pos rfl, if_neg (by omega), if_pos (by omega), Int.add_zero, Nat.add_sub_cancel_left, Int.emod_add_emod]
  · rw [if_neg e]
    by_cases c : i ≤ j ∧ j < i + k
    · rw [if_pos c, if_pos (by omega)]
    · rw [if_neg c, if_neg (by omega)]
theorem timP_end (m : Int) (d : Nat) (a b : Nat → Int) (i k : Nat) (hk : ∀ j, k ≤ j → i + j ≤ d → b j = 0) : timP m d a b i k = timS m d a b (i + 1) := by
  unfold timP timS
  refine cut_congr (Eq.of m d (fun n hn => ?_))
  rw [psum]
  congr 1
  unfold tr
  by_cases c : i ≤ n
  · rw [if_pos c]
    by_cases c2 : n < i + k
    · rw [if_pos ⟨c, c2⟩]
    · rw [if_neg (by omega), hk (n - i) (by omega) (by omega), Int.mul_zero]
  · rw [if_neg c, if_neg (by omega)]
theorem timS_skip (m : Int) (d : Nat) (a b : Nat → Int) (i : Nat) (h : a i = 0) : timS m d a b (i + 1) = timS m d a b i := by
  unfold timS
  refine cut_congr (Eq.of m d (fun n hn => ?_))
  rw [psum]
  unfold tr
  rw [h]
  simp
theorem psum_tr (a b : Nat → Int) (n : Nat) : ∀ k, n + 1 ≤ k → psum (tr a b n) k = cv n a b := by
  intro k
  induction k with
  | zero => intro h; omega
  | succ k ih =>
    intro h
    by_cases hk : n + 1 ≤ k
    · rw [psum, ih hk]; unfold tr; rw [if_neg (by omega)]; omega
    · obtain rfl : k = n := by omega
      rw [cv_psum]
      exact psum_ext _ (fun i hi => by unfold tr; rw [if_pos (by omega)])
theorem timS_end (m : Int) (d : Nat) (a b : Nat → Int) (i : Nat) (h : ∀ j, i ≤ j → j ≤ d → a j = 0) : timS m d a b i = cut m d (mul a b) := by
  unfold timS
  refine cut_congr (Eq.of m d (fun n hn => ?_))
  rw [mul_at, ← psum_tr a b n (i + (n + 1)) (by omega)]
  have key : ∀ k, psum (tr a b n) (i + k) = psum (tr a b n) i := by
    intro k
    induction k with
    | zero => rfl
    | succ k ih =>
      rw [Nat.add_succ, psum, ih]
      unfold tr
      split
      · rw [h (i + k) (by omega) (by omega)]; omega
      · omega
  exact (key _).symm

/-! the inverse, number by number -/
def invC (m u : Int) (a : Nat → Int) : Nat → List Int
  | 0 => [u]
  | n + 1 => invC m u a n ++ [(-u * cv (n + 1) a (co (invC m u a n))) % m]
theorem invC_length (m u : Int) (a : Nat → Int) : ∀ n, (invC m u a n).length = n + 1 := by
  intro n
  induction n with
  | zero => rfl
  | succ n ih => simp [invC, ih]
theorem invC_pre (m u : Int) (a : Nat → Int) (n k i : Nat) (h : i ≤ n) : co (invC m u a (n + k)) i = co (invC m u a n) i := by
  induction k with
  | zero => rfl
  | succ k ih => rw [Nat.add_succ, invC, co_app, if_pos (by rw [invC_length]; omega), ih]
theorem invC_last (m u : Int) (a : Nat → Int) (n : Nat) : co (invC m u a (n + 1)) (n + 1) = (-u * cv (n + 1) a (co (invC m u a n))) % m := by
  rw [invC, co_app, if_neg (by rw [invC_length]; omega), invC_length, Nat.sub_self]; rfl
theorem invC_red {m u : Int} (hm : 0 < m) (hu : 0 ≤ u) (hu2 : u < m) (a : Nat → Int) : ∀ n, Red m (invC m u a n) := by
  intro n
  induction n with
  | zero =>
    intro i
    cases i with
    | zero => exact ⟨hu, hu2⟩
    | succ i => rw [co_over (by simp [invC])]; omega
  | succ n ih =>
    intro i
    rw [invC, co_app]
    split
    · exact ih i
    · rename_i h
      rw [invC_length] at h ⊢
      rcases hi : i - (n + 1) with _ | j
      · exact ⟨Int.emod_nonneg _ (by omega), Int.emod_lt_of_pos _ hm⟩
      · rw [co_over (by simp)]; omega
theorem cv_last (a b b' : Nat → Int) : ∀ n, (∀ i, i < n → b i = b' i) → cv n a b = cv n a b' + a 0 * (b n - b' n) := by
  intro n h
  cases n with
  | zero => rw [cv_zero, cv_zero, Int.mul_sub]; omega
  | succ n =>
    rw [cv_succ, cv_succ, Int.mul_sub, cv_ext n (fun _ _ => rfl) (fun i hi => h i (by omega))]
    omega
theorem invC_inverse {m u : Int} (a : Nat → Int) (h : (a 0 * u) % m = 1 % m) (d : Nat) : Eq m d (mul a (co (invC m u a d))) (mon 0 1) := by
  intro i hi
  rw [mul_at]
  cases i with
  | zero =>
    rw [cv_zero]
    have := invC_pre m u a 0 d 0 (Nat.le_refl _)
    rw [Nat.zero_add] at this
    rw [this]
    simpa [invC, co, mon] using h
  | succ i =>
    obtain ⟨k, rfl⟩ : ∃ k, d = (i + 1) + k := ⟨d - (i + 1), by omega⟩
    rw [cv_ext (i + 1) (fun _ _ => rfl) (fun j hj => invC_pre m u a (i + 1) k j hj)]
    rw [cv_last a _ (co (invC m u a i)) (i + 1) (fun j hj => invC_pre m u a i 1 j (by omega)), invC_last, co_over (l := invC m u a i) (by rw [invC_length]; omega)]
    generalize cv (i + 1) a (co (invC m u a i)) = S
    have e : (S + a 0 * (-u * S % m - 0)) % m = (S + a 0 * (-u * S)) % m := by
      rw [Int.sub_zero]
      exact add_cong rfl (mul_cong rfl (Int.emod_emod _ _))
    rw [e, show a 0 * (-u * S) = -((a 0 * u) * S) by rw [Int.neg_mul, Int.mul_neg, Int.mul_assoc], ← Int.sub_eq_add_neg]
    have e2 : (S - a 0 * u * S) % m = (S - 1 * S) % m := sub_cong rfl (mul_cong h rfl)
    rw [e2, Int.one_mul, Int.sub_self]
    simp [mon]
end Ser
end Go.Proofs.Ytjgpdgoclianlaa
