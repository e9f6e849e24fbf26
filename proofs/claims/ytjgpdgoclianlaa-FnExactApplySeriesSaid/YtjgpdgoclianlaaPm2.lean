/- Plain facts on the product of tables, number by number: no program in sight. -/
import Derived.Test.YtjgpdgoclianlaaPln
namespace Go.Proofs.Ytjgpdgoclianlaa
namespace Pl

/-- the coefficient of the product at x^p y^q -/
def mul2 (a b : Nat → Nat → Int) (p q : Nat) : Int := Ser.psum (fun k => Ser.psum (fun l => a k l * b (p - k) (q - l)) (q + 1)) (p + 1)
def tr2 (a b : Nat → Nat → Int) (p q i j : Nat) : Int := if i ≤ p ∧ j ≤ q then a i j * b (p - i) (q - j) else 0
def rowS (a b : Nat → Nat → Int) (p q i J : Nat) : Int := Ser.psum (fun j => tr2 a b p q i j) J
/-- all rows below i, and row i below J -/
def S2 (d : Nat) (a b : Nat → Nat → Int) (i J p q : Nat) : Int := Ser.psum (fun i' => rowS a b p q i' (d + 1 - i')) i + rowS a b p q i J
/-- and of the term i, j the rows below k, and row k below l -/
def T2 (d : Nat) (a b : Nat → Nat → Int) (i j k l p q : Nat) : Int := S2 d a b i j p q + if i ≤ p ∧ j ≤ q ∧ (p - i < k ∨ (p - i = k ∧ q - j < l)) then a i j * b (p - i) (q - j) else 0
theorem psum_cut (f : Nat → Int) (m : Nat) : ∀ n, m ≤ n → (∀ i, m ≤ i → i < n → f i = 0) → Ser.psum f n = Ser.psum f m := by
  intro n
  induction n with
  | zero => intro h _; rw [show m = 0 by omega]
  | succ n ih =>
    intro h hz
    by_cases hm : m = n + 1
    · rw [hm]
    · rw [Ser.psum, ih (by omega) (fun i h1 h2 => hz i h1 (by omega)), hz n (by omega) (by omega), Int.add_zero]
theorem S2_zero (d : Nat) (a b : Nat → Nat → Int) (p q : Nat) : S2 d a b 0 0 p q = 0 := by simp [S2, rowS, Ser.psum]
theorem T2_zero (d : Nat) (a b : Nat → Nat → Int) (i j p q : Nat) : T2 d a b i j 0 0 p q = S2 d a b i j p q := by
  unfold T2
  rw [if_neg (by omega), Int.add_zero]
theorem T2_tab_zero (m : Int) (d : Nat) (a b : Nat → Nat → Int) (i j : Nat) : tab m d (T2 d a b i j 0 0) = tab m d (S2 d a b i j) := tab_congr (Eq.of m d (fun p q _ => T2_zero d a b i j p q))
theorem S2_tab_zero (m : Int) (d : Nat) (a b : Nat → Nat → Int) : tab m d (S2 d a b 0 0) = tab m d fun _ _ => 0 := tab_congr (Eq.of m d (fun p q _ => S2_zero d a b p q))
theorem T2_step (m : Int) (d : Nat) (a b : Nat → Nat → Int) (i j k l : Nat) (h : i + j + k + l ≤ d) :
    (tab m d (T2 d a b i j k l)).set (i + k) ((rw' (tab m d (T2 d a b i j k l)) (i + k)).set (j + l) ((pc (tab m d (T2 d a b i j k l)) (i + k) (j + l) + a i j * b k l) % m)) = tab m d (T2 d a b i j k (l + 1)) := by
  refine tab_put (by omega) ?_ (fun p q hpq hne => ?_)
  · rw [pc_tab (by omega)]
    unfold T2
    rw [if_pos (show i ≤ i + k ∧ j ≤ j + l ∧ (i + k - i < k ∨ (i + k - i = k ∧ j + l - j < l + 1)) by omega), if_neg (show ¬ (i ≤ i + k ∧ j ≤ j + l ∧ (i + k - i < k ∨ (i + k - i = k ∧ j + l - j < l))) by omega),
      show i + k - i = k by omega, show j + l - j = l by omega, Int.add_zero, Int.emod_add_emod]
  · unfold T2
    by_cases h1 : i ≤ p ∧ j ≤ q ∧ (p - i < k ∨ (p - i = k ∧ q - j < l))
    · rw [if_pos h1, if_pos (by omega)]
    · rw [if_neg h1, if_neg (by omega)]
theorem T2_rowend (m : Int) (d : Nat) (a b : Nat → Nat → Int) (i j k l : Nat) (h : d < i + j + k + l) : tab m d (T2 d a b i j k l) = tab m d (T2 d a b i j (k + 1) 0) :=
  tab_congr (Eq.of m d (fun p q hpq => by
    unfold T2
    by_cases h1 : i ≤ p ∧ j ≤ q ∧ (p - i < k ∨ (p - i = k ∧ q - j < l))
    · rw [if_pos h1, if_pos (by omega)]
    · rw [if_neg h1, if_neg (by omega)]))
theorem S2_succ (d : Nat) (a b : Nat → Nat → Int) (i j p q : Nat) : S2 d a b i (j + 1) p q = S2 d a b i j p q + tr2 a b p q i j := by
  unfold S2 rowS
  rw [Ser.psum]; omega
theorem T2_end (m : Int) (d : Nat) (a b : Nat → Nat → Int) (i j k : Nat) (h : d < i + j + k) : tab m d (T2 d a b i j k 0) = tab m d (S2 d a b i (j + 1)) :=
  tab_congr (Eq.of m d (fun p q hpq => by
    rw [S2_succ]
    unfold T2 tr2
    by_cases h1 : i ≤ p ∧ j ≤ q
    · rw [if_pos (by omega), if_pos h1]
    · rw [if_neg (by omega), if_neg h1]))
theorem S2_skip (m : Int) (d : Nat) (a b : Nat → Nat → Int) (i j : Nat) (h : a i j = 0) : tab m d (S2 d a b i j) = tab m d (S2 d a b i (j + 1)) :=
  tab_congr (Eq.of m d (fun p q hpq => by
    rw [S2_succ]
    unfold tr2
    rw [h]; simp))
theorem S2_next (m : Int) (d : Nat) (a b : Nat → Nat → Int) (i j : Nat) (h : i + j = d + 1) : tab m d (S2 d a b i j) = tab m d (S2 d a b (i + 1) 0) :=
  tab_congr (Eq.of m d (fun p q hpq => by
    unfold S2
    rw [Ser.psum, show d + 1 - i = j by omega]
    simp [rowS, Ser.psum]))
theorem S2_last (m : Int) (d : Nat) (a b : Nat → Nat → Int) : tab m d (S2 d a b (d + 1) 0) = tab m d (mul2 a b) :=
  tab_congr (Eq.of m d (fun p q hpq => by
    have h0 : rowS a b p q (d + 1) 0 = 0 := rfl
    unfold S2 mul2
    rw [h0, Int.add_zero, psum_cut _ (p + 1) (d + 1) (by omega) (fun i h1 h2 => by
      unfold rowS
      rw [psum_cut _ 0 _ (Nat.zero_le _) (fun j _ _ => by unfold tr2; rw [if_neg (by omega)])]; rfl)]
    refine Ser.psum_ext _ (fun i hi => ?_)
    unfold rowS
    rw [psum_cut _ (q + 1) (d + 1 - i) (by omega) (fun j h1 h2 => by unfold tr2; rw [if_neg (by omega)])]
    exact Ser.psum_ext _ (fun j hj => by unfold tr2; rw [if_pos (by omega)])))
/-- bounds -/
theorem psum_bd2 (f : Nat → Int) (B : Int) (hf : ∀ i, 0 ≤ f i ∧ f i ≤ B) : ∀ n : Nat, 0 ≤ Ser.psum f n ∧ Ser.psum f n ≤ n * B := by
  intro n
  induction n with
  | zero => simp [Ser.psum]
  | succ n ih =>
    have := hf n
    have e : ((n + 1 : Nat) : Int) * B = n * B + B := by rw [show ((n + 1 : Nat) : Int) = (n : Int) + 1 by omega, Int.add_mul, Int.one_mul]
    rw [Ser.psum, e]
    omega
theorem prod_bd {x y : Int} (h1 : 0 ≤ x) (h2 : x ≤ 10000) (h3 : 0 ≤ y) (h4 : y ≤ 10000) : 0 ≤ x * y ∧ x * y ≤ 100000000 := by
  refine ⟨Int.mul_nonneg h1 h3, ?_⟩
  have a := Int.mul_le_mul_of_nonneg_left (c := x) h4 h1
  omega
end Pl
end Go.Proofs.Ytjgpdgoclianlaa
