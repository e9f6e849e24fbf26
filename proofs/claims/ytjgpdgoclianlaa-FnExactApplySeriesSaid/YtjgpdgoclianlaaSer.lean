/- Plain theory of power series over the integers, and of congruence modulo m up to a degree: no program in sight. -/
namespace Go.Proofs.Ytjgpdgoclianlaa
namespace Ser

/-- the series behind its constant -/
def sh (a : Nat → Int) : Nat → Int := fun i => a (i + 1)
/-- the coefficient of t^n in a b -/
def cv : Nat → (Nat → Int) → (Nat → Int) → Int
  | 0, a, b => a 0 * b 0
  | n + 1, a, b => a 0 * b (n + 1) + cv n (sh a) b
/-- the product -/
def mul (a b : Nat → Int) : Nat → Int := fun n => cv n a b
theorem cv_zero (a b : Nat → Int) : cv 0 a b = a 0 * b 0 := rfl
theorem cv_succ (n : Nat) (a b : Nat → Int) : cv (n + 1) a b = a 0 * b (n + 1) + cv n (sh a) b := rfl
theorem mul_at (a b : Nat → Int) (n : Nat) : mul a b n = cv n a b := rfl

theorem cv_add (a a' : Nat → Int) (b : Nat → Int) : ∀ n, cv n (fun i => a i + a' i) b = cv n a b + cv n a' b := by
  intro n
  induction n generalizing a a' with
  | zero => simp only [cv_zero]; exact Int.add_mul _ _ _
  | succ n ih =>
    simp only [cv_succ]
    have := ih (sh a) (sh a')
    have e : (sh fun i => a i + a' i) = fun i => sh a i + sh a' i := rfl
    rw [e, this, Int.add_mul]
    omega
theorem cv_smul (c : Int) (a b : Nat → Int) : ∀ n, cv n (fun i => c * a i) b = c * cv n a b := by
  intro n
  induction n generalizing a with
  | zero => simp only [cv_zero]; exact Int.mul_assoc _ _ _
  | succ n ih =>
    simp only [cv_succ]
    have e : (sh fun i => c * a i) = fun i => c * sh a i := rfl
    rw [e, ih, Int.mul_assoc, Int.mul_add]
theorem cv_zero_left (b : Nat → Int) : ∀ n, cv n (fun _ => 0) b = 0 := by
  intro n
  induction n with
  | zero => simp [cv_zero]
  | succ n ih =>
    rw [cv_succ]
    have e : (sh fun _ => (0 : Int)) = fun _ => 0 := rfl
    rw [e, ih]; simp
/-- the same recursion from the other side -/
theorem cv_succ' (a b : Nat → Int) : ∀ n, cv (n + 1) a b = cv n a (sh b) + a (n + 1) * b 0 := by
  intro n
  induction n generalizing a with
  | zero => simp only [cv_succ, cv_zero, sh]
  | succ n ih =>
    rw [cv_succ (n + 1), ih (sh a), cv_succ n a (sh b)]
    simp only [sh]
    omega
theorem cv_comm (a b : Nat → Int) : ∀ n, cv n a b = cv n b a := by
  intro n
  induction n generalizing a with
  | zero => simp only [cv_zero]; exact Int.mul_comm _ _
  | succ n ih => rw [cv_succ, cv_succ' b a, ih, Int.mul_comm (a 0)]; omega
theorem mul_comm (a b : Nat → Int) : mul a b = mul b a := funext fun n => cv_comm a b n
theorem sh_mul (a b : Nat → Int) : sh (mul a b) = fun i => a 0 * sh b i + mul (sh a) b i := rfl
theorem cv_assoc (a b c : Nat → Int) : ∀ n, cv n (mul a b) c = cv n a (mul b c) := by
  intro n
  induction n generalizing a with
  | zero => simp only [cv_zero, mul_at]; exact Int.mul_assoc _ _ _
  | succ n ih =>
    rw [cv_succ, sh_mul, cv_add, cv_smul, ih, cv_succ n a, mul_at, mul_at, cv_zero, cv_succ, Int.mul_add, Int.mul_assoc]
    omega
theorem mul_assoc (a b c : Nat → Int) : mul (mul a b) c = mul a (mul b c) := funext fun n => cv_assoc a b c n
theorem add_mul (a a' b : Nat → Int) : mul (fun i => a i + a' i) b = fun i => mul a b i + mul a' b i := funext fun n => cv_add a a' b n
theorem mul_add (a b b' : Nat → Int) : mul a (fun i => b i + b' i) = fun i => mul a b i + mul a b' i := by
  rw [mul_comm, add_mul, mul_comm b, mul_comm b']
theorem smul_mul (c : Int) (a b : Nat → Int) : mul (fun i => c * a i) b = fun i => c * mul a b i := funext fun n => cv_smul c a b n
theorem mul_smul (c : Int) (a b : Nat → Int) : mul a (fun i => c * b i) = fun i => c * mul a b i := by
  rw [mul_comm, smul_mul, mul_comm b]

/-- c t^k -/
def mon (k : Nat) (c : Int) : Nat → Int := fun n => if n = k then c else 0
theorem sh_mon0 (c : Int) : sh (mon 0 c) = fun _ => 0 := by funext i; simp [sh, mon]
theorem cv_const (c : Int) (b : Nat → Int) : ∀ n, cv n (mon 0 c) b = c * b n := by
  intro n
  cases n with
  | zero => simp [cv_zero, mon]
  | succ n => rw [cv_succ, sh_mon0, cv_zero_left]; simp [mon]
theorem const_mul (c : Int) (b : Nat → Int) : mul (mon 0 c) b = fun i => c * b i := funext fun n => cv_const c b n
theorem one_mul (b : Nat → Int) : mul (mon 0 1) b = b := by rw [const_mul]; funext i; simp
theorem mul_one (b : Nat → Int) : mul b (mon 0 1) = b := by rw [mul_comm, one_mul]

/-- equal up to t^n -/
def Eq (m : Int) (n : Nat) (a b : Nat → Int) : Prop := ∀ i, i ≤ n → a i % m = b i % m
theorem Eq.refl (m : Int) (n : Nat) (a : Nat → Int) : Eq m n a a := fun _ _ => rfl
theorem Eq.of (m : Int) (n : Nat) {a b : Nat → Int} (h : ∀ i, i ≤ n → a i = b i) : Eq m n a b := fun i hi => by rw [h i hi]
theorem Eq.symm {m : Int} {n : Nat} {a b : Nat → Int} (h : Eq m n a b) : Eq m n b a := fun i hi => (h i hi).symm
theorem Eq.trans {m : Int} {n : Nat} {a b c : Nat → Int} (h : Eq m n a b) (k : Eq m n b c) : Eq m n a c := fun i hi => (h i hi).trans (k i hi)
theorem Eq.less {m : Int} {n k : Nat} {a b : Nat → Int} (h : Eq m n a b) (hk : k ≤ n) : Eq m k a b := fun i hi => h i (Nat.le_trans hi hk)
theorem modEq (m x y : Int) : x % m = y % m ↔ m ∣ x - y := ⟨fun h => Int.dvd_of_emod_eq_zero (Int.emod_eq_emod_iff_emod_sub_eq_zero.1 h), fun h => Int.emod_eq_emod_iff_emod_sub_eq_zero.2 (Int.emod_eq_zero_of_dvd h)⟩
theorem add_cong {m x y z u : Int} (h : x % m = y % m) (k : z % m = u % m) : (x + z) % m = (y + u) % m := by
  rw [Int.add_emod, h, k, ← Int.add_emod]
theorem sub_cong {m x y z u : Int} (h : x % m = y % m) (k : z % m = u % m) : (x - z) % m = (y - u) % m := by
  rw [Int.sub_emod, h, k, ← Int.sub_emod]
theorem mul_cong {m x y z u : Int} (h : x % m = y % m) (k : z % m = u % m) : (x * z) % m = (y * u) % m := by
  rw [Int.mul_emod, h, k, ← Int.mul_emod]
theorem cv_congr {m : Int} {a a' b b' : Nat → Int} : ∀ n, Eq m n a a' → Eq m n b b' → cv n a b % m = cv n a' b' % m := by
  intro n
  induction n generalizing a a' with
  | zero => intro h k; exact mul_cong (h 0 (Nat.le_refl _)) (k 0 (Nat.le_refl _))
  | succ n ih =>
    intro h k
    exact add_cong (mul_cong (h 0 (Nat.zero_le _)) (k _ (Nat.le_refl _))) (ih (fun i hi => h (i + 1) (by omega)) (k.less (by omega)))
theorem Eq.mul {m : Int} {n : Nat} {a a' b b' : Nat → Int} (h : Eq m n a a') (k : Eq m n b b') : Eq m n (mul a b) (mul a' b') :=
  fun i hi => cv_congr i (h.less hi) (k.less hi)
theorem Eq.add {m : Int} {n : Nat} {a a' b b' : Nat → Int} (h : Eq m n a a') (k : Eq m n b b') : Eq m n (fun i => a i + b i) (fun i => a' i + b' i) :=
  fun i hi => add_cong (h i hi) (k i hi)
theorem Eq.sub {m : Int} {n : Nat} {a a' b b' : Nat → Int} (h : Eq m n a a') (k : Eq m n b b') : Eq m n (fun i => a i - b i) (fun i => a' i - b' i) :=
  fun i hi => sub_cong (h i hi) (k i hi)
theorem Eq.smul {m : Int} {n : Nat} {b b' : Nat → Int} (c : Int) (k : Eq m n b b') : Eq m n (fun i => c * b i) (fun i => c * b' i) :=
  fun i hi => mul_cong rfl (k i hi)
/-- a product with a series without a constant asks one coefficient less of the other -/
theorem cv_congr_curve {m : Int} {f f' b b' : Nat → Int} {n : Nat} (hf : f 0 % m = 0) (hf' : f' 0 % m = 0) (h : Eq m n f f') (k : ∀ i, i < n → b i % m = b' i % m) : cv n f b % m = cv n f' b' % m := by
  cases n with
  | zero =>
    rw [cv_zero, cv_zero, Int.mul_emod, hf, Int.mul_emod (f' 0), hf']; simp
  | succ n =>
    rw [cv_succ, cv_succ]
    refine add_cong ?_ (cv_congr n (fun i hi => h (i + 1) (by omega)) (fun i hi => k i (by omega)))
    rw [Int.mul_emod, hf, Int.mul_emod (f' 0), hf']; simp

/-! sums of equal many terms -/
def psum (f : Nat → Int) : Nat → Int
  | 0 => 0
  | k + 1 => psum f k + f k
theorem psum_left (f : Nat → Int) : ∀ k, psum f (k + 1) = f 0 + psum (fun i => f (i + 1)) k := by
  intro k
  induction k with
  | zero => simp [psum]
  | succ k ih => rw [psum, ih, psum]; omega
theorem psum_ext {f g : Nat → Int} : ∀ k, (∀ i, i < k → f i = g i) → psum f k = psum g k := by
  intro k
  induction k with
  | zero => intro _; rfl
  | succ k ih => intro h; rw [psum, psum, ih (fun i hi => h i (by omega)), h k (by omega)]
theorem cv_psum : ∀ (n : Nat) (a b : Nat → Int), cv n a b = psum (fun i => a i * b (n - i)) (n + 1) := by
  intro n
  induction n with
  | zero => intro a b; simp [cv_zero, psum]
  | succ n ih =>
    intro a b
    rw [psum_left, cv_succ, ih]
    congr 1
    exact psum_ext _ (fun i hi => by simp [sh])

/-! composition, by Horner's rule -/
def hor : Nat → (Nat → Int) → (Nat → Int) → Nat → Int
  | 0, a, _ => mon 0 (a 0)
  | k + 1, a, f => fun i => mon 0 (a 0) i + mul f (hor k (sh a) f) i
def comp (a f : Nat → Int) : Nat → Int := fun n => hor n a f n
theorem hor_zero (a f : Nat → Int) : hor 0 a f = mon 0 (a 0) := rfl
theorem hor_succ (k : Nat) (a f : Nat → Int) : hor (k + 1) a f = fun i => mon 0 (a 0) i + mul f (hor k (sh a) f) i := rfl
theorem cv_ext {a a' b b' : Nat → Int} : ∀ n, (∀ i, i ≤ n → a i = a' i) → (∀ i, i ≤ n → b i = b' i) → cv n a b = cv n a' b' := by
  intro n
  induction n generalizing a a' with
  | zero => intro h k; rw [cv_zero, cv_zero, h 0 (Nat.le_refl _), k 0 (Nat.le_refl _)]
  | succ n ih =>
    intro h k
    rw [cv_succ, cv_succ, h 0 (Nat.zero_le _), k _ (Nat.le_refl _)]
    congr 1
    exact ih (fun i hi => h (i + 1) (by omega)) (fun i hi => k i (by omega))
theorem cv_ext_curve {f b b' : Nat → Int} {n : Nat} (hf : f 0 = 0) (k : ∀ i, i < n → b i = b' i) : cv n f b = cv n f b' := by
  cases n with
  | zero => rw [cv_zero, cv_zero, hf]; simp
  | succ n => rw [cv_succ, cv_succ, hf, cv_ext n (fun _ _ => rfl) (fun i hi => k i (by omega))]; simp
theorem hor_stable {f : Nat → Int} (hf : f 0 = 0) : ∀ (k : Nat) (a : Nat → Int) (i : Nat), i ≤ k → hor (k + 1) a f i = hor k a f i := by
  intro k
  induction k with
  | zero =>
    intro a i hi
    obtain rfl : i = 0 := by omega
    rw [hor_succ]
    simp [mul_at, cv_zero, hf, hor_zero]
  | succ k ih =>
    intro a i hi
    rw [hor_succ (k + 1), hor_succ k a]
    dsimp only
    rw [mul_at, mul_at, cv_ext_curve hf (fun j hj => ih (sh a) j (by omega))]
theorem hor_comp {f : Nat → Int} (hf : f 0 = 0) (a : Nat → Int) (k i : Nat) (h : i ≤ k) : hor k a f i = comp a f i := by
  induction k with
  | zero => obtain rfl : i = 0 := by omega
            rfl
  | succ k ih =>
    by_cases hi : i ≤ k
    · rw [hor_stable hf k a i hi, ih hi]
    · obtain rfl : i = k + 1 := by omega
      rfl
theorem comp_eq {f : Nat → Int} (hf : f 0 = 0) (a : Nat → Int) : comp a f = fun i => mon 0 (a 0) i + mul f (comp (sh a) f) i := by
  funext i
  rw [← hor_comp hf a (i + 1) i (by omega), hor_succ]
  dsimp only
  rw [mul_at, mul_at]
  congr 1
  exact cv_ext _ (fun _ _ => rfl) (fun j hj => hor_comp hf _ _ _ hj)
theorem comp_zero (a : Nat → Int) (f : Nat → Int) : comp a f 0 = a 0 := by simp [comp, hor, mon]
theorem comp_add {f : Nat → Int} (hf : f 0 = 0) : ∀ (n : Nat) (a b : Nat → Int), comp (fun i => a i + b i) f n = comp a f n + comp b f n := by
  intro n
  induction n using Nat.strongRecOn with
  | ind n ih =>
    intro a b
    rw [comp_eq hf (fun i => a i + b i), comp_eq hf a, comp_eq hf b]
    dsimp only
    have e : (sh fun i => a i + b i) = fun i => sh a i + sh b i := rfl
    rw [e, mul_at, mul_at, mul_at, cv_ext_curve (b' := fun i => comp (sh a) f i + comp (sh b) f i) hf (fun j hj => ih j hj _ _)]
    rw [cv_comm, cv_add, cv_comm _ f, cv_comm _ f]
    have : mon 0 (a 0 + b 0) n = mon 0 (a 0) n + mon 0 (b 0) n := by unfold mon; split <;> omega
    rw [this]; omega
theorem comp_smul {f : Nat → Int} (hf : f 0 = 0) (c : Int) : ∀ (n : Nat) (a : Nat → Int), comp (fun i => c * a i) f n = c * comp a f n := by
  intro n
  induction n using Nat.strongRecOn with
  | ind n ih =>
    intro a
    rw [comp_eq hf (fun i => c * a i), comp_eq hf a]
    dsimp only
    have e : (sh fun i => c * a i) = fun i => c * sh a i := rfl
    rw [e, mul_at, mul_at, cv_ext_curve (b' := fun i => c * comp (sh a) f i) hf (fun j hj => ih j hj _)]
    rw [cv_comm, cv_smul, cv_comm _ f, Int.mul_add]
    have : mon 0 (c * a 0) n = c * mon 0 (a 0) n := by unfold mon; split <;> simp
    rw [this]
theorem comp_mul {f : Nat → Int} (hf : f 0 = 0) : ∀ (n : Nat) (a b : Nat → Int), comp (mul a b) f n = cv n (comp a f) (comp b f) := by
  intro n
  induction n using Nat.strongRecOn with
  | ind n ih =>
    intro a b
    have e1 : comp (mul a b) f n = mon 0 (a 0 * b 0) n + cv n f (fun i => a 0 * comp (sh b) f i + mul (comp (sh a) f) (comp b f) i) := by
      rw [comp_eq hf (mul a b)]
      dsimp only
      rw [mul_at, sh_mul]
      congr 1
      refine cv_ext_curve hf (fun j hj => ?_)
      rw [comp_add hf, comp_smul hf, ih j hj]
      rfl
    have e2 : cv n (comp a f) (comp b f) = a 0 * comp b f n + cv n f (mul (comp (sh a) f) (comp b f)) := by
      rw [comp_eq hf a, cv_add, cv_const, cv_assoc]
    rw [e1, e2, cv_comm f, cv_add, cv_smul, cv_comm _ f, cv_comm _ f, comp_eq hf b]
    dsimp only
    rw [mul_at, Int.mul_add]
    have : mon 0 (a 0 * b 0) n = a 0 * mon 0 (b 0) n := by unfold mon; split <;> simp
    rw [this]; omega
theorem comp_comp {f g : Nat → Int} (hf : f 0 = 0) (hg : g 0 = 0) : ∀ (n : Nat) (a : Nat → Int), comp (comp a f) g n = comp a (comp f g) n := by
  have hfg : comp f g 0 = 0 := by rw [comp_zero, hf]
  intro n
  induction n using Nat.strongRecOn with
  | ind n ih =>
    intro a
    rw [comp_eq hf a, comp_add hg, comp_mul hg, comp_eq hfg a]
    dsimp only
    rw [mul_at, cv_ext_curve hfg (fun j hj => ih j hj (sh a))]
    congr 1
    rw [comp_eq hg]
    rw [sh_mon0]
    have e : comp (fun _ => 0) g = fun _ => 0 := by
      funext i
      have := comp_smul hg 0 i (fun _ => 0)
      simpa using this
    rw [e]
    dsimp only
    rw [mul_at, cv_comm, cv_zero_left]
    simp [mon]
/-- t is the unit of composition on both sides -/
theorem sh_t : sh (mon 1 1) = mon 0 1 := by funext i; simp [sh, mon]
theorem comp_const {f : Nat → Int} (hf : f 0 = 0) (c : Int) : comp (mon 0 c) f = mon 0 c := by
  rw [comp_eq hf, sh_mon0]
  have e : comp (fun _ => 0) f = fun _ => 0 := by
    funext i
    have := comp_smul hf 0 i (fun _ => 0)
    simpa using this
  funext i
  rw [e, mul_at, cv_comm, cv_zero_left]
  simp [mon]
theorem t_comp {f : Nat → Int} (hf : f 0 = 0) : comp (mon 1 1) f = f := by
  rw [comp_eq hf, sh_t, comp_const hf, mul_one]
  funext i
  simp [mon]
theorem cv_t (b : Nat → Int) (n : Nat) : cv n (mon 1 1) b = if n = 0 then 0 else b (n - 1) := by
  cases n with
  | zero => simp [cv_zero, mon]
  | succ n => rw [cv_succ, sh_t, cv_const]; simp [mon]
theorem comp_t : ∀ (n : Nat) (a : Nat → Int), comp a (mon 1 1) n = a n := by
  intro n
  induction n with
  | zero => intro a; rw [comp_zero]
  | succ n ih =>
    intro a
    rw [comp_eq (by simp [mon])]
    dsimp only
    rw [mul_at, cv_t, if_neg (by omega), Nat.add_sub_cancel, ih]
    simp [mon, sh]
/-- composition respects congruence -/
theorem comp_congr {m : Int} {f f' : Nat → Int} (hf : f 0 = 0) (hf' : f' 0 = 0) : ∀ (n : Nat) (a a' : Nat → Int), Eq m n a a' → Eq m n f f' → comp a f n % m = comp a' f' n % m := by
  intro n
  induction n using Nat.strongRecOn with
  | ind n ih =>
    intro a a' ha h
    rw [comp_eq hf, comp_eq hf']
    dsimp only
    refine add_cong ?_ ?_
    · unfold mon
      split
      · exact ha 0 (Nat.zero_le _)
      · rfl
    · rw [mul_at, mul_at]
      exact cv_congr_curve (by simp [hf]) (by simp [hf']) h (fun i hi => ih i hi _ _ (fun j hj => ha (j + 1) (by omega)) (h.less (by omega)))
theorem Eq.comp {m : Int} {n : Nat} {f f' a a' : Nat → Int} (hf : f 0 = 0) (hf' : f' 0 = 0) (ha : Eq m n a a') (h : Eq m n f f') : Eq m n (comp a f) (comp a' f') :=
  fun i hi => comp_congr hf hf' i a a' (ha.less hi) (h.less hi)
/-- an inverse on the left and one on the right are the same -/
theorem left_right {m : Int} {n : Nat} {f g h : Nat → Int} (hf : f 0 = 0) (hh : h 0 = 0) (l : Eq m n (comp g f) (mon 1 1)) (r : Eq m n (comp f h) (mon 1 1)) : Eq m n g h := by
  have hfh : comp f h 0 = 0 := by rw [comp_zero, hf]
  have a1 : Eq m n (comp g (comp f h)) g := (Eq.comp hfh (by simp [mon]) (Eq.refl m n g) r).trans (Eq.of m n (fun i _ => comp_t i g))
  have a2 : Eq m n (comp (comp g f) h) h := (Eq.comp hh hh l (Eq.refl m n h)).trans (Eq.of m n (fun i _ => by rw [t_comp hh]))
  have a3 : Eq m n (comp (comp g f) h) (comp g (comp f h)) := Eq.of m n (fun i _ => comp_comp hf hh i g)
  exact (a1.symm.trans a3.symm).trans a2

/-! the derivative -/
def th (a : Nat → Int) : Nat → Int := fun n => (n : Int) * a n
theorem th_mul (a b : Nat → Int) : ∀ n, cv n (th a) b + cv n a (th b) = (n : Int) * cv n a b := by
  intro n
  induction n generalizing a with
  | zero => simp [cv_zero, th]
  | succ n ih =>
    have e : sh (th a) = fun i => th (sh a) i + sh a i := by
      funext i
      simp only [sh, th]
      rw [show ((i + 1 : Nat) : Int) = (i : Int) + 1 by omega, Int.add_mul, Int.one_mul]
    have h1 := ih (sh a)
    have t1 : th a 0 = 0 := by simp [th]
    have t2 : th b (n + 1) = ((n : Int) + 1) * b (n + 1) := by simp [th]
    have t3 : ((n + 1 : Nat) : Int) = (n : Int) + 1 := by omega
    have e2 : a 0 * (((n : Int) + 1) * b (n + 1)) = ((n : Int) + 1) * (a 0 * b (n + 1)) := by rw [← Int.mul_assoc, Int.mul_comm (a 0), Int.mul_assoc]
    have e4 : ((n : Int) + 1) * cv n (sh a) b = (n : Int) * cv n (sh a) b + cv n (sh a) b := by rw [Int.add_mul, Int.one_mul]
    rw [cv_succ, cv_succ, cv_succ, e, cv_add, t1, t2, t3, Int.mul_add, e2, e4, Int.zero_mul]
    omega
/-- the derivative -/
def der (a : Nat → Int) : Nat → Int := fun n => ((n : Int) + 1) * a (n + 1)
theorem der_th (a : Nat → Int) : der a = sh (th a) := by funext i; simp [der, sh, th]
theorem der_mul (a b : Nat → Int) (n : Nat) : der (mul a b) n = cv n (der a) b + cv n a (der b) := by
  have h := th_mul a b (n + 1)
  rw [cv_succ n (th a), cv_succ' a (th b)] at h
  rw [der_th a, der_th b]
  simp only [th, der, mul_at] at *
  simp at h
  omega
end Ser
end Go.Proofs.Ytjgpdgoclianlaa
