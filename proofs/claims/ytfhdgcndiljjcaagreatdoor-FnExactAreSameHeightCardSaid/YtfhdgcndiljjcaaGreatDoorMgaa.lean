/- Texts of contracts, joined. -/
import Derived.WalkKit
import Derived.WalkSpells
import Derived.WalkLawsBesides
import Derived.ProofKit
import Derived.OpenShut
import Derived.Lib.Hide
import Derived.Test.YtfhdgcndiljjcaaGreatDoorProg
import Derived.RegionTactic
import Derived.Deep.RegionHeld3
import Derived.Deep.OwnRows
import Derived.Deep.QuietTactic
import Derived.BigQuiet
/- Plain theory of power series over the integers, and of congruence modulo m up to a degree: no program in sight. -/
namespace Go.Proofs.YtfhdgcndiljjcaaGreatDoor
namespace Ser

/-- the series behind its constant -/
def sh (a : Nat → Int) : Nat → Int := fun i => a (i + 1)
/-- the coefficient of t^n in a b -/
def cv : Nat → (Nat → Int) → (Nat → Int) → Int
  | 0, a, b => a 0 * b 0
  | n + 1, a, b => a 0 * b (n + 1) + cv n (sh a) b
/-- the product -/
def mul (a b : Nat → Int) : Nat → Int := fun n => cv n a b
theorem cv_zero (a b : Nat → Int) : cv 0 a b = a 0 * b 0 := rfl
theorem cv_succ (n : Nat) (a b : Nat → Int) : cv (n + 1) a b = a 0 * b (n + 1) + cv n (sh a) b := rfl
theorem mul_at (a b : Nat → Int) (n : Nat) : mul a b n = cv n a b := rfl

theorem cv_add (a a' : Nat → Int) (b : Nat → Int) : ∀ n, cv n (fun i => a i + a' i) b = cv n a b + cv n a' b := by
  intro n
  induction n generalizing a a' with
  | zero => simp only [cv_zero]; exact Int.add_mul _ _ _
  | succ n ih =>
    simp only [cv_succ]
    have := ih (sh a) (sh a')
    have e : (sh fun i => a i + a' i) = fun i => sh a i + sh a' i := rfl
    rw [e, this, Int.add_mul]
    omega
theorem cv_smul (c : Int) (a b : Nat → Int) : ∀ n, cv n (fun i => c * a i) b = c * cv n a b := by
  intro n
  induction n generalizing a with
  | zero => simp only [cv_zero]; exact Int.mul_assoc _ _ _
  | succ n ih =>
    simp only [cv_succ]
    have e : (sh fun i => c * a i) = fun i => c * sh a i := rfl
    rw [e, ih, Int.mul_assoc, Int.mul_add]
theorem cv_zero_left (b : Nat → Int) : ∀ n, cv n (fun _ => 0) b = 0 := by
  intro n
  induction n with
  | zero => simp [cv_zero]
  | succ n ih =>
    rw [cv_succ]
    have e : (sh fun _ => (0 : Int)) = fun _ => 0 := rfl
    rw [e, ih]; simp
/-- the same recursion from the other side -/
theorem cv_succ' (a b : Nat → Int) : ∀ n, cv (n + 1) a b = cv n a (sh b) + a (n + 1) * b 0 := by
  intro n
  induction n generalizing a with
  | zero => simp only [cv_succ, cv_zero, sh]
  | succ n ih =>
    rw [cv_succ (n + 1), ih (sh a), cv_succ n a (sh b)]
    simp only [sh]
    omega
theorem cv_comm (a b : Nat → Int) : ∀ n, cv n a b = cv n b a := by
  intro n
  induction n generalizing a with
  | zero => simp only [cv_zero]; exact Int.mul_comm _ _
  | succ n ih => rw [cv_succ, cv_succ' b a, ih, Int.mul_comm (a 0)]; omega
theorem mul_comm (a b : Nat → Int) : mul a b = mul b a := funext fun n => cv_comm a b n
theorem sh_mul (a b : Nat → Int) : sh (mul a b) = fun i => a 0 * sh b i + mul (sh a) b i := rfl
theorem cv_assoc (a b c : Nat → Int) : ∀ n, cv n (mul a b) c = cv n a (mul b c) := by
  intro n
  induction n generalizing a with
  | zero => simp only [cv_zero, mul_at]; exact Int.mul_assoc _ _ _
  | succ n ih =>
    rw [cv_succ, sh_mul, cv_add, cv_smul, ih, cv_succ n a, mul_at, mul_at, cv_zero, cv_succ, Int.mul_add, Int.mul_assoc]
    omega
theorem mul_assoc (a b c : Nat → Int) : mul (mul a b) c = mul a (mul b c) := funext fun n => cv_assoc a b c n
theorem add_mul (a a' b : Nat → Int) : mul (fun i => a i + a' i) b = fun i => mul a b i + mul a' b i := funext fun n => cv_add a a' b n
theorem mul_add (a b b' : Nat → Int) : mul a (fun i => b i + b' i) = fun i => mul a b i + mul a b' i := by
  rw [mul_comm, add_mul, mul_comm b, mul_comm b']
theorem smul_mul (c : Int) (a b : Nat → Int) : mul (fun i => c * a i) b = fun i => c * mul a b i := funext fun n => cv_smul c a b n
theorem mul_smul (c : Int) (a b : Nat → Int) : mul a (fun i => c * b i) = fun i => c * mul a b i := by
  rw [mul_comm, smul_mul, mul_comm b]

/-- c t^k -/
def mon (k : Nat) (c : Int) : Nat → Int := fun n => if n = k then c else 0
theorem sh_mon0 (c : Int) : sh (mon 0 c) = fun _ => 0 := by funext i; simp [sh, mon]
theorem cv_const (c : Int) (b : Nat → Int) : ∀ n, cv n (mon 0 c) b = c * b n := by
  intro n
  cases n with
  | zero => simp [cv_zero, mon]
  | succ n => rw [cv_succ, sh_mon0, cv_zero_left]; simp [mon]
theorem const_mul (c : Int) (b : Nat → Int) : mul (mon 0 c) b = fun i => c * b i := funext fun n => cv_const c b n
theorem one_mul (b : Nat → Int) : mul (mon 0 1) b = b := by rw [const_mul]; funext i; simp
theorem mul_one (b : Nat → Int) : mul b (mon 0 1) = b := by rw [mul_comm, one_mul]

/-- equal up to t^n -/
def Eq (m : Int) (n : Nat) (a b : Nat → Int) : Prop := ∀ i, i ≤ n → a i % m = b i % m
theorem Eq.refl (m : Int) (n : Nat) (a : Nat → Int) : Eq m n a a := fun _ _ => rfl
theorem Eq.of (m : Int) (n : Nat) {a b : Nat → Int} (h : ∀ i, i ≤ n → a i = b i) : Eq m n a b := fun i hi => by rw [h i hi]
theorem Eq.symm {m : Int} {n : Nat} {a b : Nat → Int} (h : Eq m n a b) : Eq m n b a := fun i hi => (h i hi).symm
theorem Eq.trans {m : Int} {n : Nat} {a b c : Nat → Int} (h : Eq m n a b) (k : Eq m n b c) : Eq m n a c := fun i hi => (h i hi).trans (k i hi)
theorem Eq.less {m : Int} {n k : Nat} {a b : Nat → Int} (h : Eq m n a b) (hk : k ≤ n) : Eq m k a b := fun i hi => h i (Nat.le_trans hi hk)
theorem modEq (m x y : Int) : x % m = y % m ↔ m ∣ x - y := ⟨fun h => Int.dvd_of_emod_eq_zero (Int.emod_eq_emod_iff_emod_sub_eq_zero.1 h), fun h => Int.emod_eq_emod_iff_emod_sub_eq_zero.2 (Int.emod_eq_zero_of_dvd h)⟩
theorem add_cong {m x y z u : Int} (h : x % m = y % m) (k : z % m = u % m) : (x + z) % m = (y + u) % m := by
  rw [Int.add_emod, h, k, ← Int.add_emod]
theorem sub_cong {m x y z u : Int} (h : x % m = y % m) (k : z % m = u % m) : (x - z) % m = (y - u) % m := by
  rw [Int.sub_emod, h, k, ← Int.sub_emod]
theorem mul_cong {m x y z u : Int} (h : x % m = y % m) (k : z % m = u % m) : (x * z) % m = (y * u) % m := by
  rw [Int.mul_emod, h, k, ← Int.mul_emod]
theorem cv_congr {m : Int} {a a' b b' : Nat → Int} : ∀ n, Eq m n a a' → Eq m n b b' → cv n a b % m = cv n a' b' % m := by
  intro n
  induction n generalizing a a' with
  | zero => intro h k; exact mul_cong (h 0 (Nat.le_refl _)) (k 0 (Nat.le_refl _))
  | succ n ih =>
    intro h k
    exact add_cong (mul_cong (h 0 (Nat.zero_le _)) (k _ (Nat.le_refl _))) (ih (fun i hi => h (i + 1) (by omega)) (k.less (by omega)))
theorem Eq.mul {m : Int} {n : Nat} {a a' b b' : Nat → Int} (h : Eq m n a a') (k : Eq m n b b') : Eq m n (mul a b) (mul a' b') :=
  fun i hi => cv_congr i (h.less hi) (k.less hi)
theorem Eq.add {m : Int} {n : Nat} {a a' b b' : Nat → Int} (h : Eq m n a a') (k : Eq m n b b') : Eq m n (fun i => a i + b i) (fun i => a' i + b' i) :=
  fun i hi => add_cong (h i hi) (k i hi)
theorem Eq.sub {m : Int} {n : Nat} {a a' b b' : Nat → Int} (h : Eq m n a a') (k : Eq m n b b') : Eq m n (fun i => a i - b i) (fun i => a' i - b' i) :=
  fun i hi => sub_cong (h i hi) (k i hi)
theorem Eq.smul {m : Int} {n : Nat} {b b' : Nat → Int} (c : Int) (k : Eq m n b b') : Eq m n (fun i => c * b i) (fun i => c * b' i) :=
  fun i hi => mul_cong rfl (k i hi)
/-- a product with a series without a constant asks one coefficient less of the other -/
theorem cv_congr_curve {m : Int} {f f' b b' : Nat → Int} {n : Nat} (hf : f 0 % m = 0) (hf' : f' 0 % m = 0) (h : Eq m n f f') (k : ∀ i, i < n → b i % m = b' i % m) : cv n f b % m = cv n f' b' % m := by
  cases n with
  | zero =>
    rw [cv_zero, cv_zero, Int.mul_emod, hf, Int.mul_emod (f' 0), hf']; simp
  | succ n =>
    rw [cv_succ, cv_succ]
    refine add_cong ?_ (cv_congr n (fun i hi => h (i + 1) (by omega)) (fun i hi => k i (by omega)))
    rw [Int.mul_emod, hf, Int.mul_emod (f' 0), hf']; simp

/-! sums of equal many terms -/
def psum (f : Nat → Int) : Nat → Int
  | 0 => 0
  | k + 1 => psum f k + f k
theorem psum_left (f : Nat → Int) : ∀ k, psum f (k + 1) = f 0 + psum (fun i => f (i + 1)) k := by
  intro k
  induction k with
  | zero => simp [psum]
  | succ k ih => rw [psum, ih, psum]; omega
theorem psum_ext {f g : Nat → Int} : ∀ k, (∀ i, i < k → f i = g i) → psum f k = psum g k := by
  intro k
  induction k with
  | zero => intro _; rfl
  | succ k ih => intro h; rw [psum, psum, ih (fun i hi => h i (by omega)), h k (by omega)]
theorem cv_psum : ∀ (n : Nat) (a b : Nat → Int), cv n a b = psum (fun i => a i * b (n - i)) (n + 1) := by
  intro n
  induction n with
  | zero => intro a b; simp [cv_zero, psum]
  | succ n ih =>
    intro a b
    rw [psum_left, cv_succ, ih]
    congr 1
    exact psum_ext _ (fun i hi => by simp [sh])

/-! composition, by Horner's rule -/
def hor : Nat → (Nat → Int) → (Nat → Int) → Nat → Int
  | 0, a, _ => mon 0 (a 0)
  | k + 1, a, f => fun i => mon 0 (a 0) i + mul f (hor k (sh a) f) i
def comp (a f : Nat → Int) : Nat → Int := fun n => hor n a f n
theorem hor_zero (a f : Nat → Int) : hor 0 a f = mon 0 (a 0) := rfl
theorem hor_succ (k : Nat) (a f : Nat → Int) : hor (k + 1) a f = fun i => mon 0 (a 0) i + mul f (hor k (sh a) f) i := rfl
theorem cv_ext {a a' b b' : Nat → Int} : ∀ n, (∀ i, i ≤ n → a i = a' i) → (∀ i, i ≤ n → b i = b' i) → cv n a b = cv n a' b' := by
  intro n
  induction n generalizing a a' with
  | zero => intro h k; rw [cv_zero, cv_zero, h 0 (Nat.le_refl _), k 0 (Nat.le_refl _)]
  | succ n ih =>
    intro h k
    rw [cv_succ, cv_succ, h 0 (Nat.zero_le _), k _ (Nat.le_refl _)]
    congr 1
    exact ih (fun i hi => h (i + 1) (by omega)) (fun i hi => k i (by omega))
theorem cv_ext_curve {f b b' : Nat → Int} {n : Nat} (hf : f 0 = 0) (k : ∀ i, i < n → b i = b' i) : cv n f b = cv n f b' := by
  cases n with
  | zero => rw [cv_zero, cv_zero, hf]; simp
  | succ n => rw [cv_succ, cv_succ, hf, cv_ext n (fun _ _ => rfl) (fun i hi => k i (by omega))]; simp
theorem hor_stable {f : Nat → Int} (hf : f 0 = 0) : ∀ (k : Nat) (a : Nat → Int) (i : Nat), i ≤ k → hor (k + 1) a f i = hor k a f i := by
  intro k
  induction k with
  | zero =>
    intro a i hi
    obtain rfl : i = 0 := by omega
    rw [hor_succ]
    simp [mul_at, cv_zero, hf, hor_zero]
  | succ k ih =>
    intro a i hi
    rw [hor_succ (k + 1), hor_succ k a]
    dsimp only
    rw [mul_at, mul_at, cv_ext_curve hf (fun j hj => ih (sh a) j (by omega))]
theorem hor_comp {f : Nat → Int} (hf : f 0 = 0) (a : Nat → Int) (k i : Nat) (h : i ≤ k) : hor k a f i = comp a f i := by
  induction k with
  | zero => obtain rfl : i = 0 := by omega
            rfl
  | succ k ih =>
    by_cases hi : i ≤ k
    · rw [hor_stable hf k a i hi, ih hi]
    · obtain rfl : i = k + 1 := by omega
      rfl
theorem comp_eq {f : Nat → Int} (hf : f 0 = 0) (a : Nat → Int) : comp a f = fun i => mon 0 (a 0) i + mul f (comp (sh a) f) i := by
  funext i
  rw [← hor_comp hf a (i + 1) i (by omega), hor_succ]
  dsimp only
  rw [mul_at, mul_at]
  congr 1
  exact cv_ext _ (fun _ _ => rfl) (fun j hj => hor_comp hf _ _ _ hj)
theorem comp_zero (a : Nat → Int) (f : Nat → Int) : comp a f 0 = a 0 := by simp [comp, hor, mon]
theorem comp_add {f : Nat → Int} (hf : f 0 = 0) : ∀ (n : Nat) (a b : Nat → Int), comp (fun i => a i + b i) f n = comp a f n + comp b f n := by
  intro n
  induction n using Nat.strongRecOn with
  | ind n ih =>
    intro a b
    rw [comp_eq hf (fun i => a i + b i), comp_eq hf a, comp_eq hf b]
    dsimp only
    have e : (sh fun i => a i + b i) = fun i => sh a i + sh b i := rfl
    rw [e, mul_at, mul_at, mul_at, cv_ext_curve (b' := fun i => comp (sh a) f i + comp (sh b) f i) hf (fun j hj => ih j hj _ _)]
    rw [cv_comm, cv_add, cv_comm _ f, cv_comm _ f]
    have : mon 0 (a 0 + b 0) n = mon 0 (a 0) n + mon 0 (b 0) n := by unfold mon; split <;> omega
    rw [this]; omega
theorem comp_smul {f : Nat → Int} (hf : f 0 = 0) (c : Int) : ∀ (n : Nat) (a : Nat → Int), comp (fun i => c * a i) f n = c * comp a f n := by
  intro n
  induction n using Nat.strongRecOn with
  | ind n ih =>
    intro a
    rw [comp_eq hf (fun i => c * a i), comp_eq hf a]
    dsimp only
    have e : (sh fun i => c * a i) = fun i => c * sh a i := rfl
    rw [e, mul_at, mul_at, cv_ext_curve (b' := fun i => c * comp (sh a) f i) hf (fun j hj => ih j hj _)]
    rw [cv_comm, cv_smul, cv_comm _ f, Int.mul_add]
    have : mon 0 (c * a 0) n = c * mon 0 (a 0) n := by unfold mon; split <;> simp
    rw [this]
theorem comp_mul {f : Nat → Int} (hf : f 0 = 0) : ∀ (n : Nat) (a b : Nat → Int), comp (mul a b) f n = cv n (comp a f) (comp b f) := by
  intro n
  induction n using Nat.strongRecOn with
  | ind n ih =>
    intro a b
    have e1 : comp (mul a b) f n = mon 0 (a 0 * b 0) n + cv n f (fun i => a 0 * comp (sh b) f i + mul (comp (sh a) f) (comp b f) i) := by
      rw [comp_eq hf (mul a b)]
      dsimp only
      rw [mul_at, sh_mul]
      congr 1
      refine cv_ext_curve hf (fun j hj => ?_)
      rw [comp_add hf, comp_smul hf, ih j hj]
      rfl
    have e2 : cv n (comp a f) (comp b f) = a 0 * comp b f n + cv n f (mul (comp (sh a) f) (comp b f)) := by
      rw [comp_eq hf a, cv_add, cv_const, cv_assoc]
    rw [e1, e2, cv_comm f, cv_add, cv_smul, cv_comm _ f, cv_comm _ f, comp_eq hf b]
    dsimp only
    rw [mul_at, Int.mul_add]
    have : mon 0 (a 0 * b 0) n = a 0 * mon 0 (b 0) n := by unfold mon; split <;> simp
    rw [this]; omega
theorem comp_comp {f g : Nat → Int} (hf : f 0 = 0) (hg : g 0 = 0) : ∀ (n : Nat) (a : Nat → Int), comp (comp a f) g n = comp a (comp f g) n := by
  have hfg : comp f g 0 = 0 := by rw [comp_zero, hf]
  intro n
  induction n using Nat.strongRecOn with
  | ind n ih =>
    intro a
    rw [comp_eq hf a, comp_add hg, comp_mul hg, comp_eq hfg a]
    dsimp only
    rw [mul_at, cv_ext_curve hfg (fun j hj => ih j hj (sh a))]
    congr 1
    rw [comp_eq hg]
    rw [sh_mon0]
    have e : comp (fun _ => 0) g = fun _ => 0 := by
      funext i
      have := comp_smul hg 0 i (fun _ => 0)
      simpa using this
    rw [e]
    dsimp only
    rw [mul_at, cv_comm, cv_zero_left]
    simp [mon]
/-- t is the unit of composition on both sides -/
theorem sh_t : sh (mon 1 1) = mon 0 1 := by funext i; simp [sh, mon]
theorem comp_const {f : Nat → Int} (hf : f 0 = 0) (c : Int) : comp (mon 0 c) f = mon 0 c := by
  rw [comp_eq hf, sh_mon0]
  have e : comp (fun _ => 0) f = fun _ => 0 := by
    funext i
    have := comp_smul hf 0 i (fun _ => 0)
    simpa using this
  funext i
  rw [e, mul_at, cv_comm, cv_zero_left]
  simp [mon]
theorem t_comp {f : Nat → Int} (hf : f 0 = 0) : comp (mon 1 1) f = f := by
  rw [comp_eq hf, sh_t, comp_const hf, mul_one]
  funext i
  simp [mon]
theorem cv_t (b : Nat → Int) (n : Nat) : cv n (mon 1 1) b = if n = 0 then 0 else b (n - 1) := by
  cases n with
  | zero => simp [cv_zero, mon]
  | succ n => rw [cv_succ, sh_t, cv_const]; simp [mon]
theorem comp_t : ∀ (n : Nat) (a : Nat → Int), comp a (mon 1 1) n = a n := by
  intro n
  induction n with
  | zero => intro a; rw [comp_zero]
  | succ n ih =>
    intro a
    rw [comp_eq (by simp [mon])]
    dsimp only
    rw [mul_at, cv_t, if_neg (by omega), Nat.add_sub_cancel, ih]
    simp [mon, sh]
/-- composition respects congruence -/
theorem comp_congr {m : Int} {f f' : Nat → Int} (hf : f 0 = 0) (hf' : f' 0 = 0) : ∀ (n : Nat) (a a' : Nat → Int), Eq m n a a' → Eq m n f f' → comp a f n % m = comp a' f' n % m := by
  intro n
  induction n using Nat.strongRecOn with
  | ind n ih =>
    intro a a' ha h
    rw [comp_eq hf, comp_eq hf']
    dsimp only
    refine add_cong ?_ ?_
    · unfold mon
      split
      · exact ha 0 (Nat.zero_le _)
      · rfl
    · rw [mul_at, mul_at]
      exact cv_congr_curve (by simp [hf]) (by simp [hf']) h (fun i hi => ih i hi _ _ (fun j hj => ha (j + 1) (by omega)) (h.less (by omega)))
theorem Eq.comp {m : Int} {n : Nat} {f f' a a' : Nat → Int} (hf : f 0 = 0) (hf' : f' 0 = 0) (ha : Eq m n a a') (h : Eq m n f f') : Eq m n (comp a f) (comp a' f') :=
  fun i hi => comp_congr hf hf' i a a' (ha.less hi) (h.less hi)
/-- an inverse on the left and one on the right are the same -/
theorem left_right {m : Int} {n : Nat} {f g h : Nat → Int} (hf : f 0 = 0) (hh : h 0 = 0) (l : Eq m n (comp g f) (mon 1 1)) (r : Eq m n (comp f h) (mon 1 1)) : Eq m n g h := by
  have hfh : comp f h 0 = 0 := by rw [comp_zero, hf]
  have a1 : Eq m n (comp g (comp f h)) g := (Eq.comp hfh (by simp [mon]) (Eq.refl m n g) r).trans (Eq.of m n (fun i _ => comp_t i g))
  have a2 : Eq m n (comp (comp g f) h) h := (Eq.comp hh hh l (Eq.refl m n h)).trans (Eq.of m n (fun i _ => by rw [t_comp hh]))
  have a3 : Eq m n (comp (comp g f) h) (comp g (comp f h)) := Eq.of m n (fun i _ => comp_comp hf hh i g)
  exact (a1.symm.trans a3.symm).trans a2

/-! the derivative -/
def th (a : Nat → Int) : Nat → Int := fun n => (n : Int) * a n
theorem th_mul (a b : Nat → Int) : ∀ n, cv n (th a) b + cv n a (th b) = (n : Int) * cv n a b := by
  intro n
  induction n generalizing a with
  | zero => simp [cv_zero, th]
  | succ n ih =>
    have e : sh (th a) = fun i => th (sh a) i + sh a i := by
      funext i
      simp only [sh, th]
      rw [show ((i + 1 : Nat) : Int) = (i : Int) + 1 by omega, Int.add_mul, Int.one_mul]
    have h1 := ih (sh a)
    have t1 : th a 0 = 0 := by simp [th]
    have t2 : th b (n + 1) = ((n : Int) + 1) * b (n + 1) := by simp [th]
    have t3 : ((n + 1 : Nat) : Int) = (n : Int) + 1 := by omega
    have e2 : a 0 * (((n : Int) + 1) * b (n + 1)) = ((n : Int) + 1) * (a 0 * b (n + 1)) := by rw [← Int.mul_assoc, Int.mul_comm (a 0), Int.mul_assoc]
    have e4 : ((n : Int) + 1) * cv n (sh a) b = (n : Int) * cv n (sh a) b + cv n (sh a) b := by rw [Int.add_mul, Int.one_mul]
    rw [cv_succ, cv_succ, cv_succ, e, cv_add, t1, t2, t3, Int.mul_add, e2, e4, Int.zero_mul]
    omega
/-- the derivative -/
def der (a : Nat → Int) : Nat → Int := fun n => ((n : Int) + 1) * a (n + 1)
theorem der_th (a : Nat → Int) : der a = sh (th a) := by funext i; simp [der, sh, th]
theorem der_mul (a b : Nat → Int) (n : Nat) : der (mul a b) n = cv n (der a) b + cv n a (der b) := by
  have h := th_mul a b (n + 1)
  rw [cv_succ n (th a), cv_succ' a (th b)] at h
  rw [der_th a, der_th b]
  simp only [th, der, mul_at] at *
  simp at h
  omega
end Ser
end Go.Proofs.YtfhdgcndiljjcaaGreatDoor

/- Lists of coefficients modulo m up to a degree: the steps of the algorithms on them, of the program and of the model. Plain: no program in sight. -/
namespace Go.Proofs.YtfhdgcndiljjcaaGreatDoor
namespace Ser

/-- the series with a list of coefficients -/
def co (l : List Int) : Nat → Int := fun i => l[i]?.getD 0
/-- the list of the coefficients up to a degree, modulo m -/
def cut (m : Int) (d : Nat) (a : Nat → Int) : List Int := (List.range (d + 1)).map fun n => a n % m
theorem cut_length (m : Int) (d : Nat) (a : Nat → Int) : (cut m d a).length = d + 1 := by simp [cut]
theorem co_cut {m : Int} {d : Nat} {a : Nat → Int} {i : Nat} (h : i ≤ d) : co (cut m d a) i = a i % m := by
  unfold co cut
  rw [List.getElem?_map, List.getElem?_range (by omega)]; rfl
theorem co_over {l : List Int} {i : Nat} (h : l.length ≤ i) : co l i = 0 := by
  unfold co
  rw [List.getElem?_eq_none h]; rfl
theorem co_cut_eq (m : Int) (d : Nat) (a : Nat → Int) : Eq m d (co (cut m d a)) a := by
  intro i hi; rw [co_cut hi, Int.emod_emod]
theorem cut_congr {m : Int} {d : Nat} {a b : Nat → Int} (h : Eq m d a b) : cut m d a = cut m d b := by
  unfold cut
  refine List.map_congr_left (fun i hi => h i ?_)
  have := List.mem_range.1 hi
  omega
theorem list_ext {l k : List Int} (h : l.length = k.length) (hc : ∀ i, i < l.length → co l i = co k i) : l = k := by
  refine List.ext_getElem h (fun i h1 h2 => ?_)
  have := hc i h1
  unfold co at this
  rw [List.getElem?_eq_getElem h1, List.getElem?_eq_getElem h2] at this
  exact this
/-- the numbers of l are remainders -/
def Red (m : Int) (l : List Int) : Prop := ∀ i, 0 ≤ co l i ∧ co l i < m
theorem cut_red {m : Int} (hm : 0 < m) (d : Nat) (a : Nat → Int) : Red m (cut m d a) := by
  intro i
  by_cases h : i ≤ d
  · rw [co_cut h]; exact ⟨Int.emod_nonneg _ (by omega), Int.emod_lt_of_pos _ hm⟩
  · rw [co_over (by rw [cut_length]; omega)]; omega
theorem cut_self {m : Int} {d : Nat} {l : List Int} (hl : l.length = d + 1) (h : Red m l) : cut m d (co l) = l := by
  refine list_ext (by rw [cut_length, hl]) (fun i hi => ?_)
  rw [cut_length] at hi
  rw [co_cut (by omega), Int.emod_eq_of_lt (h i).1 (h i).2]
theorem red_unique {m : Int} {d : Nat} {l k : List Int} (hl : l.length = d + 1) (hk : k.length = d + 1) (h1 : Red m l) (h2 : Red m k) (h : Eq m d (co l) (co k)) : l = k := by
  rw [← cut_self hl h1, ← cut_self hk h2]; exact cut_congr h
theorem co_set {l : List Int} {i : Nat} (h : i < l.length) (x : Int) (j : Nat) : co (l.set i x) j = if j = i then x else co l j := by
  unfold co
  rw [List.getElem?_set]
  by_cases hj : i = j
  · subst hj; simp [h]
  · rw [if_neg hj, if_neg (fun e => hj e.symm)]
theorem co_app {l k : List Int} (i : Nat) : co (l ++ k) i = if i < l.length then co l i else co k (i - l.length) := by
  unfold co
  rw [List.getElem?_append]
  split <;> rfl
theorem co_zeros (n i : Nat) : co (List.replicate n 0) i = 0 := by
  unfold co
  rw [List.getElem?_replicate]
  split <;> rfl
theorem co_pad (l : List Int) (n : Nat) : co (l ++ List.replicate n 0) = co l := by
  funext i
  rw [co_app]
  by_cases h : i < l.length
  · rw [if_pos h]
  · rw [if_neg h, co_zeros, co_over (by omega)]
theorem co_nil (i : Nat) : co [] i = 0 := co_over (Nat.zero_le _)
theorem cut_take_succ (m : Int) (d : Nat) (a : Nat → Int) (k : Nat) (h : k ≤ d) : (cut m d a).take (k + 1) = (cut m d a).take k ++ [a k % m] := by
  rw [List.take_succ_eq_append_getElem (by rw [cut_length]; omega)]
  simp [cut]
theorem cut_take_all (m : Int) (d : Nat) (a : Nat → Int) : (cut m d a).take (d + 1) = cut m d a := List.take_of_length_le (by rw [cut_length]; omega)
theorem cut_zero (m : Int) (d : Nat) : cut m d (fun _ => 0) = List.replicate (d + 1) 0 := by
  refine list_ext (by rw [cut_length, List.length_replicate]) (fun i hi => ?_)
  rw [cut_length] at hi
  rw [co_cut (by omega), co_zeros, Int.zero_emod]

/-! the model's product: row by row -/
def tr (a b : Nat → Int) (n i : Nat) : Int := if i ≤ n then a i * b (n - i) else 0
def timS (m : Int) (d : Nat) (a b : Nat → Int) (i : Nat) : List Int := cut m d fun n => psum (tr a b n) i
def timP (m : Int) (d : Nat) (a b : Nat → Int) (i k : Nat) : List Int := cut m d fun n => psum (tr a b n) i + if i ≤ n ∧ n < i + k then a i * b (n - i) else 0
theorem timS_zero (m : Int) (d : Nat) (a b : Nat → Int) : timS m d a b 0 = List.replicate (d + 1) 0 := cut_zero m d
theorem timP_zero (m : Int) (d : Nat) (a b : Nat → Int) (i : Nat) : timP m d a b i 0 = timS m d a b i := by
  unfold timP timS
  refine cut_congr (Eq.of m d (fun n _ => ?_))
  rw [if_neg (by omega), Int.add_zero]
theorem timP_step (m : Int) (d : Nat) (a b : Nat → Int) (i k : Nat) (h : i + k ≤ d) : (timP m d a b i k).set (i + k) ((co (timP m d a b i k) (i + k) + a i * b k) % m) = timP m d a b i (k + 1) := by
  refine list_ext (by rw [List.length_set, timP, timP, cut_length, cut_length]) (fun j hj => ?_)
  rw [List.length_set, timP, cut_length] at hj
  rw [co_set (by rw [timP, cut_length]; omega)]
  unfold timP
  rw [co_cut (i := j) (by omega), co_cut (i := j) (by omega), co_cut h]
  by_cases e : j = i + k
  · subst e
    rw [if_pos rfl, if_neg (by omega), if_pos (by omega), Int.add_zero, Nat.add_sub_cancel_left, Int.emod_add_emod]
  · rw [if_neg e]
    by_cases c : i ≤ j ∧ j < i + k
    · rw [if_pos c, if_pos (by omega)]
    · rw [if_neg c, if_neg (by omega)]
theorem timP_end (m : Int) (d : Nat) (a b : Nat → Int) (i k : Nat) (hk : ∀ j, k ≤ j → i + j ≤ d → b j = 0) : timP m d a b i k = timS m d a b (i + 1) := by
  unfold timP timS
  refine cut_congr (Eq.of m d (fun n hn => ?_))
  rw [psum]
  congr 1
  unfold tr
  by_cases c : i ≤ n
  · rw [if_pos c]
    by_cases c2 : n < i + k
    · rw [if_pos ⟨c, c2⟩]
    · rw [if_neg (by omega), hk (n - i) (by omega) (by omega), Int.mul_zero]
  · rw [if_neg c, if_neg (by omega)]
theorem timS_skip (m : Int) (d : Nat) (a b : Nat → Int) (i : Nat) (h : a i = 0) : timS m d a b (i + 1) = timS m d a b i := by
  unfold timS
  refine cut_congr (Eq.of m d (fun n hn => ?_))
  rw [psum]
  unfold tr
  rw [h]
  simp
theorem psum_tr (a b : Nat → Int) (n : Nat) : ∀ k, n + 1 ≤ k → psum (tr a b n) k = cv n a b := by
  intro k
  induction k with
  | zero => intro h; omega
  | succ k ih =>
    intro h
    by_cases hk : n + 1 ≤ k
    · rw [psum, ih hk]; unfold tr; rw [if_neg (by omega)]; omega
    · obtain rfl : k = n := by omega
      rw [cv_psum]
      exact psum_ext _ (fun i hi => by unfold tr; rw [if_pos (by omega)])
theorem timS_end (m : Int) (d : Nat) (a b : Nat → Int) (i : Nat) (h : ∀ j, i ≤ j → j ≤ d → a j = 0) : timS m d a b i = cut m d (mul a b) := by
  unfold timS
  refine cut_congr (Eq.of m d (fun n hn => ?_))
  rw [mul_at, ← psum_tr a b n (i + (n + 1)) (by omega)]
  have key : ∀ k, psum (tr a b n) (i + k) = psum (tr a b n) i := by
    intro k
    induction k with
    | zero => rfl
    | succ k ih =>
      rw [Nat.add_succ, psum, ih]
      unfold tr
      split
      · rw [h (i + k) (by omega) (by omega)]; omega
      · omega
  exact (key _).symm

/-! the inverse, number by number -/
def invC (m u : Int) (a : Nat → Int) : Nat → List Int
  | 0 => [u]
  | n + 1 => invC m u a n ++ [(-u * cv (n + 1) a (co (invC m u a n))) % m]
theorem invC_length (m u : Int) (a : Nat → Int) : ∀ n, (invC m u a n).length = n + 1 := by
  intro n
  induction n with
  | zero => rfl
  | succ n ih => simp [invC, ih]
theorem invC_pre (m u : Int) (a : Nat → Int) (n k i : Nat) (h : i ≤ n) : co (invC m u a (n + k)) i = co (invC m u a n) i := by
  induction k with
  | zero => rfl
  | succ k ih => rw [Nat.add_succ, invC, co_app, if_pos (by rw [invC_length]; omega), ih]
theorem invC_last (m u : Int) (a : Nat → Int) (n : Nat) : co (invC m u a (n + 1)) (n + 1) = (-u * cv (n + 1) a (co (invC m u a n))) % m := by
  rw [invC, co_app, if_neg (by rw [invC_length]; omega), invC_length, Nat.sub_self]; rfl
theorem invC_red {m u : Int} (hm : 0 < m) (hu : 0 ≤ u) (hu2 : u < m) (a : Nat → Int) : ∀ n, Red m (invC m u a n) := by
  intro n
  induction n with
  | zero =>
    intro i
    cases i with
    | zero => exact ⟨hu, hu2⟩
    | succ i => rw [co_over (by simp [invC])]; omega
  | succ n ih =>
    intro i
    rw [invC, co_app]
    split
    · exact ih i
    · rename_i h
      rw [invC_length] at h ⊢
      rcases hi : i - (n + 1) with _ | j
      · exact ⟨Int.emod_nonneg _ (by omega), Int.emod_lt_of_pos _ hm⟩
      · rw [co_over (by simp)]; omega
theorem cv_last (a b b' : Nat → Int) : ∀ n, (∀ i, i < n → b i = b' i) → cv n a b = cv n a b' + a 0 * (b n - b' n) := by
  intro n h
  cases n with
  | zero => rw [cv_zero, cv_zero, Int.mul_sub]; omega
  | succ n =>
    rw [cv_succ, cv_succ, Int.mul_sub, cv_ext n (fun _ _ => rfl) (fun i hi => h i (by omega))]
    omega
theorem invC_inverse {m u : Int} (a : Nat → Int) (h : (a 0 * u) % m = 1 % m) (d : Nat) : Eq m d (mul a (co (invC m u a d))) (mon 0 1) := by
  intro i hi
  rw [mul_at]
  cases i with
  | zero =>
    rw [cv_zero]
    have := invC_pre m u a 0 d 0 (Nat.le_refl _)
    rw [Nat.zero_add] at this
    rw [this]
    simpa [invC, co, mon] using h
  | succ i =>
    obtain ⟨k, rfl⟩ : ∃ k, d = (i + 1) + k := ⟨d - (i + 1), by omega⟩
    rw [cv_ext (i + 1) (fun _ _ => rfl) (fun j hj => invC_pre m u a (i + 1) k j hj)]
    rw [cv_last a _ (co (invC m u a i)) (i + 1) (fun j hj => invC_pre m u a i 1 j (by omega)), invC_last, co_over (l := invC m u a i) (by rw [invC_length]; omega)]
    generalize cv (i + 1) a (co (invC m u a i)) = S
    have e : (S + a 0 * (-u * S % m - 0)) % m = (S + a 0 * (-u * S)) % m := by
      rw [Int.sub_zero]
      exact add_cong rfl (mul_cong rfl (Int.emod_emod _ _))
    rw [e, show a 0 * (-u * S) = -((a 0 * u) * S) by rw [Int.neg_mul, Int.mul_neg, Int.mul_assoc], ← Int.sub_eq_add_neg]
    have e2 : (S - a 0 * u * S) % m = (S - 1 * S) % m := sub_cong rfl (mul_cong h rfl)
    rw [e2, Int.one_mul, Int.sub_self]
    simp [mon]
end Ser
end Go.Proofs.YtfhdgcndiljjcaaGreatDoor

/- Powers, compositions by Horner's rule and reversions as lists of coefficients. Plain: no program in sight. -/
namespace Go.Proofs.YtfhdgcndiljjcaaGreatDoor
namespace Ser

def mulL (m : Int) (d : Nat) (a b : List Int) : List Int := cut m d (mul (co a) (co b))
theorem mulL_length (m : Int) (d : Nat) (a b : List Int) : (mulL m d a b).length = d + 1 := cut_length _ _ _
theorem mulL_red {m : Int} (hm : 0 < m) (d : Nat) (a b : List Int) : Red m (mulL m d a b) := cut_red hm _ _

/-- the steps of squaring: exponent left, product, square -/
def powS (m : Int) (d : Nat) (k : Nat) (p s : List Int) : List Int :=
  if _h : k = 0 then p else powS m d (k / 2) (if k % 2 = 1 then mulL m d p s else p) (mulL m d s s)
termination_by k
decreasing_by omega
theorem powS_zero (m : Int) (d : Nat) (p s : List Int) : powS m d 0 p s = p := by rw [powS]; simp
theorem powS_odd (m : Int) (d : Nat) {k : Nat} (p s : List Int) (h : k % 2 = 1) : powS m d k p s = powS m d (k / 2) (mulL m d p s) (mulL m d s s) := by rw [powS, dif_neg (by omega), if_pos h]
theorem powS_even (m : Int) (d : Nat) {k : Nat} (p s : List Int) (h0 : k ≠ 0) (h : ¬ k % 2 = 1) : powS m d k p s = powS m d (k / 2) p (mulL m d s s) := by rw [powS, dif_neg h0, if_neg h]
def one (m : Int) (d : Nat) : List Int := cut m d (mon 0 1)
def powL (m : Int) (d : Nat) (a : List Int) (k : Nat) : List Int := powS m d k (one m d) a
theorem powS_length (m : Int) (d : Nat) : ∀ (k : Nat) (p s : List Int), p.length = d + 1 → (powS m d k p s).length = d + 1 := by
  intro k
  induction k using Nat.strongRecOn with
  | ind k ih =>
    intro p s hp
    by_cases h0 : k = 0
    · subst h0; rw [powS_zero, hp]
    · by_cases h : k % 2 = 1
      · rw [powS_odd _ _ _ _ h]; exact ih _ (by omega) _ _ (mulL_length _ _ _ _)
      · rw [powS_even _ _ _ _ h0 h]; exact ih _ (by omega) _ _ hp
theorem powL_length (m : Int) (d : Nat) (a : List Int) (k : Nat) : (powL m d a k).length = d + 1 := powS_length _ _ _ _ _ (cut_length _ _ _)
theorem powS_red {m : Int} (hm : 0 < m) (d : Nat) : ∀ (k : Nat) (p s : List Int), Red m p → Red m (powS m d k p s) := by
  intro k
  induction k using Nat.strongRecOn with
  | ind k ih =>
    intro p s hp
    by_cases h0 : k = 0
    · subst h0; rw [powS_zero]; exact hp
    · by_cases h : k % 2 = 1
      · rw [powS_odd _ _ _ _ h]; exact ih _ (by omega) _ _ (mulL_red hm _ _ _)
      · rw [powS_even _ _ _ _ h0 h]; exact ih _ (by omega) _ _ hp
theorem powL_red {m : Int} (hm : 0 < m) (d : Nat) (a : List Int) (k : Nat) : Red m (powL m d a k) := powS_red hm _ _ _ _ (cut_red hm _ _)

/-- Horner's rule over lists: after j steps -/
def horC (m : Int) (d : Nat) (a f : Nat → Int) : Nat → List Int
  | 0 => List.replicate (d + 1) 0
  | j + 1 => (cut m d (mul (co (horC m d a f j)) f)).set 0 (a (d - j))
theorem horC_length (m : Int) (d : Nat) (a f : Nat → Int) : ∀ j, (horC m d a f j).length = d + 1 := by
  intro j
  cases j with
  | zero => simp [horC]
  | succ j => simp [horC, cut_length]
theorem horC_red {m : Int} (hm : 0 < m) (d : Nat) (a f : Nat → Int) (ha : ∀ i, 0 ≤ a i ∧ a i < m) : ∀ j, Red m (horC m d a f j) := by
  intro j i
  cases j with
  | zero => rw [horC, co_zeros]; omega
  | succ j =>
    rw [horC, co_set (by rw [cut_length]; omega)]
    split
    · exact ha _
    · exact cut_red hm _ _ i
theorem horC_hor {m : Int} {d : Nat} {a f : Nat → Int} (hf : f 0 = 0) : ∀ j, j ≤ d → Eq m d (co (horC m d a f (j + 1))) (hor j (fun i => a (d - j + i)) f) := by
  intro j
  induction j with
  | zero =>
    intro _ i hi
    rw [horC, co_set (by rw [cut_length]; omega), hor_zero]
    unfold mon
    by_cases h : i = 0
    · rw [if_pos h, if_pos h]; rfl
    · have z : co (horC m d a f 0) = fun _ => 0 := by funext i; rw [horC, co_zeros]
      rw [if_neg h, if_neg h, co_cut hi, mul_at, z, cv_zero_left]; simp
  | succ j ih =>
    intro hj i hi
    rw [horC, co_set (by rw [cut_length]; omega), hor_succ]
    dsimp only
    have e : (sh fun i => a (d - (j + 1) + i)) = fun i => a (d - j + i) := by
      funext i
      simp only [sh]
      congr 1
      omega
    rw [e, mul_at]
    by_cases h : i = 0
    · subst h
      rw [if_pos rfl, cv_zero, hf]
      simp [mon]
    · rw [if_neg h, co_cut hi, mul_at, Int.emod_emod, cv_comm]
      unfold mon
      rw [if_neg h, Int.zero_add]
      exact cv_congr i (Eq.refl _ _ _) ((ih (by omega)).less hi)
theorem horC_comp {m : Int} {d : Nat} {a f : Nat → Int} (hf : f 0 = 0) : Eq m d (co (horC m d a f (d + 1))) (comp a f) := by
  intro i hi
  rw [horC_hor hf d (Nat.le_refl _) i hi]
  have e : (fun i => a (d - d + i)) = a := by funext i; rw [Nat.sub_self, Nat.zero_add]
  rw [e, hor_comp hf a d i hi]
/-- composition of lists -/
def cmpL (m : Int) (d : Nat) (a f : List Int) : List Int := horC m d (co a) (co f) (d + 1)
theorem cmpL_length (m : Int) (d : Nat) (a f : List Int) : (cmpL m d a f).length = d + 1 := horC_length _ _ _ _ _
theorem cmpL_eq {m : Int} {d : Nat} {a f : List Int} (hf : co f 0 = 0) : Eq m d (co (cmpL m d a f)) (comp (co a) (co f)) := horC_comp hf
theorem cmpL_red {m : Int} (hm : 0 < m) (d : Nat) {a : List Int} (ha : Red m a) (f : List Int) : Red m (cmpL m d a f) := horC_red hm _ _ _ ha _
theorem comp_ext {a a' f : Nat → Int} (hf : f 0 = 0) : ∀ n, (∀ i, i ≤ n → a i = a' i) → comp a f n = comp a' f n := by
  intro n
  induction n using Nat.strongRecOn generalizing a a' with
  | ind n ih =>
    intro h
    rw [comp_eq hf a, comp_eq hf a', h 0 (Nat.zero_le _)]
    dsimp only
    rw [mul_at, mul_at]
    congr 1
    exact cv_ext_curve hf (fun j hj => ih j hj (fun i hi => h (i + 1) (by omega)))
theorem comp_ext_right {a f f' : Nat → Int} (hf : f 0 = 0) (hf' : f' 0 = 0) : ∀ n, (∀ i, i ≤ n → f i = f' i) → comp a f n = comp a f' n := by
  intro n
  induction n using Nat.strongRecOn generalizing a with
  | ind n ih =>
    intro h
    rw [comp_eq hf a, comp_eq hf' a]
    dsimp only
    rw [mul_at, mul_at]
    congr 1
    rw [cv_ext_curve (f := f) hf (fun j hj => ih j hj (fun i hi => h i (by omega)))]
    exact cv_ext n h (fun _ _ => rfl)

/-! the model's reversion: number by number -/
def revC (m u : Int) (f : Nat → Int) : Nat → List Int
  | 0 => [0, u]
  | n + 1 => revC m u f n ++ [((m - comp f (co (revC m u f n)) (n + 2) % m) * u) % m]
theorem revC_length (m u : Int) (f : Nat → Int) : ∀ n, (revC m u f n).length = n + 2 := by
  intro n
  induction n with
  | zero => rfl
  | succ n ih => simp [revC, ih]
theorem revC_pre (m u : Int) (f : Nat → Int) (n k i : Nat) (h : i ≤ n + 1) : co (revC m u f (n + k)) i = co (revC m u f n) i := by
  induction k with
  | zero => rfl
  | succ k ih => rw [Nat.add_succ, revC, co_app, if_pos (by rw [revC_length]; omega), ih]
theorem revC_curve (m u : Int) (f : Nat → Int) (n : Nat) : co (revC m u f n) 0 = 0 := by
  have := revC_pre m u f 0 n 0 (by omega)
  rw [Nat.zero_add] at this
  rw [this]; rfl
theorem revC_last (m u : Int) (f : Nat → Int) (n : Nat) : co (revC m u f (n + 1)) (n + 2) = ((m - comp f (co (revC m u f n)) (n + 2) % m) * u) % m := by
  rw [revC, co_app, if_neg (by rw [revC_length]; omega), revC_length, Nat.sub_self]; rfl
theorem revC_red {m u : Int} (hm : 0 < m) (hu : 0 ≤ u) (hu2 : u < m) (f : Nat → Int) : ∀ n, Red m (revC m u f n) := by
  intro n
  induction n with
  | zero =>
    intro i
    match i with
    | 0 => exact ⟨by simp [revC, co], by simp [revC, co]; exact hm⟩
    | 1 => exact ⟨by simpa [revC, co] using hu, by simpa [revC, co] using hu2⟩
    | i + 2 => rw [co_over (by simp [revC])]; omega
  | succ n ih =>
    intro i
    rw [revC, co_app]
    split
    · exact ih i
    · rename_i h
      rw [revC_length] at h ⊢
      rcases hi : i - (n + 2) with _ | j
      · exact ⟨Int.emod_nonneg _ (by omega), Int.emod_lt_of_pos _ hm⟩
      · rw [co_over (by simp)]; omega
/-- the highest coefficient of the inner curve enters by f(1) alone -/
theorem comp_last {f h h' : Nat → Int} (hh : h 0 = 0) (hh' : h' 0 = 0) (n : Nat) (e : ∀ i, i ≤ n → h i = h' i) :
    comp f h (n + 1) = comp f h' (n + 1) + f 1 * (h (n + 1) - h' (n + 1)) := by
  rw [comp_eq hh f, comp_eq hh' f]
  dsimp only
  rw [mul_at, mul_at, cv_succ' h, cv_succ' h', Int.mul_sub]
  have c0 : comp (sh f) h 0 = f 1 := comp_zero _ _
  have c1 : comp (sh f) h' 0 = f 1 := comp_zero _ _
  rw [c0, c1, Int.mul_comm (f 1), Int.mul_comm (f 1)]
  have c2 : cv n h (sh (comp (sh f) h)) = cv n h' (sh (comp (sh f) h')) := by
    cases n with
    | zero => rw [cv_zero, cv_zero, hh, hh']; simp
    | succ n =>
      rw [cv_succ, cv_succ, hh, hh']
      simp only [Int.zero_mul, Int.zero_add]
      refine cv_ext n (fun i hi => e (i + 1) (by omega)) (fun i hi => ?_)
      exact comp_ext_right hh hh' _ (fun j hj => e j (by omega))
  rw [c2]
  omega
theorem revC_right {m u : Int} {f : Nat → Int} (hf : f 0 = 0) (h : (f 1 * u) % m = 1 % m) (n : Nat) : Eq m (n + 1) (comp f (co (revC m u f n))) (mon 1 1) := by
  induction n with
  | zero =>
    intro i hi
    match i, hi with
    | 0, _ => rw [comp_zero, hf]; simp [mon]
    | 1, _ =>
      rw [comp_eq (revC_curve m u f 0)]
      dsimp only
      rw [mul_at, cv_succ, cv_zero]
      have c1 : comp (sh f) (co (revC m u f 0)) 0 = f 1 := comp_zero _ _
      rw [c1, revC_curve]
      have : sh (co (revC m u f 0)) 0 = u := rfl
      rw [this, Int.mul_comm u]
      simpa [mon] using h
  | succ n ih =>
    intro i hi
    by_cases hi' : i ≤ n + 1
    · rw [comp_ext_right (revC_curve m u f (n + 1)) (revC_curve m u f n) i (fun j hj => revC_pre m u f n 1 j (by omega))]
      exact ih i hi'
    · obtain rfl : i = n + 2 := by omega
      rw [comp_last (revC_curve m u f (n + 1)) (revC_curve m u f n) (n + 1) (fun j hj => revC_pre m u f n 1 j hj), revC_last, co_over (l := revC m u f n) (by rw [revC_length]; omega)]
      generalize comp f (co (revC m u f n)) (n + 2) = S
      have e : (S + f 1 * ((m - S % m) * u % m - 0)) % m = (S + f 1 * ((0 - S) * u)) % m := by
        rw [Int.sub_zero]
        refine add_cong rfl (mul_cong rfl ?_)
        rw [Int.emod_emod]
        refine mul_cong (sub_cong (by simp) (Int.emod_emod _ _)) rfl
      rw [e, Int.zero_sub, show f 1 * (-S * u) = -((f 1 * u) * S) by rw [Int.neg_mul, Int.mul_neg, Int.mul_assoc, Int.mul_comm S u], ← Int.sub_eq_add_neg]
      have e2 : (S - f 1 * u * S) % m = (S - 1 * S) % m := sub_cong rfl (mul_cong h rfl)
      rw [e2, Int.one_mul, Int.sub_self]
      simp [mon]

/-! the program's reversion: the powers of f take t apart -/
def pw (f : Nat → Int) : Nat → Nat → Int
  | 0 => mon 0 1
  | n + 1 => mul (pw f n) f
theorem pw_low {f : Nat → Int} (hf : f 0 = 0) : ∀ n i, i < n → pw f n i = 0 := by
  intro n
  induction n with
  | zero => intro i h; omega
  | succ n ih =>
    intro i hi
    have e : cv i (pw f n) f = cv i f (fun _ => 0) := by
      rw [cv_comm]
      exact cv_ext_curve hf (fun j hj => ih j (by omega))
    rw [pw, mul_at, e, cv_comm, cv_zero_left]
def ipow (x : Int) : Nat → Int
  | 0 => 1
  | n + 1 => ipow x n * x
theorem cv_low {p f : Nat → Int} : ∀ n, (∀ i, i < n → p i = 0) → f 0 = 0 → cv (n + 1) p f = p n * f 1 := by
  intro n
  induction n generalizing p with
  | zero => intro _ hf; rw [cv_succ, cv_zero, hf]; simp
  | succ n ih =>
    intro hp hf
    rw [cv_succ, hp 0 (by omega), ih (p := sh p) (fun i hi => hp (i + 1) (by omega)) hf]
    simp [sh]
theorem pw_lead {f : Nat → Int} (hf : f 0 = 0) : ∀ n, pw f n n = ipow (f 1) n := by
  intro n
  induction n with
  | zero => simp [pw, mon, ipow]
  | succ n ih => rw [pw, mul_at, cv_low n (fun i hi => pw_low hf n i hi) hf, ih]; rfl
theorem ipow_unit {m x u : Int} (h : (x * u) % m = 1 % m) : ∀ n, (ipow x n * ipow u n) % m = 1 % m := by
  intro n
  induction n with
  | zero => rfl
  | succ n ih =>
    rw [ipow, ipow, show ipow x n * x * (ipow u n * u) = (ipow x n * ipow u n) * (x * u) by
      rw [Int.mul_assoc, Int.mul_left_comm x, ← Int.mul_assoc]]
    have := mul_cong ih h
    rw [this]; rfl
theorem comp_mon {f : Nat → Int} (hf : f 0 = 0) : ∀ n, comp (mon n 1) f = pw f n := by
  intro n
  induction n with
  | zero => rw [comp_const hf]; rfl
  | succ n ih =>
    have e : mon (n + 1) 1 = mul (mon n 1) (mon 1 1) := by
      funext i
      rw [mul_comm, mul_at, cv_t]
      unfold mon
      cases i with
      | zero => simp
      | succ i => simp
    funext i
    rw [e, comp_mul hf, ih, t_comp hf]; rfl

/-- the state after n rounds: the reversion so far and what is left over -/
def lagG (m u : Int) (f : Nat → Int) (d : Nat) : Nat → List Int × List Int
  | 0 => (cut m d (mon 0 0), cut m d (mon 1 1))
  | n + 1 =>
    let s := lagG m u f d n
    let g := co s.2 (n + 1) * (ipow u (n + 1) % m) % m
    (s.1.set (n + 1) g, cut m d fun i => co s.2 i + (co (cut m d fun i => pw f (n + 1) i * -g) i))
theorem lagG_len1 (m u : Int) (f : Nat → Int) (d : Nat) : ∀ n, (lagG m u f d n).1.length = d + 1 := by
  intro n
  induction n with
  | zero => exact cut_length _ _ _
  | succ n ih => simp [lagG, ih]
theorem lagG_len2 (m u : Int) (f : Nat → Int) (d : Nat) : ∀ n, (lagG m u f d n).2.length = d + 1 := by
  intro n
  cases n with
  | zero => exact cut_length _ _ _
  | succ n => exact cut_length _ _ _
theorem lagG_red1 {m : Int} (hm : 0 < m) (u : Int) (f : Nat → Int) (d : Nat) : ∀ n, n ≤ d → Red m (lagG m u f d n).1 := by
  intro n
  induction n with
  | zero => intro _; exact cut_red hm _ _
  | succ n ih =>
    intro hn i
    simp only [lagG]
    rw [co_set (by rw [lagG_len1]; omega)]
    split
    · exact ⟨Int.emod_nonneg _ (by omega), Int.emod_lt_of_pos _ hm⟩
    · exact ih (by omega) i
theorem lagG_red2 {m : Int} (hm : 0 < m) (u : Int) (f : Nat → Int) (d : Nat) : ∀ n, Red m (lagG m u f d n).2 := by
  intro n
  cases n with
  | zero => exact cut_red hm _ _
  | succ n => exact cut_red hm _ _
theorem lagG_over {m u : Int} {f : Nat → Int} {d : Nat} : ∀ n i, n ≤ d → n < i → co (lagG m u f d n).1 i = 0 := by
  intro n
  induction n with
  | zero =>
    intro i _ hi
    by_cases h : i ≤ d
    · simp only [lagG]; rw [co_cut h]; simp [mon]
    · exact co_over (by simp only [lagG]; rw [cut_length]; omega)
  | succ n ih =>
    intro i hn hi
    simp only [lagG]
    rw [co_set (by rw [lagG_len1]; omega), if_neg (by omega), ih i (by omega) (by omega)]
theorem lagG_inv {m u : Int} {f : Nat → Int} (hf : f 0 = 0) (hu : (f 1 * u) % m = 1 % m) (d : Nat) : ∀ n, n ≤ d →
    co (lagG m u f d n).1 0 = 0 ∧ Eq m d (fun i => co (lagG m u f d n).2 i + comp (co (lagG m u f d n).1) f i) (mon 1 1) ∧ (∀ i, i ≤ n → co (lagG m u f d n).2 i % m = 0) := by
  intro n
  induction n with
  | zero =>
    intro _
    have z : co (lagG m u f d 0).1 = fun _ => 0 := by
      funext i
      by_cases h : i ≤ d
      · simp only [lagG]; rw [co_cut h]; simp [mon]
      · exact co_over (by simp only [lagG]; rw [cut_length]; omega)
    have c0 : ∀ i, comp (fun _ => 0) f i = 0 := by
      intro i
      have := comp_smul hf 0 i (fun _ => 0)
      simpa using this
    refine ⟨by rw [z], ?_, ?_⟩
    · intro i hi
      dsimp only
      rw [z, c0, Int.add_zero]
      exact co_cut_eq m d (mon 1 1) i hi
    · intro i hi
      obtain rfl : i = 0 := by omega
      simp only [lagG]
      rw [co_cut (by omega)]; simp [mon]
  | succ n ih =>
    intro hn
    obtain ⟨h1, h2, h3⟩ := ih (by omega)
    have l1 := lagG_len1 m u f d n
    have ov : co (lagG m u f d n).1 (n + 1) = 0 := lagG_over n (n + 1) (by omega) (by omega)
    simp only [lagG]
    generalize hR : (lagG m u f d n).2 = R at *
    generalize hG : (lagG m u f d n).1 = G at *
    obtain ⟨g, hg⟩ : ∃ g, co R (n + 1) * (ipow u (n + 1) % m) % m = g := ⟨_, rfl⟩
    rw [hg]
    have hgm : g % m = (co R (n + 1) * ipow u (n + 1)) % m := by
      rw [← hg, Int.emod_emod]; exact mul_cong rfl (Int.emod_emod _ _)
    have hset : co (G.set (n + 1) g) = fun i => co G i + g * mon (n + 1) 1 i := by
      funext i
      rw [co_set (by omega)]
      unfold mon
      by_cases h : i = n + 1
      · subst h; rw [if_pos rfl, if_pos rfl, ov]; omega
      · rw [if_neg h, if_neg h]; omega
    have hcomp : ∀ i, comp (co (G.set (n + 1) g)) f i = comp (co G) f i + g * pw f (n + 1) i := by
      intro i
      rw [hset, comp_add hf, comp_smul hf, comp_mon hf]
    have hrest : ∀ i, i ≤ d → co (cut m d fun i => co R i + co (cut m d fun i => pw f (n + 1) i * -g) i) i % m = (co R i - g * pw f (n + 1) i) % m := by
      intro i hi
      rw [co_cut hi, Int.emod_emod, co_cut hi, Int.sub_eq_add_neg]
      refine add_cong rfl ?_
      rw [Int.emod_emod, Int.mul_comm, Int.neg_mul]
    refine ⟨?_, ?_, ?_⟩
    · rw [hset]
      dsimp only
      rw [h1]
      simp [mon]
    · intro i hi
      have a := h2 i hi
      dsimp only at a ⊢
      rw [hcomp, ← a]
      have b : (co (cut m d fun i => co R i + co (cut m d fun i => pw f (n + 1) i * -g) i) i + (comp (co G) f i + g * pw f (n + 1) i)) % m = ((co R i - g * pw f (n + 1) i) + (comp (co G) f i + g * pw f (n + 1) i)) % m :=
        add_cong (hrest i hi) rfl
      rw [b]
      congr 1
      omega
    · intro i hi
      rw [hrest i (by omega)]
      by_cases hi' : i ≤ n
      · rw [pw_low hf (n + 1) i (by omega), Int.mul_zero, Int.sub_zero]
        exact h3 i hi'
      · obtain rfl : i = n + 1 := by omega
        rw [pw_lead hf]
        have k1 : (g * ipow (f 1) (n + 1)) % m = (co R (n + 1) * 1) % m := by
          have : (g * ipow (f 1) (n + 1)) % m = (co R (n + 1) * ipow u (n + 1) * ipow (f 1) (n + 1)) % m := mul_cong hgm rfl
          rw [this, Int.mul_assoc, Int.mul_comm (ipow u _)]
          exact mul_cong rfl (ipow_unit hu (n + 1))
        have k2 := sub_cong (m := m) (x := co R (n + 1)) (y := co R (n + 1)) rfl k1
        rw [k2, Int.mul_one, Int.sub_self]
        simp
/-- the program's list is the reversion from the left -/
theorem lagG_left {m u : Int} {f : Nat → Int} (hf : f 0 = 0) (hu : (f 1 * u) % m = 1 % m) (d : Nat) : co (lagG m u f d d).1 0 = 0 ∧ Eq m d (comp (co (lagG m u f d d).1) f) (mon 1 1) := by
  obtain ⟨h1, h2, h3⟩ := lagG_inv hf hu d d (Nat.le_refl _)
  refine ⟨h1, fun i hi => ?_⟩
  rw [← h2 i hi]
  dsimp only
  have := add_cong (m := m) (x := co (lagG m u f d d).2 i) (y := 0) (z := comp (co (lagG m u f d d).1) f i) (by rw [h3 i hi]; simp) rfl
  rw [this, Int.zero_add]
/-- both lists are the same -/
theorem lagG_revC {m u : Int} (hm : 0 < m) (hu1 : 0 ≤ u) (hu2 : u < m) {f : Nat → Int} (hf : f 0 = 0) (hu : (f 1 * u) % m = 1 % m) (n : Nat) : (lagG m u f (n + 1) (n + 1)).1 = revC m u f n := by
  obtain ⟨h1, h2⟩ := lagG_left hf hu (n + 1)
  exact red_unique (d := n + 1) (lagG_len1 _ _ _ _ _) (revC_length _ _ _ _) (lagG_red1 hm _ _ _ _ (Nat.le_refl _)) (revC_red hm hu1 hu2 _ _)
    (left_right hf (revC_curve m u f n) h2 (revC_right hf hu n))
end Ser
end Go.Proofs.YtfhdgcndiljjcaaGreatDoor

/- Plain facts about tables of coefficients in two variables: no program in sight. -/
namespace Go.Proofs.YtfhdgcndiljjcaaGreatDoor
namespace Pl

/-- row i of a table; the coefficient at x^i y^j -/
def rw' (t : List (List Int)) (i : Nat) : List Int := t[i]?.getD []
def pc (t : List (List Int)) (i j : Nat) : Int := Ser.co (rw' t i) j
/-- the table of a degree with the remainders of f -/
def tab (m : Int) (d : Nat) (f : Nat → Nat → Int) : List (List Int) := (List.range (d + 1)).map fun i => Ser.cut m (d - i) (f i)
theorem tab_length (m : Int) (d : Nat) (f : Nat → Nat → Int) : (tab m d f).length = d + 1 := by simp [tab]
theorem tab_get (m : Int) (d : Nat) (f : Nat → Nat → Int) (i : Nat) (h : i ≤ d) : (tab m d f)[i]? = some (Ser.cut m (d - i) (f i)) := by
  unfold tab
  rw [List.getElem?_map, List.getElem?_range (by omega)]; rfl
theorem tab_row (m : Int) (d : Nat) (f : Nat → Nat → Int) (i : Nat) (h : i ≤ d) : rw' (tab m d f) i = Ser.cut m (d - i) (f i) := by
  unfold rw'; rw [tab_get m d f i h]; rfl
theorem rw_over {t : List (List Int)} {i : Nat} (h : t.length ≤ i) : rw' t i = [] := by
  unfold rw'; rw [List.getElem?_eq_none h]; rfl
theorem pc_tab {m : Int} {d : Nat} {f : Nat → Nat → Int} {i j : Nat} (h : i + j ≤ d) : pc (tab m d f) i j = f i j % m := by
  unfold pc; rw [tab_row m d f i (by omega), Ser.co_cut (by omega)]
theorem pc_over {m : Int} {d : Nat} {f : Nat → Nat → Int} {i j : Nat} (h : d < i + j) : pc (tab m d f) i j = 0 := by
  unfold pc
  by_cases hi : i ≤ d
  · rw [tab_row m d f i hi, Ser.co_over (by rw [Ser.cut_length]; omega)]
  · rw [rw_over (by rw [tab_length]; omega), Ser.co_over (Nat.zero_le _)]
/-- congruent up to the degree -/
def Eq (m : Int) (d : Nat) (f g : Nat → Nat → Int) : Prop := ∀ i j, i + j ≤ d → f i j % m = g i j % m
theorem Eq.refl (m : Int) (d : Nat) (f : Nat → Nat → Int) : Eq m d f f := fun _ _ _ => rfl
theorem Eq.of (m : Int) (d : Nat) {f g : Nat → Nat → Int} (h : ∀ i j, i + j ≤ d → f i j = g i j) : Eq m d f g := fun i j hij => by rw [h i j hij]
theorem Eq.symm {m : Int} {d : Nat} {f g : Nat → Nat → Int} (h : Eq m d f g) : Eq m d g f := fun i j hij => (h i j hij).symm
theorem Eq.trans {m : Int} {d : Nat} {f g k : Nat → Nat → Int} (h : Eq m d f g) (h' : Eq m d g k) : Eq m d f k := fun i j hij => (h i j hij).trans (h' i j hij)
theorem pc_tab_eq (m : Int) (d : Nat) (f : Nat → Nat → Int) : Eq m d (pc (tab m d f)) f := fun i j h => by rw [pc_tab h, Int.emod_emod]
theorem tab_congr {m : Int} {d : Nat} {f g : Nat → Nat → Int} (h : Eq m d f g) : tab m d f = tab m d g := by
  unfold tab
  refine List.map_congr_left (fun i hi => Ser.cut_congr (fun j hj => h i j ?_))
  have := List.mem_range.1 hi
  omega
theorem tab_ext {t : List (List Int)} {m : Int} {d : Nat} {f : Nat → Nat → Int} (hl : t.length = d + 1) (h : ∀ i, i ≤ d → rw' t i = Ser.cut m (d - i) (f i)) : t = tab m d f := by
  refine List.ext_getElem? (fun i => ?_)
  by_cases hi : i ≤ d
  · rw [tab_get m d f i hi]
    have := h i hi
    unfold rw' at this
    rw [List.getElem?_eq_getElem (by omega)] at this ⊢
    exact congrArg some this
  · rw [List.getElem?_eq_none (by omega), List.getElem?_eq_none (by rw [tab_length]; omega)]
theorem rw_set_self {t : List (List Int)} {p : Nat} (h : p < t.length) (r : List Int) : rw' (t.set p r) p = r := by
  unfold rw'; rw [List.getElem?_set_self h]; rfl
theorem rw_set_ne {t : List (List Int)} {p i : Nat} (h : p ≠ i) (r : List Int) : rw' (t.set p r) i = rw' t i := by
  unfold rw'; rw [List.getElem?_set_ne h]
/-- one number is written -/
theorem tab_put {m : Int} {d : Nat} {f g : Nat → Nat → Int} {p q : Nat} (h : p + q ≤ d) {y : Int} (hy : g p q % m = y) (hne : ∀ i j, i + j ≤ d → ¬ (i = p ∧ j = q) → g i j % m = f i j % m) :
    (tab m d f).set p ((rw' (tab m d f) p).set q y) = tab m d g := by
  refine tab_ext (by rw [List.length_set, tab_length]) (fun i hi => ?_)
  by_cases hip : p = i
  · subst hip
    rw [rw_set_self (by rw [tab_length]; omega), tab_row m d f p hi]
    refine Ser.list_ext (by rw [List.length_set, Ser.cut_length, Ser.cut_length]) (fun j hj => ?_)
    rw [List.length_set, Ser.cut_length] at hj
    rw [Ser.co_set (by rw [Ser.cut_length]; omega), Ser.co_cut (by omega), Ser.co_cut (by omega)]
    by_cases hjq : j = q
    · rw [if_pos hjq, hjq, hy]
    · rw [if_neg hjq, hne p j (by omega) (fun e => hjq e.2)]
  · rw [rw_set_ne hip, tab_row m d f i hi]
    refine Ser.cut_congr (fun j hj => ?_)
    exact (hne i j (by omega) (fun e => hip e.1.symm)).symm
/-- a table of a plane: its rows' lengths, its numbers remainders -/
structure Ok (m : Int) (d : Nat) (t : List (List Int)) : Prop where
  m1 : 2 ≤ m
  m2 : m ≤ 10000
  d1 : 1 ≤ d
  d2 : d ≤ 10
  len : t.length = d + 1
  row : ∀ i, i ≤ d → (rw' t i).length = d - i + 1
  red : ∀ i, Ser.Red m (rw' t i)
theorem Ok.self {m : Int} {d : Nat} {t : List (List Int)} (h : Ok m d t) : t = tab m d (pc t) :=
  tab_ext h.len (fun i hi => (Ser.cut_self (h.row i hi) (h.red i)).symm)
theorem Ok.pc {m : Int} {d : Nat} {t : List (List Int)} (h : Ok m d t) (i j : Nat) : 0 ≤ pc t i j ∧ pc t i j < m := h.red i j
theorem Ok.of_tab {m : Int} {d : Nat} (m1 : 2 ≤ m) (m2 : m ≤ 10000) (d1 : 1 ≤ d) (d2 : d ≤ 10) (f : Nat → Nat → Int) : Ok m d (tab m d f) := by
  refine ⟨m1, m2, d1, d2, tab_length _ _ _, fun i hi => by rw [tab_row m d f i hi, Ser.cut_length], fun i => ?_⟩
  by_cases hi : i ≤ d
  · rw [tab_row m d f i hi]; exact Ser.cut_red (by omega) _ _
  · rw [rw_over (by rw [tab_length]; omega)]
    intro j; rw [Ser.co_over (Nat.zero_le _)]; omega
theorem Ok.tab {m : Int} {d : Nat} {t : List (List Int)} (h : Ok m d t) (f : Nat → Nat → Int) : Ok m d (tab m d f) := Ok.of_tab h.m1 h.m2 h.d1 h.d2 f
/-- equal tables of planes have equal coefficients -/
theorem Ok.ext {m : Int} {d : Nat} {t u : List (List Int)} (h : Ok m d t) (h' : Ok m d u) (he : Eq m d (Pl.pc t) (Pl.pc u)) : t = u := by
  rw [h.self, h'.self]; exact tab_congr he
/-- the rows behind k are still empty -/
theorem tab_take_succ (m : Int) (d : Nat) (f : Nat → Nat → Int) (k : Nat) (h : k ≤ d) : (tab m d f).take (k + 1) = (tab m d f).take k ++ [Ser.cut m (d - k) (f k)] := by
  rw [List.take_succ_eq_append_getElem (by rw [tab_length]; omega)]
  simp [tab]
theorem tab_take_all (m : Int) (d : Nat) (f : Nat → Nat → Int) : (tab m d f).take (d + 1) = tab m d f := List.take_of_length_le (by rw [tab_length]; omega)
theorem tab_step (m : Int) (d : Nat) (f : Nat → Nat → Int) (k : Nat) (h : k ≤ d) (r : List Int) :
    ((tab m d f).take k ++ List.replicate (d + 1 - k) []).set k r = (tab m d f).take k ++ (r :: List.replicate (d + 1 - (k + 1)) []) := by
  have hl := tab_length m d f
  rw [List.set_append_right _ _ (by simp; omega), List.length_take, hl, Nat.min_eq_left (by omega), Nat.sub_self, show d + 1 - k = (d + 1 - (k + 1)) + 1 by omega, List.replicate_succ, List.set_cons_zero]
theorem tab_step2 (m : Int) (d : Nat) (f : Nat → Nat → Int) (k : Nat) (h : k ≤ d) (r r' : List Int) :
    ((tab m d f).take k ++ (r :: List.replicate (d + 1 - (k + 1)) [])).set k r' = (tab m d f).take k ++ (r' :: List.replicate (d + 1 - (k + 1)) []) := by
  have hl := tab_length m d f
  rw [List.set_append_right _ _ (by simp; omega), List.length_take, hl, Nat.min_eq_left (by omega), Nat.sub_self, List.set_cons_zero]
theorem tab_mid (m : Int) (d : Nat) (f : Nat → Nat → Int) (k : Nat) (h : k ≤ d) (r : List Int) : rw' ((tab m d f).take k ++ (r :: List.replicate (d + 1 - (k + 1)) [])) k = r := by
  have hl := tab_length m d f
  unfold rw'
  rw [List.getElem?_append_right (by simp; omega), List.length_take, hl, Nat.min_eq_left (by omega), Nat.sub_self]; rfl
theorem tab_mid_length (m : Int) (d : Nat) (f : Nat → Nat → Int) (k : Nat) (h : k ≤ d) (r : List Int) : ((tab m d f).take k ++ (r :: List.replicate (d + 1 - (k + 1)) [])).length = d + 1 := by
  have hl := tab_length m d f
  simp; omega
theorem tab_done (m : Int) (d : Nat) (f : Nat → Nat → Int) (k : Nat) (h : k ≤ d) : (tab m d f).take k ++ (Ser.cut m (d - k) (f k) :: List.replicate (d + 1 - (k + 1)) []) = (tab m d f).take (k + 1) ++ List.replicate (d + 1 - (k + 1)) [] := by
  rw [tab_take_succ m d f k h, List.append_assoc]; rfl
end Pl
end Go.Proofs.YtfhdgcndiljjcaaGreatDoor

/- Plain facts on the product of tables, number by number: no program in sight. -/
namespace Go.Proofs.YtfhdgcndiljjcaaGreatDoor
namespace Pl

/-- the coefficient of the product at x^p y^q -/
def mul2 (a b : Nat → Nat → Int) (p q : Nat) : Int := Ser.psum (fun k => Ser.psum (fun l => a k l * b (p - k) (q - l)) (q + 1)) (p + 1)
def tr2 (a b : Nat → Nat → Int) (p q i j : Nat) : Int := if i ≤ p ∧ j ≤ q then a i j * b (p - i) (q - j) else 0
def rowS (a b : Nat → Nat → Int) (p q i J : Nat) : Int := Ser.psum (fun j => tr2 a b p q i j) J
/-- all rows below i, and row i below J -/
def S2 (d : Nat) (a b : Nat → Nat → Int) (i J p q : Nat) : Int := Ser.psum (fun i' => rowS a b p q i' (d + 1 - i')) i + rowS a b p q i J
/-- and of the term i, j the rows below k, and row k below l -/
def T2 (d : Nat) (a b : Nat → Nat → Int) (i j k l p q : Nat) : Int := S2 d a b i j p q + if i ≤ p ∧ j ≤ q ∧ (p - i < k ∨ (p - i = k ∧ q - j < l)) then a i j * b (p - i) (q - j) else 0
theorem psum_cut (f : Nat → Int) (m : Nat) : ∀ n, m ≤ n → (∀ i, m ≤ i → i < n → f i = 0) → Ser.psum f n = Ser.psum f m := by
  intro n
  induction n with
  | zero => intro h _; rw [show m = 0 by omega]
  | succ n ih =>
    intro h hz
    by_cases hm : m = n + 1
    · rw [hm]
    · rw [Ser.psum, ih (by omega) (fun i h1 h2 => hz i h1 (by omega)), hz n (by omega) (by omega), Int.add_zero]
theorem S2_zero (d : Nat) (a b : Nat → Nat → Int) (p q : Nat) : S2 d a b 0 0 p q = 0 := by simp [S2, rowS, Ser.psum]
theorem T2_zero (d : Nat) (a b : Nat → Nat → Int) (i j p q : Nat) : T2 d a b i j 0 0 p q = S2 d a b i j p q := by
  unfold T2
  rw [if_neg (by omega), Int.add_zero]
theorem T2_tab_zero (m : Int) (d : Nat) (a b : Nat → Nat → Int) (i j : Nat) : tab m d (T2 d a b i j 0 0) = tab m d (S2 d a b i j) := tab_congr (Eq.of m d (fun p q _ => T2_zero d a b i j p q))
theorem S2_tab_zero (m : Int) (d : Nat) (a b : Nat → Nat → Int) : tab m d (S2 d a b 0 0) = tab m d fun _ _ => 0 := tab_congr (Eq.of m d (fun p q _ => S2_zero d a b p q))
theorem T2_step (m : Int) (d : Nat) (a b : Nat → Nat → Int) (i j k l : Nat) (h : i + j + k + l ≤ d) :
    (tab m d (T2 d a b i j k l)).set (i + k) ((rw' (tab m d (T2 d a b i j k l)) (i + k)).set (j + l) ((pc (tab m d (T2 d a b i j k l)) (i + k) (j + l) + a i j * b k l) % m)) = tab m d (T2 d a b i j k (l + 1)) := by
  refine tab_put (by omega) ?_ (fun p q hpq hne => ?_)
  · rw [pc_tab (by omega)]
    unfold T2
    rw [if_pos (show i ≤ i + k ∧ j ≤ j + l ∧ (i + k - i < k ∨ (i + k - i = k ∧ j + l - j < l + 1)) by omega), if_neg (show ¬ (i ≤ i + k ∧ j ≤ j + l ∧ (i + k - i < k ∨ (i + k - i = k ∧ j + l - j < l))) by omega),
      show i + k - i = k by omega, show j + l - j = l by omega, Int.add_zero, Int.emod_add_emod]
  · unfold T2
    by_cases h1 : i ≤ p ∧ j ≤ q ∧ (p - i < k ∨ (p - i = k ∧ q - j < l))
    · rw [if_pos h1, if_pos (by omega)]
    · rw [if_neg h1, if_neg (by omega)]
theorem T2_rowend (m : Int) (d : Nat) (a b : Nat → Nat → Int) (i j k l : Nat) (h : d < i + j + k + l) : tab m d (T2 d a b i j k l) = tab m d (T2 d a b i j (k + 1) 0) :=
  tab_congr (Eq.of m d (fun p q hpq => by
    unfold T2
    by_cases h1 : i ≤ p ∧ j ≤ q ∧ (p - i < k ∨ (p - i = k ∧ q - j < l))
    · rw [if_pos h1, if_pos (by omega)]
    · rw [if_neg h1, if_neg (by omega)]))
theorem S2_succ (d : Nat) (a b : Nat → Nat → Int) (i j p q : Nat) : S2 d a b i (j + 1) p q = S2 d a b i j p q + tr2 a b p q i j := by
  unfold S2 rowS
  rw [Ser.psum]; omega
theorem T2_end (m : Int) (d : Nat) (a b : Nat → Nat → Int) (i j k : Nat) (h : d < i + j + k) : tab m d (T2 d a b i j k 0) = tab m d (S2 d a b i (j + 1)) :=
  tab_congr (Eq.of m d (fun p q hpq => by
    rw [S2_succ]
    unfold T2 tr2
    by_cases h1 : i ≤ p ∧ j ≤ q
    · rw [if_pos (by omega), if_pos h1]
    · rw [if_neg (by omega), if_neg h1]))
theorem S2_skip (m : Int) (d : Nat) (a b : Nat → Nat → Int) (i j : Nat) (h : a i j = 0) : tab m d (S2 d a b i j) = tab m d (S2 d a b i (j + 1)) :=
  tab_congr (Eq.of m d (fun p q hpq => by
    rw [S2_succ]
    unfold tr2
    rw [h]; simp))
theorem S2_next (m : Int) (d : Nat) (a b : Nat → Nat → Int) (i j : Nat) (h : i + j = d + 1) : tab m d (S2 d a b i j) = tab m d (S2 d a b (i + 1) 0) :=
  tab_congr (Eq.of m d (fun p q hpq => by
    unfold S2
    rw [Ser.psum, show d + 1 - i = j by omega]
    simp [rowS, Ser.psum]))
theorem S2_last (m : Int) (d : Nat) (a b : Nat → Nat → Int) : tab m d (S2 d a b (d + 1) 0) = tab m d (mul2 a b) :=
  tab_congr (Eq.of m d (fun p q hpq => by
    have h0 : rowS a b p q (d + 1) 0 = 0 := rfl
    unfold S2 mul2
    rw [h0, Int.add_zero, psum_cut _ (p + 1) (d + 1) (by omega) (fun i h1 h2 => by
      unfold rowS
      rw [psum_cut _ 0 _ (Nat.zero_le _) (fun j _ _ => by unfold tr2; rw [if_neg (by omega)])]; rfl)]
    refine Ser.psum_ext _ (fun i hi => ?_)
    unfold rowS
    rw [psum_cut _ (q + 1) (d + 1 - i) (by omega) (fun j h1 h2 => by unfold tr2; rw [if_neg (by omega)])]
    exact Ser.psum_ext _ (fun j hj => by unfold tr2; rw [if_pos (by omega)])))
/-- bounds -/
theorem psum_bd2 (f : Nat → Int) (B : Int) (hf : ∀ i, 0 ≤ f i ∧ f i ≤ B) : ∀ n : Nat, 0 ≤ Ser.psum f n ∧ Ser.psum f n ≤ n * B := by
  intro n
  induction n with
  | zero => simp [Ser.psum]
  | succ n ih =>
    have := hf n
    have e : ((n + 1 : Nat) : Int) * B = n * B + B := by rw [show ((n + 1 : Nat) : Int) = (n : Int) + 1 by omega, Int.add_mul, Int.one_mul]
    rw [Ser.psum, e]
    omega
theorem prod_bd {x y : Int} (h1 : 0 ≤ x) (h2 : x ≤ 10000) (h3 : 0 ≤ y) (h4 : y ≤ 10000) : 0 ≤ x * y ∧ x * y ≤ 100000000 := by
  refine ⟨Int.mul_nonneg h1 h3, ?_⟩
  have a := Int.mul_le_mul_of_nonneg_left (c := x) h4 h1
  omega
end Pl
end Go.Proofs.YtfhdgcndiljjcaaGreatDoor

/- Plain theory of substituting series into tables: no program in sight. -/
namespace Go.Proofs.YtfhdgcndiljjcaaGreatDoor
namespace Ser

theorem psum_zero : ∀ n, psum (fun _ => (0 : Int)) n = 0 := by
  intro n
  induction n with
  | zero => rfl
  | succ n ih => rw [psum, ih]; rfl
theorem psum_add (f g : Nat → Int) : ∀ n, psum (fun i => f i + g i) n = psum f n + psum g n := by
  intro n
  induction n with
  | zero => rfl
  | succ n ih => rw [psum, psum, psum, ih]; omega
theorem psum_mul (c : Int) (f : Nat → Int) : ∀ n, psum (fun i => c * f i) n = c * psum f n := by
  intro n
  induction n with
  | zero => simp [psum]
  | succ n ih => rw [psum, psum, ih, Int.mul_add]
theorem psum_mul' (c : Int) (f : Nat → Int) (n : Nat) : psum (fun i => f i * c) n = psum f n * c := by
  rw [Int.mul_comm _ c, ← psum_mul]
  exact psum_ext _ (fun i _ => Int.mul_comm _ _)
theorem psum_swap (f : Nat → Nat → Int) (n : Nat) : ∀ k, psum (fun i => psum (f i) n) k = psum (fun j => psum (fun i => f i j) k) n := by
  intro k
  induction k with
  | zero =>
    have : (fun j : Nat => psum (fun i => f i j) 0) = fun _ => 0 := rfl
    rw [this, psum_zero]; rfl
  | succ k ih =>
    rw [psum, ih]
    have : (fun j => psum (fun i => f i j) (k + 1)) = fun j => psum (fun i => f i j) k + f k j := rfl
    rw [this, psum_add]
theorem psum_congr {m : Int} {f g : Nat → Int} : ∀ n, (∀ i, i < n → f i % m = g i % m) → psum f n % m = psum g n % m := by
  intro n
  induction n with
  | zero => intro _; rfl
  | succ n ih => intro h; rw [psum, psum]; exact add_cong (ih (fun i hi => h i (by omega))) (h n (by omega))
theorem psum_low (f : Nat → Int) (k : Nat) (h : ∀ i, i < k → f i = 0) : psum f k = 0 := by
  rw [psum_ext (g := fun _ => 0) k h, psum_zero]
theorem psum_mon (a : Nat → Int) (j : Nat) : ∀ N, psum (fun i => a i * mon i 1 j) N = if j < N then a j else 0 := by
  intro N
  induction N with
  | zero => simp [psum]
  | succ N ih =>
    rw [psum, ih]
    unfold mon
    by_cases h : j < N
    · rw [if_pos h, if_neg (by omega), if_pos (by omega)]; omega
    · by_cases h2 : j = N
      · rw [if_neg h, if_pos h2, if_pos (by omega), h2]; omega
      · rw [if_neg h, if_neg h2, if_neg (by omega)]; omega
theorem comp_psum {f : Nat → Int} (hf : f 0 = 0) (a : Nat → Int) (n : Nat) : ∀ N, comp (fun j => psum (fun i => a i * mon i 1 j) N) f n = psum (fun i => a i * pw f i n) N := by
  intro N
  induction N with
  | zero =>
    have e : (fun j => psum (fun i => a i * mon i 1 j) 0) = fun _ => 0 := rfl
    rw [e]
    have := comp_smul hf 0 n (fun _ => 0)
    simpa [psum] using this
  | succ N ih =>
    have e : (fun j => psum (fun i => a i * mon i 1 j) (N + 1)) = fun j => psum (fun i => a i * mon i 1 j) N + a N * mon N 1 j := rfl
    rw [e, comp_add hf, ih, comp_smul hf, comp_mon hf, psum]
/-- a composition is a sum of powers -/
theorem comp_pw {f : Nat → Int} (hf : f 0 = 0) (a : Nat → Int) {n N : Nat} (h : n < N) : comp a f n = psum (fun i => a i * pw f i n) N := by
  rw [← comp_psum hf a n N]
  exact comp_ext hf n (fun i hi => by rw [psum_mon, if_pos (by omega)])
theorem pw_congr {m : Int} {n : Nat} {f g : Nat → Int} (h : Eq m n f g) : ∀ k, Eq m n (pw f k) (pw g k) := by
  intro k
  induction k with
  | zero => exact Eq.refl _ _ _
  | succ k ih => exact Eq.mul ih h
/-- the powers of a list -/
def pwL (m : Int) (d : Nat) (a : List Int) : Nat → List Int
  | 0 => one m d
  | k + 1 => mulL m d (pwL m d a k) a
theorem pwL_length (m : Int) (d : Nat) (a : List Int) (k : Nat) : (pwL m d a k).length = d + 1 := by cases k <;> exact cut_length _ _ _
theorem pwL_cut (m : Int) (d : Nat) (a : List Int) : ∀ k, pwL m d a k = cut m d (pw (co a) k) := by
  intro k
  induction k with
  | zero => rfl
  | succ k ih =>
    show cut m d (mul (co (pwL m d a k)) (co a)) = _
    refine cut_congr ?_
    rw [ih]
    exact Eq.mul (co_cut_eq _ _ _) (Eq.refl _ _ _)
theorem cmpL_cut {m : Int} (hm : 0 < m) {d : Nat} {a f : List Int} (hf : co f 0 = 0) (ha : Red m a) : cmpL m d a f = cut m d (comp (co a) (co f)) := by
  refine red_unique (d := d) (cmpL_length _ _ _ _) (cut_length _ _ _) (cmpL_red hm d ha f) (cut_red hm d _) ?_
  exact (cmpL_eq hf).trans (co_cut_eq _ _ _).symm
end Ser

namespace Pl
open Ser (psum cv pw)
/-- the coefficients of F(a(x), b(y)), and of F(a(t), b(t)) -/
def subB (F : Nat → Nat → Int) (a b : Nat → Int) (N p q : Nat) : Int := psum (fun i => psum (fun j => F i j * (pw a i p * pw b j q)) N) N
def putF (F : Nat → Nat → Int) (a b : Nat → Int) (N n : Nat) : Int := psum (fun i => psum (fun j => F i j * cv n (pw a i) (pw b j)) N) N
/-- the program's four steps -/
theorem steps {m : Int} {d : Nat} {F : Nat → Nat → Int} {a b : Nat → Int} (ha : a 0 = 0) (hb : b 0 = 0) :
    tab m d (fun p q => Ser.comp (pc (tab m d fun q' i => Ser.comp (F i) b q') q) a p) = tab m d (subB F a b (d + 1)) := by
  refine tab_congr (fun p q h => ?_)
  rw [Ser.comp_congr ha ha p _ (fun i => Ser.comp (F i) b q) (fun i hi => by rw [pc_tab (by omega), Int.emod_emod]) (Ser.Eq.refl _ _ _)]
  rw [Ser.comp_pw ha _ (N := d + 1) (by omega)]
  congr 1
  unfold subB
  refine Ser.psum_ext _ (fun i _ => ?_)
  rw [Ser.comp_pw hb _ (N := d + 1) (by omega), ← Ser.psum_mul']
  refine Ser.psum_ext _ (fun j _ => ?_)
  rw [Int.mul_assoc, Int.mul_comm (pw b j q)]
theorem diag_put (F : Nat → Nat → Int) (a b : Nat → Int) (N n : Nat) : psum (fun p => subB F a b N p (n - p)) (n + 1) = putF F a b N n := by
  unfold subB putF
  rw [Ser.psum_swap]
  refine Ser.psum_ext _ (fun i _ => ?_)
  rw [Ser.psum_swap]
  refine Ser.psum_ext _ (fun j _ => ?_)
  rw [Ser.psum_mul, Ser.cv_psum]
def putL (m : Int) (d : Nat) (F : Nat → Nat → Int) (a b : List Int) : List Int := Ser.cut m d (putF F (Ser.co a) (Ser.co b) (d + 1))
theorem putL_length (m : Int) (d : Nat) (F : Nat → Nat → Int) (a b : List Int) : (putL m d F a b).length = d + 1 := Ser.cut_length _ _ _
def botT (m : Int) (d : Nat) (F : Nat → Nat → Int) (a b : List Int) : List (List Int) := tab m d (subB F (Ser.co a) (Ser.co b) (d + 1))
/-- the program's diagonal -/
theorem diag_cut (m : Int) (d : Nat) (F : Nat → Nat → Int) (a b : List Int) : Ser.cut m d (fun n => psum (fun p => pc (botT m d F a b) p (n - p)) (n + 1)) = putL m d F a b := by
  refine Ser.cut_congr (fun n hn => ?_)
  rw [← diag_put]
  refine Ser.psum_congr _ (fun p hp => ?_)
  unfold botT
  rw [pc_tab (by omega), Int.emod_emod]

/-! sums over the terms of a table, row by row -/
def acc (d : Nat) (g : Nat → Nat → Int) (i J : Nat) : Int := psum (fun i' => psum (g i') (d + 1 - i')) i + psum (g i) J
theorem acc_zero (d : Nat) (g : Nat → Nat → Int) : acc d g 0 0 = 0 := rfl
theorem acc_succ (d : Nat) (g : Nat → Nat → Int) (i J : Nat) : acc d g i (J + 1) = acc d g i J + g i J := by unfold acc; rw [psum]; omega
theorem acc_next (d : Nat) (g : Nat → Nat → Int) (i J : Nat) (h : i + J = d + 1) : acc d g i J = acc d g (i + 1) 0 := by
  unfold acc
  show _ = psum (fun i' => psum (g i') (d + 1 - i')) i + psum (g i) (d + 1 - i) + 0
  rw [show d + 1 - i = J by omega]; omega
theorem acc_last (d : Nat) (g : Nat → Nat → Int) (h : ∀ i j, d < i + j → g i j = 0) : acc d g (d + 1) 0 = psum (fun i => psum (g i) (d + 1)) (d + 1) := by
  unfold acc
  rw [psum, Int.add_zero]
  refine Ser.psum_ext _ (fun i hi => ?_)
  exact (psum_cut _ (d + 1 - i) (d + 1) (by omega) (fun j h1 _ => h i j (by omega))).symm
/-- the model's sum for f(a(t), b(t)) -/
def putS (m : Int) (d : Nat) (F : Nat → Nat → Int) (a b : List Int) (i J : Nat) : List Int := Ser.cut m d fun n => acc d (fun i j => F i j * cv n (pw (Ser.co a) i) (pw (Ser.co b) j)) i J
theorem putS_length (m : Int) (d : Nat) (F : Nat → Nat → Int) (a b : List Int) (i J : Nat) : (putS m d F a b i J).length = d + 1 := Ser.cut_length _ _ _
theorem putS_zero (m : Int) (d : Nat) (F : Nat → Nat → Int) (a b : List Int) : putS m d F a b 0 0 = List.replicate (d + 1) 0 := Ser.cut_zero m d
theorem putS_step (m : Int) (d : Nat) (F : Nat → Nat → Int) (a b : List Int) (i J : Nat) :
    Ser.cut m d (fun n => Ser.co (putS m d F a b i J) n + Ser.co (Ser.cut m d fun n => Ser.co (Ser.mulL m d (Ser.pwL m d a i) (Ser.pwL m d b J)) n * F i J) n) = putS m d F a b i (J + 1) := by
  refine Ser.cut_congr (fun n hn => ?_)
  rw [acc_succ]
  unfold putS
  rw [Ser.co_cut hn, Ser.co_cut hn]
  refine Ser.add_cong (Int.emod_emod _ _) ?_
  rw [Int.emod_emod, Int.mul_comm]
  refine Ser.mul_cong rfl ?_
  unfold Ser.mulL
  rw [Ser.co_cut hn, Int.emod_emod, Ser.pwL_cut, Ser.pwL_cut, Ser.mul_at]
  exact Ser.cv_congr n ((Ser.co_cut_eq _ _ _).less hn) ((Ser.co_cut_eq _ _ _).less hn)
theorem putS_skip (m : Int) (d : Nat) (F : Nat → Nat → Int) (a b : List Int) (i J : Nat) (h : F i J = 0) : putS m d F a b i (J + 1) = putS m d F a b i J := by
  refine Ser.cut_congr (fun n hn => ?_)
  rw [acc_succ, h, Int.zero_mul, Int.add_zero]
theorem putS_next (m : Int) (d : Nat) (F : Nat → Nat → Int) (a b : List Int) (i J : Nat) (h : i + J = d + 1) : putS m d F a b i J = putS m d F a b (i + 1) 0 :=
  Ser.cut_congr (fun n hn => by rw [acc_next _ _ _ _ h])
theorem putS_last (m : Int) (d : Nat) (F : Nat → Nat → Int) (a b : List Int) (hF : ∀ i j, d < i + j → F i j = 0) : putS m d F a b (d + 1) 0 = putL m d F a b :=
  Ser.cut_congr (fun n hn => by
    rw [acc_last _ _ (fun i j h => by rw [hF i j h, Int.zero_mul])]; rfl)

/-! the model's table for f(a(x), b(y)) -/
def botG (F : Nat → Nat → Int) (a b : Nat → Int) (p q i j : Nat) : Int := F i j * (pw a i p * pw b j q)
def botS (d : Nat) (F : Nat → Nat → Int) (a b : Nat → Int) (i J p q : Nat) : Int := acc d (botG F a b p q) i J
def botK (d : Nat) (F : Nat → Nat → Int) (a b : Nat → Int) (i J k l p q : Nat) : Int := botS d F a b i J p q + if p < k ∨ (p = k ∧ q < l) then botG F a b p q i J else 0
theorem botG_low1 {F : Nat → Nat → Int} {a b : Nat → Int} (ha : a 0 = 0) {p q i j : Nat} (h : p < i) : botG F a b p q i j = 0 := by
  unfold botG; rw [Ser.pw_low ha i p h]; simp
theorem botG_low2 {F : Nat → Nat → Int} {a b : Nat → Int} (hb : b 0 = 0) {p q i j : Nat} (h : q < j) : botG F a b p q i j = 0 := by
  unfold botG; rw [Ser.pw_low hb j q h]; simp
theorem botS_zero (m : Int) (d : Nat) (F : Nat → Nat → Int) (a b : Nat → Int) : tab m d (botS d F a b 0 0) = tab m d fun _ _ => 0 := rfl
theorem botK_begin (m : Int) (d : Nat) (F : Nat → Nat → Int) {a b : Nat → Int} (ha : a 0 = 0) (hb : b 0 = 0) (i J : Nat) : tab m d (botK d F a b i J i J) = tab m d (botS d F a b i J) :=
  tab_congr (Eq.of m d (fun p q _ => by
    unfold botK
    split
    · rename_i h
      rcases h with h | h
      · rw [botG_low1 ha h, Int.add_zero]
      · rw [botG_low2 hb h.2, Int.add_zero]
    · rw [Int.add_zero]))
theorem botK_row (m : Int) (d : Nat) (F : Nat → Nat → Int) {a b : Nat → Int} (hb : b 0 = 0) (i J k l : Nat) (h : d < k + l) : tab m d (botK d F a b i J k l) = tab m d (botK d F a b i J (k + 1) J) :=
  tab_congr (Eq.of m d (fun p q hpq => by
    unfold botK
    by_cases h1 : p < k ∨ (p = k ∧ q < l)
    · rw [if_pos h1, if_pos (by omega)]
    · rw [if_neg h1]
      split
      · rename_i h2
        rw [botG_low2 hb (by omega)]
      · rfl))
theorem botK_end (m : Int) (d : Nat) (F : Nat → Nat → Int) (a b : Nat → Int) (i J k l : Nat) (h : d < k) : tab m d (botK d F a b i J k l) = tab m d (botS d F a b i (J + 1)) :=
  tab_congr (Eq.of m d (fun p q hpq => by
    unfold botK botS
    rw [if_pos (by omega), acc_succ]))
theorem botK_step (m : Int) (d : Nat) (F : Nat → Nat → Int) (a b : List Int) (i J k l : Nat) (h : k + l ≤ d) :
    (tab m d (botK d F (Ser.co a) (Ser.co b) i J k l)).set k ((rw' (tab m d (botK d F (Ser.co a) (Ser.co b) i J k l)) k).set l ((pc (tab m d (botK d F (Ser.co a) (Ser.co b) i J k l)) k l + (F i J * Ser.co (Ser.pwL m d a i) k) % m * Ser.co (Ser.pwL m d b J) l) % m)) = tab m d (botK d F (Ser.co a) (Ser.co b) i J k (l + 1)) := by
  refine tab_put h ?_ (fun p q hpq hne => ?_)
  · rw [pc_tab h]
    unfold botK
    rw [if_pos (by omega), if_neg (by omega), Int.add_zero]
    refine Ser.add_cong (Int.emod_emod _ _).symm ?_
    rw [Ser.pwL_cut, Ser.pwL_cut, Ser.co_cut (by omega), Ser.co_cut (by omega)]
    unfold botG
    rw [← Int.mul_assoc]
    refine Ser.mul_cong ?_ (Int.emod_emod _ _).symm
    rw [Int.emod_emod]
    exact Ser.mul_cong rfl (Int.emod_emod _ _).symm
  · unfold botK
    by_cases h1 : p < k ∨ (p = k ∧ q < l)
    · rw [if_pos h1, if_pos (by omega)]
    · rw [if_neg h1, if_neg (by omega)]
theorem botS_skip (m : Int) (d : Nat) (F : Nat → Nat → Int) (a b : Nat → Int) (i J : Nat) (h : F i J = 0) : tab m d (botS d F a b i (J + 1)) = tab m d (botS d F a b i J) :=
  tab_congr (Eq.of m d (fun p q hpq => by
    unfold botS
    rw [acc_succ]
    unfold botG
    rw [h, Int.zero_mul, Int.add_zero]))
theorem botS_next (m : Int) (d : Nat) (F : Nat → Nat → Int) (a b : Nat → Int) (i J : Nat) (h : i + J = d + 1) : tab m d (botS d F a b i J) = tab m d (botS d F a b (i + 1) 0) :=
  tab_congr (Eq.of m d (fun p q hpq => by unfold botS; rw [acc_next _ _ _ _ h]))
theorem botS_last (m : Int) (d : Nat) (F : Nat → Nat → Int) (a b : List Int) (hF : ∀ i j, d < i + j → F i j = 0) : tab m d (botS d F (Ser.co a) (Ser.co b) (d + 1) 0) = botT m d F a b :=
  tab_congr (Eq.of m d (fun p q hpq => by
    unfold botS
    rw [acc_last _ _ (fun i j h => by unfold botG; rw [hF i j h, Int.zero_mul])]; rfl))
end Pl
end Go.Proofs.YtfhdgcndiljjcaaGreatDoor

/- Plain theory of laws: powers of a table, Horner's rule for tables, faults, inverses: no program in sight. -/
namespace Go.Proofs.YtfhdgcndiljjcaaGreatDoor
namespace Pl
open Ser (psum cv pw)

theorem mul2_congr {m : Int} {a a' b b' : Nat → Nat → Int} {d : Nat} (h : Eq m d a a') (k : Eq m d b b') : Eq m d (mul2 a b) (mul2 a' b') := by
  intro p q hpq
  refine Ser.psum_congr _ (fun i hi => Ser.psum_congr _ (fun j hj => Ser.mul_cong (h i j (by omega)) (k _ _ (by omega))))
theorem mul2_add (a a' b : Nat → Nat → Int) (p q : Nat) : mul2 (fun i j => a i j + a' i j) b p q = mul2 a b p q + mul2 a' b p q := by
  unfold mul2
  rw [← Ser.psum_add]
  refine Ser.psum_ext _ (fun i _ => ?_)
  rw [← Ser.psum_add]
  exact Ser.psum_ext _ (fun j _ => Int.add_mul _ _ _)
theorem mul2_smul (c : Int) (a b : Nat → Nat → Int) (p q : Nat) : mul2 (fun i j => c * a i j) b p q = c * mul2 a b p q := by
  unfold mul2
  rw [← Ser.psum_mul]
  refine Ser.psum_ext _ (fun i _ => ?_)
  rw [← Ser.psum_mul]
  exact Ser.psum_ext _ (fun j _ => Int.mul_assoc _ _ _)
theorem mul2_turn (a b : Nat → Nat → Int) (p q : Nat) : mul2 a b q p = mul2 (fun i j => a j i) (fun i j => b j i) p q := by
  unfold mul2
  exact Ser.psum_swap _ _ _
/-- a number alone -/
def one2 (c : Int) : Nat → Nat → Int := fun p q => if p = 0 ∧ q = 0 then c else 0
/-- the powers of a table, and their list of tables -/
def pw2 (F : Nat → Nat → Int) : Nat → Nat → Nat → Int
  | 0 => one2 1
  | k + 1 => mul2 (pw2 F k) F
def pwT (m : Int) (d : Nat) (F : Nat → Nat → Int) : Nat → List (List Int)
  | 0 => tab m d (one2 1)
  | k + 1 => tab m d (mul2 (pc (pwT m d F k)) F)
theorem pwT_tab (m : Int) (d : Nat) (F : Nat → Nat → Int) : ∀ k, pwT m d F k = tab m d (pw2 F k) := by
  intro k
  induction k with
  | zero => rfl
  | succ k ih =>
    show tab m d (mul2 (pc (pwT m d F k)) F) = tab m d (mul2 (pw2 F k) F)
    rw [ih]
    exact tab_congr (mul2_congr (pc_tab_eq _ _ _) (Eq.refl _ _ _))
theorem pwT_length (m : Int) (d : Nat) (F : Nat → Nat → Int) (k : Nat) : (pwT m d F k).length = d + 1 := by cases k <;> exact tab_length _ _ _
/-- symmetric up to the degree -/
def Sym (d : Nat) (F : Nat → Nat → Int) : Prop := ∀ i j, i + j ≤ d → F i j = F j i
theorem pw2_sym {d : Nat} {F : Nat → Nat → Int} (h : Sym d F) : ∀ k, Sym d (pw2 F k) := by
  intro k
  induction k with
  | zero =>
    intro i j _
    show one2 1 i j = one2 1 j i
    unfold one2
    by_cases c : i = 0 ∧ j = 0
    · rw [if_pos c, if_pos ⟨c.2, c.1⟩]
    · rw [if_neg c, if_neg (fun e => c ⟨e.2, e.1⟩)]
  | succ k ih =>
    intro i j hij
    show mul2 (pw2 F k) F i j = mul2 (pw2 F k) F j i
    rw [mul2_turn (pw2 F k) F i j]
    refine Ser.psum_ext _ (fun a ha => Ser.psum_ext _ (fun b hb => ?_))
    rw [ih a b (by omega), h (i - a) (j - b) (by omega)]
/-- Horner's table when the last k of a list's coefficients have been taken in -/
def horq (m : Int) (d : Nat) (l : List Int) (F : Nat → Nat → Int) : Nat → List (List Int)
  | 0 => tab m d fun _ _ => 0
  | k + 1 => tab m d fun p q => mul2 (pc (horq m d l F k)) F p q + (if p = 0 ∧ q = 0 then Ser.co l (l.length - 1 - k) else 0)
theorem horq_length (m : Int) (d : Nat) (l : List Int) (F : Nat → Nat → Int) (k : Nat) : (horq m d l F k).length = d + 1 := by
  cases k <;> exact tab_length _ _ _
theorem horq_ok {m : Int} {d : Nat} (m1 : 2 ≤ m) (m2 : m ≤ 10000) (d1 : 1 ≤ d) (d2 : d ≤ 10) (l : List Int) (F : Nat → Nat → Int) (k : Nat) : Ok m d (horq m d l F k) := by
  cases k <;> (unfold horq; exact Ok.of_tab m1 m2 d1 d2 _)
theorem horq_step {m : Int} {d : Nat} (l : List Int) (F : Nat → Nat → Int) (k : Nat) :
    (tab m d (mul2 (pc (horq m d l F k)) F)).set 0 ((rw' (tab m d (mul2 (pc (horq m d l F k)) F)) 0).set 0 ((pc (tab m d (mul2 (pc (horq m d l F k)) F)) 0 0 + Ser.co l (l.length - 1 - k)) % m)) = horq m d l F (k + 1) := by
  rw [pc_tab (Nat.zero_le _)]
  refine tab_put (Nat.zero_le _) ?_ (fun p q _ hne => ?_)
  · rw [if_pos ⟨rfl, rfl⟩, Int.emod_add_emod]
  · rw [if_neg hne, Int.add_zero]
theorem mul2_psum (g : Nat → Nat → Nat → Int) (F : Nat → Nat → Int) (p q : Nat) : ∀ n, mul2 (fun i j => psum (fun k => g k i j) n) F p q = psum (fun k => mul2 (g k) F p q) n := by
  intro n
  induction n with
  | zero =>
    have : (fun i j : Nat => psum (fun k => g k i j) 0) = fun i j => 0 * F i j := by funext i j; rw [Int.zero_mul]; rfl
    rw [this, mul2_smul, Int.zero_mul]; rfl
  | succ n ih =>
    have : (fun i j => psum (fun k => g k i j) (n + 1)) = fun i j => psum (fun k => g k i j) n + g n i j := rfl
    rw [this, mul2_add, ih, psum]
theorem horq_pw {m : Int} {d : Nat} (l : List Int) (F : Nat → Nat → Int) : ∀ k, k ≤ l.length → Eq m d (pc (horq m d l F k)) (fun p q => psum (fun i => Ser.co l (l.length - k + i) * pw2 F i p q) k) := by
  intro k
  induction k with
  | zero => intro _ p q h; rw [show horq m d l F 0 = tab m d fun _ _ => 0 from rfl, pc_tab h, Int.emod_emod]; rfl
  | succ k ih =>
    intro hk p q h
    rw [show horq m d l F (k + 1) = tab m d fun p q => mul2 (pc (horq m d l F k)) F p q + (if p = 0 ∧ q = 0 then Ser.co l (l.length - 1 - k) else 0) from rfl, pc_tab h, Int.emod_emod]
    dsimp only
    rw [Ser.psum_left, Int.add_comm (Ser.co l _ * _)]
    refine Ser.add_cong ?_ ?_
    · rw [mul2_congr (ih (by omega)) (Eq.refl _ _ _) p q h, mul2_psum]
      congr 1
      refine Ser.psum_ext _ (fun i hi => ?_)
      rw [mul2_smul, show l.length - k + i = l.length - (k + 1) + (i + 1) by omega]; rfl
    · rw [show l.length - 1 - k = l.length - (k + 1) + 0 by omega]
      show _ = (_ * one2 1 p q) % m
      unfold one2
      split <;> simp
/-- the coefficient at x^a y^b z^c of F(F(x, y), z) -/
def brS (m : Int) (d : Nat) (F : Nat → Nat → Int) (a b c : Nat) : Int := psum (fun i => F i c * pc (pwT m d F i) a b) (d + 1 - c)
def br (m : Int) (d : Nat) (F : Nat → Nat → Int) (a b c : Nat) : Int := brS m d F a b c % m
theorem horq_br {m : Int} {d : Nat} (l : List Int) (F : Nat → Nat → Int) (c : Nat) (hl : l.length = d + 1 - c) (h : ∀ i, i < l.length → Ser.co l i = F i c) (a b : Nat) (hab : a + b ≤ d) : pc (horq m d l F l.length) a b = br m d F a b c := by
  have hr : pc (horq m d l F l.length) a b = pc (horq m d l F l.length) a b % m := by
    have e : ∀ k, ∃ g, horq m d l F k = tab m d g := fun k => by cases k <;> exact ⟨_, rfl⟩
    obtain ⟨g, hg⟩ := e l.length
    rw [hg, pc_tab hab, Int.emod_emod]
  rw [hr, horq_pw l F l.length (Nat.le_refl _) a b hab]
  unfold br brS
  rw [hl]
  refine Ser.psum_congr _ (fun i hi => ?_)
  rw [Nat.sub_self, Nat.zero_add, h i (by omega), pwT_tab]
  exact Ser.mul_cong rfl (by rw [pc_tab hab, Int.emod_emod])
theorem horq_br' {m : Int} {d : Nat} (l : List Int) {F : Nat → Nat → Int} (hs : Sym d F) (c : Nat) (hl : l.length = d + 1 - c) (h : ∀ i, i < l.length → Ser.co l i = F c i) (a b : Nat) (hab : a + b ≤ d) : pc (horq m d l F l.length) b a = br m d F a b c := by
  rw [horq_br l F c hl (fun i hi => by rw [h i hi, hs c i (by omega)]) b a (by omega)]
  unfold br brS
  refine Ser.psum_congr _ (fun i hi => ?_)
  rw [pwT_tab, pc_tab (by omega), pc_tab hab, pw2_sym hs i b a (by omega)]

/-! the first of something -/
def srch (p : Nat → Option (List Int)) : Nat → Nat → Option (List Int)
  | 0, _ => none
  | n + 1, k => match p k with
    | some x => some x
    | none => srch p n (k + 1)
def orE (a b : Option (List Int)) : Option (List Int) := match a with
  | some x => some x
  | none => b
theorem srch_hit {p : Nat → Option (List Int)} {k : Nat} {x : List Int} (n : Nat) (h : p k = some x) : srch p (n + 1) k = some x := by rw [srch, h]
theorem srch_miss {p : Nat → Option (List Int)} {k : Nat} (n : Nat) (h : p k = none) : srch p (n + 1) k = srch p n (k + 1) := by rw [srch, h]
theorem srch_step (p : Nat → Option (List Int)) (n k : Nat) : srch p (n + 1) k = orE (p k) (srch p n (k + 1)) := by rw [srch]; unfold orE; split <;> simp_all
theorem orE_none (b : Option (List Int)) : orE none b = b := rfl
theorem orE_some (x : List Int) (b : Option (List Int)) : orE (some x) b = some x := rfl
theorem srch_none {p : Nat → Option (List Int)} : ∀ n k, srch p n k = none → ∀ i, k ≤ i → i < k + n → p i = none := by
  intro n
  induction n with
  | zero => intro k _ i h1 h2; omega
  | succ n ih =>
    intro k h i h1 h2
    rw [srch_step] at h
    cases hp : p k with
    | some x => rw [hp] at h; exact absurd h (by simp [orE])
    | none =>
      rw [hp] at h
      by_cases hi : i = k
      · rw [hi]; exact hp
      · exact ih (k + 1) h i (by omega) (by omega)
def want (i : Nat) : Int := if i = 1 then 1 else 0
def fau0 (F : Nat → Nat → Int) (i : Nat) : Option (List Int) := if F i 0 = want i then none else some [0, (i : Int)]
def fau1j (F : Nat → Nat → Int) (i j : Nat) : Option (List Int) := if F i j = F j i then none else some [1, (i : Int), (j : Int)]
def fau1 (d : Nat) (F : Nat → Nat → Int) (i : Nat) : Option (List Int) := srch (fau1j F i) (d - i - i) (i + 1)
def fau2c (m : Int) (d : Nat) (F : Nat → Nat → Int) (a b c : Nat) : Option (List Int) := if br m d F a b c = br m d F c b a then none else some [2, (a : Int), (b : Int), (c : Int)]
def fau2b (m : Int) (d : Nat) (F : Nat → Nat → Int) (a b : Nat) : Option (List Int) := srch (fau2c m d F a b) (d + 1 - (a + b)) 0
def fau2 (m : Int) (d : Nat) (F : Nat → Nat → Int) (a : Nat) : Option (List Int) := srch (fau2b m d F a) (d + 1 - a) 0
def fauP (d : Nat) (F : Nat → Nat → Int) : Option (List Int) := srch (fau0 F) (d + 1) 0
def fauS (d : Nat) (F : Nat → Nat → Int) : Option (List Int) := srch (fau1 d F) (d + 1) 0
def fauT (m : Int) (d : Nat) (F : Nat → Nat → Int) : Option (List Int) := srch (fau2 m d F) (d + 1) 0
def fau (m : Int) (d : Nat) (F : Nat → Nat → Int) : Option (List Int) := orE (fauP d F) (orE (fauS d F) (fauT m d F))
theorem fauP_none {d : Nat} {F : Nat → Nat → Int} (h : fauP d F = none) (i : Nat) (hi : i ≤ d) : F i 0 = want i := by
  have := srch_none _ _ h i (Nat.zero_le _) (by omega)
  unfold fau0 at this
  by_cases c : F i 0 = want i
  · exact c
  · rw [if_neg c] at this; exact absurd this (by simp)
theorem fauS_none {d : Nat} {F : Nat → Nat → Int} (h : fauS d F = none) : Sym d F := by
  have key : ∀ i j, i < j → i + j ≤ d → F i j = F j i := by
    intro i j h1 h2
    have := srch_none _ _ (srch_none _ _ h i (Nat.zero_le _) (by omega)) j (by omega) (by omega)
    unfold fau1j at this
    by_cases c : F i j = F j i
    · exact c
    · rw [if_neg c] at this; exact absurd this (by simp)
  intro i j hij
  by_cases h1 : i < j
  · exact key i j h1 hij
  · by_cases h2 : j < i
    · exact (key j i h2 (by omega)).symm
    · rw [show i = j by omega]

/-! the inverse of a law -/
/-- the first variable's terms are t alone, the second's too -/
structure Norm (d : Nat) (F : Nat → Nat → Int) : Prop where
  x : ∀ i, i ≤ d → F i 0 = want i
  y : ∀ j, j ≤ d → F 0 j = want j
  over : ∀ i j, d < i + j → F i j = 0
theorem norm_of {d : Nat} {F : Nat → Nat → Int} (h : fauP d F = none) (h' : fauS d F = none) (ho : ∀ i j, d < i + j → F i j = 0) : Norm d F :=
  ⟨fauP_none h, fun j hj => by rw [fauS_none h' 0 j (by omega)]; exact fauP_none h j hj, ho⟩
/-- products and powers up to n ask for coefficients up to n -/
theorem pw_less {m : Int} {n : Nat} {g g' : Nat → Int} (h : ∀ i, i < n → g i % m = g' i % m) (k i : Nat) (hi : i < n) : pw g k i % m = pw g' k i % m :=
  Ser.pw_congr (m := m) (n := n - 1) (fun j hj => h j (by omega)) k i (by omega)
/-- what one coefficient more does to a sum of curves under a law -/
theorem put_last {m : Int} {d : Nat} {F : Nat → Nat → Int} (hF : Norm d F) {a g g' : Nat → Int} (ha : a 0 = 0) (hg : g 0 = 0) (hg' : g' 0 = 0) {n : Nat} (hn : 1 ≤ n) (hnd : n ≤ d) (h : ∀ i, i < n → g i % m = g' i % m) :
    (putF F a g (d + 1) n - putF F a g' (d + 1) n) % m = (g n - g' n) % m := by
  have e : ∀ u : Nat → Int, u 0 = 0 → putF F a u (d + 1) n = psum (fun j => F 0 j * pw u j n) (d + 1) + psum (fun i => psum (fun j => F (i + 1) j * cv n (pw a (i + 1)) (pw u j)) (d + 1)) d := by
    intro u _
    unfold putF
    rw [Ser.psum_left]
    congr 1
    refine Ser.psum_ext _ (fun j _ => ?_)
    rw [show pw a 0 = Ser.mon 0 1 from rfl, Ser.cv_const, Int.one_mul]
  have e0 : ∀ u : Nat → Int, psum (fun j => F 0 j * pw u j n) (d + 1) = u n := by
    intro u
    rw [Ser.psum_ext (g := fun j => u n * Ser.mon j 1 1) (d + 1) (fun j hj => by
      rw [hF.y j (by omega)]
      unfold want Ser.mon
      by_cases c : j = 1
      · rw [if_pos c, if_pos c.symm, c, Int.one_mul, Int.mul_one]
        show Ser.cv n (Ser.mon 0 1) u = u n
        rw [Ser.cv_const, Int.one_mul]
      · rw [if_neg c, if_neg (fun h => c h.symm), Int.zero_mul, Int.mul_zero])]
    rw [Ser.psum_mon (fun _ => u n) 1 (d + 1), if_pos (by omega)]
  rw [e g hg, e g' hg', e0, e0]
  have hz : ∀ (i : Nat), pw a (i + 1) 0 = 0 := fun i => Ser.pw_low ha (i + 1) 0 (by omega)
  have hc : psum (fun i => psum (fun j => F (i + 1) j * cv n (pw a (i + 1)) (pw g j)) (d + 1)) d % m = psum (fun i => psum (fun j => F (i + 1) j * cv n (pw a (i + 1)) (pw g' j)) (d + 1)) d % m :=
    Ser.psum_congr _ (fun i _ => Ser.psum_congr _ (fun j _ => Ser.mul_cong rfl (Ser.cv_congr_curve (by rw [hz, Int.zero_emod]) (by rw [hz, Int.zero_emod]) (Ser.Eq.refl _ _ _) (fun k hk => pw_less h j k hk))))
  have := Ser.sub_cong (m := m) (x := g n + _) (y := g n + _) (Ser.add_cong rfl hc) (rfl : (g' n + psum (fun i => psum (fun j => F (i + 1) j * cv n (pw a (i + 1)) (pw g' j)) (d + 1)) d) % m = _)
  rw [this]
  congr 1
  omega
theorem put_congr {m : Int} {F : Nat → Nat → Int} {a a' g g' : Nat → Int} {N n : Nat} (h : Ser.Eq m n a a') (h' : Ser.Eq m n g g') : putF F a g N n % m = putF F a' g' N n % m :=
  Ser.psum_congr _ (fun i _ => Ser.psum_congr _ (fun j _ => Ser.mul_cong rfl (Ser.cv_congr n (Ser.pw_congr h i) (Ser.pw_congr h' j))))
theorem put_zero {d : Nat} {F : Nat → Nat → Int} (hF : Norm d F) {a g : Nat → Int} (ha : a 0 = 0) (hg : g 0 = 0) : putF F a g (d + 1) 0 = 0 := by
  unfold putF
  refine Ser.psum_low _ _ (fun i hi => Ser.psum_low _ _ (fun j hj => ?_))
  rw [Ser.cv_zero]
  by_cases c : i = 0 ∧ j = 0
  · rw [c.1, c.2, hF.x 0 (Nat.zero_le _)]; simp [want]
  · by_cases c1 : i = 0
    · rw [Ser.pw_low hg j 0 (by omega)]; simp
    · rw [Ser.pw_low ha i 0 (by omega)]; simp
/-- the line t -/
def lin (m : Int) (d : Nat) (c : Int) : List Int := Ser.cut m d (Ser.mon 1 c)
/-- the model's inverse after n numbers -/
def invS (m : Int) (d : Nat) (F : Nat → Nat → Int) : Nat → List Int
  | 0 => List.replicate (d + 1) 0
  | n + 1 => (invS m d F n).set (n + 1) ((m - Ser.co (putL m d F (lin m d 1) (invS m d F n)) (n + 1)) % m)
/-- the program's -/
def invP (m : Int) (d : Nat) (F : Nat → Nat → Int) : Nat → List Int
  | 0 => lin m d 0
  | n + 1 => Ser.cut m d fun i => Ser.co (invP m d F n) i + Ser.co (Ser.cut m d fun j => Ser.co (putL m d F (lin m d 1) (invP m d F n)) j * -1) i
theorem invS_length (m : Int) (d : Nat) (F : Nat → Nat → Int) (n : Nat) : (invS m d F n).length = d + 1 := by
  induction n with
  | zero => simp [invS]
  | succ n ih => rw [invS, List.length_set, ih]
theorem invP_length (m : Int) (d : Nat) (F : Nat → Nat → Int) (n : Nat) : (invP m d F n).length = d + 1 := by cases n <;> exact Ser.cut_length _ _ _
theorem invS_red {m : Int} (hm : 0 < m) (d : Nat) (F : Nat → Nat → Int) (n : Nat) : Ser.Red m (invS m d F n) := by
  induction n with
  | zero => intro i; rw [invS, Ser.co_zeros]; omega
  | succ n ih =>
    intro i
    rw [invS]
    by_cases c : n + 1 < d + 1
    · rw [Ser.co_set (by rw [invS_length]; exact c)]
      split
      · exact ⟨Int.emod_nonneg _ (by omega), Int.emod_lt_of_pos _ hm⟩
      · exact ih i
    · rw [List.set_eq_of_length_le (by rw [invS_length]; omega)]; exact ih i
theorem invP_red {m : Int} (hm : 0 < m) (d : Nat) (F : Nat → Nat → Int) (n : Nat) : Ser.Red m (invP m d F n) := by cases n <;> exact Ser.cut_red hm _ _
theorem invS_co (m : Int) (d : Nat) (F : Nat → Nat → Int) (n i : Nat) (hn : n < d) : Ser.co (invS m d F (n + 1)) i = if i = n + 1 then (m - Ser.co (putL m d F (lin m d 1) (invS m d F n)) (n + 1)) % m else Ser.co (invS m d F n) i := by
  rw [invS, Ser.co_set (by rw [invS_length]; omega)]
theorem invS_curve (m : Int) (d : Nat) (F : Nat → Nat → Int) : ∀ n, n ≤ d → Ser.co (invS m d F n) 0 = 0 := by
  intro n
  induction n with
  | zero => intro _; rw [invS, Ser.co_zeros]
  | succ n ih => intro hn; rw [invS_co _ _ _ _ _ (by omega), if_neg (by omega), ih (by omega)]
theorem invS_over (m : Int) (d : Nat) (F : Nat → Nat → Int) : ∀ n i, n ≤ d → n < i → Ser.co (invS m d F n) i = 0 := by
  intro n
  induction n with
  | zero => intro i _ _; rw [invS, Ser.co_zeros]
  | succ n ih => intro i hn hi; rw [invS_co _ _ _ _ _ (by omega), if_neg (by omega), ih i (by omega) (by omega)]
theorem invS_pre (m : Int) (d : Nat) (F : Nat → Nat → Int) (n k i : Nat) (h : i ≤ n) (hk : n + k ≤ d) : Ser.co (invS m d F (n + k)) i = Ser.co (invS m d F n) i := by
  induction k with
  | zero => rfl
  | succ k ih => rw [← Nat.add_assoc, invS_co _ _ _ _ _ (by omega), if_neg (by omega), ih (by omega)]
theorem lin_curve (m : Int) (d : Nat) (c : Int) : Ser.co (lin m d c) 0 = 0 := by
  unfold lin; rw [Ser.co_cut (Nat.zero_le _)]; simp [Ser.mon]
theorem put_cut {m : Int} {d : Nat} {F : Nat → Nat → Int} {a b : List Int} {n : Nat} (h : n ≤ d) : Ser.co (putL m d F a b) n = putF F (Ser.co a) (Ser.co b) (d + 1) n % m := Ser.co_cut h
/-- the model's inverse is one -/
theorem invS_inv {m : Int} {d : Nat} {F : Nat → Nat → Int} (hF : Norm d F) : ∀ n, n ≤ d → ∀ i, i ≤ n → putF F (Ser.co (lin m d 1)) (Ser.co (invS m d F n)) (d + 1) i % m = 0 := by
  intro n
  induction n with
  | zero =>
    intro _ i hi
    obtain rfl : i = 0 := by omega
    rw [put_zero hF (lin_curve m d 1) (invS_curve m d F 0 (Nat.zero_le _)), Int.zero_emod]
  | succ n ih =>
    intro hn i hi
    by_cases c : i ≤ n
    · rw [put_congr (Ser.Eq.refl m i _) (Ser.Eq.of m i (fun j hj => invS_pre m d F n 1 j (by omega) (by omega)))]
      exact ih (by omega) i c
    · obtain rfl : i = n + 1 := by omega
      have := put_last (m := m) hF (a := Ser.co (lin m d 1)) (lin_curve m d 1) (invS_curve m d F (n + 1) hn) (invS_curve m d F n (by omega)) (n := n + 1) (by omega) hn (fun j hj => by rw [invS_pre m d F n 1 j (by omega) (by omega)])
      rw [invS_co m d F n (n + 1) (by omega), if_pos rfl, invS_over m d F n (n + 1) (by omega) (by omega), put_cut hn] at this
      revert this
      generalize putF F (Ser.co (lin m d 1)) (Ser.co (invS m d F (n + 1))) (d + 1) (n + 1) = X
      generalize putF F (Ser.co (lin m d 1)) (Ser.co (invS m d F n)) (d + 1) (n + 1) = Y
      intro h
      rw [Int.sub_zero, Int.emod_emod] at h
      have h2 := Ser.add_cong (m := m) h (rfl : Y % m = Y % m)
      rw [Int.sub_add_cancel] at h2
      rw [h2]
      have h3 : (m - Y % m + Y) % m = (m - Y + Y) % m := Ser.add_cong (Ser.sub_cong rfl (Int.emod_emod _ _)) rfl
      rw [h3, Int.sub_add_cancel, Int.emod_self]
theorem invP_co {m : Int} {d : Nat} {F : Nat → Nat → Int} (n i : Nat) (hi : i ≤ d) : Ser.co (invP m d F (n + 1)) i % m = (Ser.co (invP m d F n) i - putF F (Ser.co (lin m d 1)) (Ser.co (invP m d F n)) (d + 1) i) % m := by
  rw [invP, Ser.co_cut hi, Ser.co_cut hi, Int.emod_emod, Int.sub_eq_add_neg]
  refine Ser.add_cong rfl ?_
  rw [Int.emod_emod, put_cut hi, Int.mul_neg, Int.mul_one, show -(putF F (Ser.co (lin m d 1)) (Ser.co (invP m d F n)) (d + 1) i % m) = 0 - putF F (Ser.co (lin m d 1)) (Ser.co (invP m d F n)) (d + 1) i % m by omega, show -putF F (Ser.co (lin m d 1)) (Ser.co (invP m d F n)) (d + 1) i = 0 - putF F (Ser.co (lin m d 1)) (Ser.co (invP m d F n)) (d + 1) i by omega]
  exact Ser.sub_cong rfl (Int.emod_emod _ _)
theorem invP_curve {m : Int} (hm : 0 < m) {d : Nat} {F : Nat → Nat → Int} (hF : Norm d F) : ∀ n, Ser.co (invP m d F n) 0 = 0 := by
  intro n
  induction n with
  | zero => exact lin_curve m d 0
  | succ n ih =>
    have h := invP_co (m := m) (F := F) n 0 (Nat.zero_le d)
    rw [put_zero hF (lin_curve m d 1) ih, ih] at h
    have hr := invP_red hm d F (n + 1) 0
    rw [Int.emod_eq_of_lt hr.1 hr.2] at h
    simpa using h
theorem invP_agrees {m : Int} (hm : 0 < m) {d : Nat} {F : Nat → Nat → Int} (hF : Norm d F) : ∀ n, n ≤ d → ∀ i, i ≤ n → Ser.co (invP m d F n) i % m = Ser.co (invS m d F d) i % m := by
  intro n
  induction n with
  | zero =>
    intro _ i hi
    obtain rfl : i = 0 := by omega
    rw [invP_curve hm hF, invS_curve m d F d (Nat.le_refl _)]
  | succ n ih =>
    intro hn i hi
    rw [invP_co n i (by omega)]
    have hz := invS_inv (m := m) hF d (Nat.le_refl _) i (by omega)
    by_cases c : i ≤ n
    · have := put_congr (F := F) (N := d + 1) (Ser.Eq.refl m i (Ser.co (lin m d 1))) (fun j hj => ih (by omega) j (by omega) : Ser.Eq m i (Ser.co (invP m d F n)) (Ser.co (invS m d F d)))
      rw [hz] at this
      rw [Ser.sub_cong (ih (by omega) i c) (this.trans (Int.zero_emod m).symm), Int.sub_zero]
    · obtain rfl : i = n + 1 := by omega
      have := put_last (m := m) hF (a := Ser.co (lin m d 1)) (lin_curve m d 1) (invP_curve hm hF n) (invS_curve m d F d (Nat.le_refl _)) (n := n + 1) (by omega) hn (fun j hj => ih (by omega) j (by omega))
      revert this hz
      generalize putF F (Ser.co (lin m d 1)) (Ser.co (invP m d F n)) (d + 1) (n + 1) = X
      generalize putF F (Ser.co (lin m d 1)) (Ser.co (invS m d F d)) (d + 1) (n + 1) = Y
      intro hz h
      have h1 : X % m = (Ser.co (invP m d F n) (n + 1) - Ser.co (invS m d F d) (n + 1)) % m := by
        rw [← h]
        have := Ser.sub_cong (m := m) (rfl : X % m = X % m) (hz.trans (Int.zero_emod m).symm)
        rw [this, Int.sub_zero]
      rw [Ser.sub_cong rfl h1]
      congr 1
      omega
theorem inv_same {m : Int} (hm : 0 < m) {d : Nat} {F : Nat → Nat → Int} (hF : Norm d F) : invP m d F d = invS m d F d :=
  Ser.red_unique (invP_length m d F d) (invS_length m d F d) (invP_red hm d F d) (invS_red hm d F d) (fun i hi => invP_agrees hm hF d (Nat.le_refl _) i hi)
end Pl
end Go.Proofs.YtfhdgcndiljjcaaGreatDoor

/- Plain facts about worlds that the walks share: nothing here names the program. -/
namespace Go.Proofs.YtfhdgcndiljjcaaGreatDoor
open Go.RowKit Go.WideShapes Go.ChangeShapes Go.ChangeAt

theorem ret_int {a b : Int} (h : a = b) : Ending.returned (.int .i64 a) = .returned (.int .i64 b) := by rw [h]
theorem ret_bool {a b : Bool} (h : a = b) : Ending.returned (.bool a) = .returned (.bool b) := by rw [h]
theorem ret_ii {a b c d : Int} (h : a = c) (k : b = d) : Ending.returned (.tuple #[.int .i64 a, .int .i64 b]) = .returned (.tuple #[.int .i64 c, .int .i64 d]) := by rw [h, k]
theorem ret_bi {a c : Bool} {b d : Int} (h : a = c) (k : b = d) : Ending.returned (.tuple #[.bool a, .int .i64 b]) = .returned (.tuple #[.bool c, .int .i64 d]) := by rw [h, k]
theorem ne_facts {c : Int} (h : ¬ c = 0) : (c == 0) = false ∧ (c != 0) = true := ⟨by simpa using h, by simpa using h⟩

/-- what the end of a law's call asks, where the call has only made new blocks -/
theorem below_post {H : Type} {enc : TypeId × Value → H} {P : Program} {f : Func} {s : ChangeSpec} {apart fresh handsOn again : Bool} {W W' : World} {args : Array Value} {v : Value}
    {ds gs : List (DataW H)} {before pa pv : List MemPlace} (hW : DataW.Whole enc P f.params.toList s.vars apart W args.toList ds gs before)
    (hres : ∀ (b : Nat) (sp : Nat → Bool) (hd : Bool), DataW.TrodAll enc P W' b sp hd f.resultTypes.toList (v.resultList f.resultTypes.size) (s.fn H (ds ++ gs)).results [])
    (hargs : ∀ sp : Nat → Bool, (∀ p ∈ before, sp p.block = true) → DataW.TrodAll enc P W' 0 sp true f.params.toList args.toList (s.fn H (ds ++ gs)).args pa)
    (hvars : ∀ sp : Nat → Bool, (∀ p ∈ before, sp p.block = true) → DataW.TrodVars enc P W' sp s.vars (s.fn H (ds ++ gs)).vars pv)
    (hps : before = pa ++ pv) (hb : Below W.heap.size W W')
    (hok : ∀ (j : Nat) (t : TypeId) (r : Value), f.resultTypes[j]? = some t → (v.resultList f.resultTypes.size)[j]? = some r → Value.okWide P W' .any 0 t r) :
    s.post enc P f apart fresh handsOn again W args v W' := by
  subst hps
  have hlt := fun p hp => hW.lt p hp
  have hsp : ∀ p ∈ pa ++ pv, (fun b => decide (b < W.heap.size)) p.block = true := fun p hp => decide_eq_true (hlt p hp)
  refine ⟨ds, gs, pa ++ pv, [], pa, pv, hW, hres _ _ _, hargs _ hsp, hvars _ hsp, ?_, ?_⟩
  · exact World.keptBut_mono (fun p hp => ⟨hp, .inr (List.mem_append.1 hp)⟩) (hb.frame (· ∈ pa ++ pv))
  · intro _
    obtain ⟨_, _, _, _, _, hz, hn⟩ := hW
    refine ⟨hok, _, _, ([] ++ pa) ++ pv, ⟨[] ++ pa, pv, trodAll_append (hargs _ (fun _ _ => rfl)) (hres _ _ _), hvars _ (fun _ _ => rfl), rfl, ?_, ?_⟩, ?_⟩
    · intro b off hp
      have hin : MemPlace.cell b off ∈ pa ++ pv := by simpa using hp
      rw [hb.frozen (hlt _ hin)]
      exact hz b off hin
    · exact fun ha => by simpa using hn ha
    · exact fun p hp _ => by simpa using hp

end Go.Proofs.YtfhdgcndiljjcaaGreatDoor

/- Contracts of the functions that look at a modulus and at numbers, of the program and of the model. -/
namespace Go.Proofs.YtfhdgcndiljjcaaGreatDoor
open Go.RowKit Go.WideShapes Go.ChangeShapes Go.ChangeAt

/-- n lies in lo..hi -/
def inB (n lo hi : Int) : Bool := decide (lo ≤ n) && decide (n ≤ hi)
theorem inB_iff (n lo hi : Int) : inB n lo hi = true ↔ lo ≤ n ∧ n ≤ hi := by simp [inB]
theorem inB_yes {n lo hi : Int} (h1 : lo ≤ n) (h2 : n ≤ hi) : inB n lo hi = true := (inB_iff _ _ _).2 ⟨h1, h2⟩
theorem inB_no {n lo hi : Int} (h : ¬ (lo ≤ n ∧ n ≤ hi)) : inB n lo hi = false := by
  rw [← Bool.not_eq_true, inB_iff]; exact h

theorem isWithin_any (n lo hi : Int) (w : World) :
    Calls Tryz.prog 47 #[.int .i64 n, .int .i64 lo, .int .i64 hi] w fun e w' => e = .returned (.bool (inB n lo hi)) ∧ w = w' := by
  by_cases h1 : lo ≤ n
  · go_enter Tryz.func47, Tryz.ntmps47
    go_wp2
    go_ret
    exact ⟨by simp [inB, h1], rfl⟩
  · have h2 : inB n lo hi = false := inB_no (fun h => h1 h.1)
    have H := Lib.hid h2
    clear h2
    go_enter Tryz.func47, Tryz.ntmps47
    go_wp2
    go_ret
    exact ⟨ret_bool H.out.symm, rfl⟩

theorem l01In_any (n lo hi : Int) (w : World) :
    Calls Tryz.prog 46 #[.int .i64 n, .int .i64 lo, .int .i64 hi] w fun e w' => e = .returned (.bool (inB n lo hi)) ∧ w = w' := by
  by_cases h1 : lo ≤ n
  · go_enter Tryz.func46, Tryz.ntmps46
    go_wp2
    go_ret
    exact ⟨by simp [inB, h1], rfl⟩
  · have h2 : inB n lo hi = false := inB_no (fun h => h1 h.1)
    have H := Lib.hid h2
    clear h2
    go_enter Tryz.func46, Tryz.ntmps46
    go_wp2
    go_ret
    exact ⟨ret_bool H.out.symm, rfl⟩

/-- m is a modulus -/
def isM (m : Int) : Bool := inB m 2 10000
theorem IsModulus_any (m : Int) (w : World) :
    Calls Tryz.prog 105 #[.int .i64 m] w fun e w' => e = .returned (.bool (isM m)) ∧ w = w' := by
  go_enter Tryz.func105, Tryz.ntmps105
  go_wp2_with (go_at_call 47; refine (isWithin_any _ _ _ _).mono ?_; rintro e w' ⟨rfl, rfl⟩)
  go_ret
  exact ⟨rfl, rfl⟩
theorem l01Modulus_any (m : Int) (w : World) :
    Calls Tryz.prog 76 #[.int .i64 m] w fun e w' => e = .returned (.bool (isM m)) ∧ w = w' := by
  go_enter Tryz.func76, Tryz.ntmps76
  go_wp2_with (go_at_call 46; refine (l01In_any _ _ _ _).mono ?_; rintro e w' ⟨rfl, rfl⟩)
  go_ret
  exact ⟨rfl, rfl⟩

/-- all numbers of the list lie in lo..hi -/
def allIn (lo hi : Int) (l : List Int) : Bool := l.all fun n => inB n lo hi
/-- the code of a modulus and numbers -/
def codeN (m : Int) (l : List Int) : Int := if isM m then (if allIn 0 (m - 1) l then 0 else 2) else 1

end Go.Proofs.YtfhdgcndiljjcaaGreatDoor

/- Contracts of the functions that take numbers as variadics, of the program and of the model. -/
namespace Go.Proofs.YtfhdgcndiljjcaaGreatDoor
open Go.RowKit Go.WideShapes Go.ChangeShapes Go.ChangeAt

theorem isM_iff (m : Int) : isM m = true ↔ 2 ≤ m ∧ m ≤ 10000 := inB_iff _ _ _

/-- the slice at A holds the integers of l -/
def RI (w : World) (A : Option Addr) (l : List Int) : Prop :=
  l ≠ [] → ∃ b off, A = some ⟨b, off, none⟩ ∧ b < w.heap.size ∧ ∀ k, k < l.length → w.cell? ⟨b, off + k, none⟩ = some (.int .i64 (l[k]?.getD 0))
theorem RI.below {w w' : World} {A : Option Addr} {l : List Int} (h : RI w A l) (hb : Below w.heap.size w w') : RI w' A l := by
  intro hl
  obtain ⟨b, off, e, hlt, hc⟩ := h hl
  exact ⟨b, off, e, Nat.lt_of_lt_of_le hlt hb.size, fun k hk => (hb.cell (p := ⟨b, off + k, none⟩) hlt).trans (hc k hk)⟩

theorem allIn_split (lo hi : Int) (l : List Int) (k : Nat) (hk : k < l.length) : allIn lo hi l = (allIn lo hi (l.take k) && (inB (l[k]?.getD 0) lo hi && allIn lo hi (l.drop (k + 1)))) := by
  have e : l = l.take k ++ l[k] :: l.drop (k + 1) := by rw [List.getElem_cons_drop, List.take_append_drop]
  have e2 : l[k]?.getD 0 = l[k] := by rw [List.getElem?_eq_getElem hk]; rfl
  have e3 : allIn lo hi l = allIn lo hi (l.take k ++ l[k] :: l.drop (k + 1)) := congrArg _ e
  rw [e2, e3]
  unfold allIn
  rw [List.all_append, List.all_cons]
theorem allIn_take_succ (lo hi : Int) (l : List Int) (k : Nat) (hk : k < l.length) : allIn lo hi (l.take (k + 1)) = (allIn lo hi (l.take k) && inB (l[k]?.getD 0) lo hi) := by
  have e2 : l[k]?.getD 0 = l[k] := by rw [List.getElem?_eq_getElem hk]; rfl
  rw [List.take_succ_eq_append_getElem hk, e2]
  unfold allIn
  rw [List.all_append, List.all_cons, List.all_nil, Bool.and_true]

set_option maxHeartbeats 400000 in
theorem codeOfNumbers_any (m : Int) (A : Option Addr) (c : Nat) (l : List Int) (w : World) (hl : l.length ≤ 9223372036854775807) (hr : RI w A l) :
    Calls Tryz.prog 82 #[.int .i64 m, .slice A l.length c] w fun e w' => e = .returned (.int .i64 (codeN m l)) ∧ w = w' := by
  by_cases hm : isM m = true
  · obtain ⟨hm2, hm3⟩ := (isM_iff m).1 hm
    have hfin : codeN m l = if allIn 0 (m - 1) l then 0 else 2 := by rw [codeN, if_pos hm]
    have HF := Lib.hid hfin
    clear hfin
    go_enter Tryz.func82, Tryz.ntmps82
    go_wp2_with (go_at_call 105; refine (IsModulus_any _ _).mono ?_; rintro e w' ⟨rfl, rfl⟩)
    go_loop [12] (fun i => ∃ k : Nat, k ≤ l.length ∧ i = .int .i64 k ∧ allIn 0 (m - 1) (l.take k) = true) (fun i => l.length - (intOf i).toNat)
    case atStart => exact ⟨0, Nat.zero_le _, rfl, rfl⟩
    case round =>
      obtain ⟨k, hk, rfl, hall⟩ := hrel
      have HA := Lib.hid hall
      clear hall
      by_cases hlt : k < l.length
      · obtain ⟨b, off, rfl, hb, hc⟩ := hr (by rintro rfl; simp at hlt)
        have hck := hc k hlt
        clear hc hr
        obtain ⟨x, hx⟩ : ∃ x, l[k]?.getD 0 = x := ⟨_, rfl⟩
        rw [hx] at hck
        have HX := Lib.hid hx
        clear hx
        by_cases hin : inB x 0 (m - 1) = true
        · go_wp2_with (go_at_call 47; refine (isWithin_any _ _ _ _).mono ?_; rintro e w' ⟨rfl, rfl⟩)
          go_round
          case rel => exact ⟨k + 1, by omega, by go_num, by rw [allIn_take_succ _ _ _ _ hlt, HA.out, HX.out, hin]; rfl⟩
          case measure => simp [intOf]; omega
        · have hin' : inB x 0 (m - 1) = false := by simpa using hin
          clear hin
          go_wp2_with (go_at_call 47; refine (isWithin_any _ _ _ _).mono ?_; rintro e w' ⟨rfl, rfl⟩)
          go_ret
          exact ⟨ret_int (by rw [HF.out, allIn_split _ _ _ _ hlt, HX.out, hin']; simp), rfl⟩
      · go_wp2
        go_ret
        exact ⟨ret_int (by rw [HF.out]; have := HA.out; rw [List.take_of_length_le (by omega)] at this; rw [this]; rfl), rfl⟩
  · have hm' : isM m = false := by simpa using hm
    have hfin : codeN m l = 1 := by rw [codeN, if_neg hm]
    have HF := Lib.hid hfin
    clear hfin hm
    go_enter Tryz.func82, Tryz.ntmps82
    go_wp2_with (go_at_call 105; refine (IsModulus_any _ _).mono ?_; rintro e w' ⟨rfl, rfl⟩)
    go_ret
    exact ⟨ret_int HF.out.symm, rfl⟩


set_option maxHeartbeats 400000 in
theorem l01Numbers_any (m : Int) (A : Option Addr) (c : Nat) (l : List Int) (w : World) (hm2 : 2 ≤ m) (hm3 : m ≤ 10000) (hl : l.length ≤ 9223372036854775807) (hr : RI w A l) :
    Calls Tryz.prog 77 #[.int .i64 m, .slice A l.length c] w fun e w' => e = .returned (.bool (allIn 0 (m - 1) l)) ∧ w = w' := by
  go_enter Tryz.func77, Tryz.ntmps77
  go_wp2
  go_loop [5] (fun i => ∃ k : Nat, k ≤ l.length ∧ i = .int .i64 k ∧ allIn 0 (m - 1) (l.take k) = true) (fun i => l.length - (intOf i).toNat)
  case atStart => exact ⟨0, Nat.zero_le _, rfl, rfl⟩
  case round =>
    obtain ⟨k, hk, rfl, hall⟩ := hrel
    have HA := Lib.hid hall
    clear hall
    by_cases hlt : k < l.length
    · obtain ⟨b, off, rfl, hb, hc⟩ := hr (by rintro rfl; simp at hlt)
      have hck := hc k hlt
      clear hc hr
      obtain ⟨x, hx⟩ : ∃ x, l[k]?.getD 0 = x := ⟨_, rfl⟩
      rw [hx] at hck
      have HX := Lib.hid hx
      clear hx
      by_cases hin : inB x 0 (m - 1) = true
      · go_wp2_with (go_at_call 46; refine (l01In_any _ _ _ _).mono ?_; rintro e w' ⟨rfl, rfl⟩)
        go_round
        case rel => exact ⟨k + 1, by omega, by go_num, by rw [allIn_take_succ _ _ _ _ hlt, HA.out, HX.out, hin]; rfl⟩
        case measure => simp [intOf]; omega
      · have hin' : inB x 0 (m - 1) = false := by simpa using hin
        clear hin
        go_wp2_with (go_at_call 46; refine (l01In_any _ _ _ _).mono ?_; rintro e w' ⟨rfl, rfl⟩)
        go_ret
        exact ⟨ret_bool (by rw [allIn_split _ _ _ _ hlt, HX.out, hin']; simp), rfl⟩
    · go_wp2
      go_ret
      exact ⟨ret_bool (by have := HA.out; rw [List.take_of_length_le (by omega)] at this; rw [this]), rfl⟩


theorem rem_neg (m n : Int) (hm : 0 < m) (hn : n < 0) : ∃ r, 0 ≤ r ∧ r < m ∧ n.tmod m = -r ∧ n % m = (if r = 0 then 0 else m - r) ∧ (-r) % m = n % m := by
  refine ⟨(-n) % m, Int.emod_nonneg _ (by omega), Int.emod_lt_of_pos _ hm, ?_, ?_, ?_⟩
  · rw [← Int.neg_neg n, Int.neg_tmod, Int.tmod_eq_emod_of_nonneg (by omega), Int.neg_neg]
  · have h := Int.emod_add_mul_ediv (-n) m
    have h1 := Int.emod_nonneg (-n) (show m ≠ 0 by omega)
    have h2 := Int.emod_lt_of_pos (-n) hm
    generalize (-n) % m = r at *
    generalize (-n) / m = q at *
    obtain rfl : n = -r + m * (-q) := by rw [Int.mul_neg]; omega
    rw [Int.add_mul_emod_self_left]
    by_cases hr : r = 0
    · subst hr; simp
    · rw [if_neg hr, ← Int.add_emod_right, Int.emod_eq_of_lt (by omega) (by omega)]; omega
  · have h := Int.emod_add_mul_ediv (-n) m
    generalize (-n) % m = r at *
    generalize (-n) / m = q at *
    obtain rfl : n = -r + m * (-q) := by rw [Int.mul_neg]; omega
    rw [Int.add_mul_emod_self_left]

theorem remainder_any (m n : Int) (w : World) (h1 : 1 ≤ m) (h2 : m ≤ 10000) (h3 : -1000000000000 ≤ n) (h4 : n ≤ 1000000000000) :
    Calls Tryz.prog 114 #[.int .i64 m, .int .i64 n] w fun e w' => e = .returned (.int .i64 (n % m)) ∧ w = w' := by
  by_cases hn : 0 ≤ n
  · have h5 := Int.emod_nonneg n (show m ≠ 0 by omega)
    have h6 := Int.emod_lt_of_pos n (show 0 < m by omega)
    go_enter Tryz.func114, Tryz.ntmps114
    go_wp2
    go_ret
    exact ⟨rfl, rfl⟩
  · obtain ⟨r, a1, a2, a3, a4, a5⟩ := rem_neg m n (by omega) (by omega)
    have H4 := Lib.hid a4
    clear a4 a5
    by_cases hr : r = 0
    · subst hr
      go_enter Tryz.func114, Tryz.ntmps114
      go_wp2
      go_ret
      exact ⟨ret_int (by rw [H4.out]; simp), rfl⟩
    · have hr' : 0 < r := by omega
      clear hr
      go_enter Tryz.func114, Tryz.ntmps114
      go_wp2
      go_ret
      exact ⟨ret_int (by rw [H4.out, if_neg (by omega)]; omega), rfl⟩


end Go.Proofs.YtfhdgcndiljjcaaGreatDoor

/- Slices of integers that a call has made itself: appending one number, reading. -/
namespace Go.Proofs.YtfhdgcndiljjcaaGreatDoor
open Go.RowKit Go.WideShapes Go.ChangeShapes Go.ChangeAt

/-- v is a slice of the call's own, from block base on, that holds the integers of l -/
def OwnI (w : World) (base : Nat) (v : Value) (l : List Int) : Prop := w.ownsRow base 2 1 v l.length (l.map (Value.int .i64))
theorem info64 : (Tryz.prog.info? 2).map (fun i => (i.zero, i.size, i.bytes)) = some (some (.int .i64 0), 1, 8) := by kernel_rfl

theorem OwnI.nil (w : World) (base : Nat) : OwnI w base (.slice none 0 0) [] := World.ownsRow_nil _ _ _ _
theorem OwnI.form {w : World} {base : Nat} {v : Value} {l : List Int} (h : OwnI w base v l) : ∃ A c, v = .slice A l.length c ∧ RI w A l := by
  unfold OwnI at h
  rcases h.2 with ⟨rfl, h0⟩ | ⟨g, cap, cur, rfl, hb, hg, h1, h2, h3, h4⟩
  · obtain rfl : l = [] := List.eq_nil_of_length_eq_zero h0
    exact ⟨none, 0, rfl, fun h => absurd rfl h⟩
  · refine ⟨_, _, rfl, fun _ => ⟨g, 0, rfl, (Array.getElem?_eq_some_iff.1 hg).1, fun k hk => ?_⟩⟩
    have hc := h.cells (g := g) rfl k (.int .i64 (l[k]?.getD 0)) (by
      rw [List.getElem?_map, List.getElem?_eq_getElem hk]; rfl)
    have e : (⟨g, 0, none⟩ : Addr).add k = ⟨g, 0 + k, none⟩ := by unfold Addr.add; split <;> simp_all
    rw [← e]; exact hc
theorem OwnI.below {w w' : World} {base B : Nat} {v : Value} {l : List Int} (h : OwnI w base v l) (hb : Below B w w') (hB : ∀ g, v.ownBlock = some g → g < B) : OwnI w' base v l := by
  unfold OwnI at h ⊢
  refine ⟨h.1, ?_⟩
  rcases h.2 with hn | ⟨g, cap, cur, rfl, hg, hh, rest⟩
  · exact .inl hn
  · exact .inr ⟨g, cap, cur, rfl, hg, (hb.block g (hB g rfl)).trans hh, rest⟩
theorem OwnI.keep {w w' : World} {base : Nat} {v : Value} {l : List Int} (h : OwnI w base v l) (hb : Below w.heap.size w w') : OwnI w' base v l :=
  h.below hb (fun g hg => (World.ownsRow.lt h g hg).2)
theorem OwnI.lt {w : World} {base : Nat} {v : Value} {l : List Int} (h : OwnI w base v l) : ∀ g, v.ownBlock = some g → base ≤ g ∧ g < w.heap.size := World.ownsRow.lt h
theorem OwnI.more {w : World} {base b' : Nat} {v : Value} {l : List Int} (h : OwnI w base v l) (hb : b' ≤ base) : OwnI w b' v l := by
  unfold OwnI at h ⊢
  refine ⟨h.1, ?_⟩
  rcases h.2 with hn | ⟨g, cap, cur, hv, hg, hh, rest⟩
  · exact .inl hn
  · exact .inr ⟨g, cap, cur, hv, Nat.le_trans hb hg, hh, rest⟩
theorem OwnI.one (w : World) (x : Int) : OwnI (w.alloc (.cells #[.int .i64 x] 2)) w.heap.size (.slice (some ⟨w.heap.size, 0, none⟩) 1 1) [x] :=
  ⟨rfl, .inr ⟨w.heap.size, 1, #[.int .i64 x], rfl, Nat.le_refl _, heap_alloc_new w _, Nat.le_refl _, by unfold maxLen; omega, rfl, rfl⟩⟩

/-- appending one number, which lies in a new block of its own -/
theorem wp_push {ops : Array Oper} {rest : List Oper} {o : Oper} {a : Act} {Q : Exit → Act → World → Prop} {w : World} (s x : Operand) (t : TypeId)
    (hgd : o.guard = none) (ho : o.op = .call { callee := .builtin .append, args := #[s, x], argTypes := #[t, t] })
    (ht : Tryz.prog.underlying t = some (.slice 2)) (base : Nat) (v : Value) (l : List Int) (hs : a.eval s = v) (hown : OwnI w base v l)
    (y : Int) (hx : a.eval x = .slice (some ⟨w.heap.size, 0, none⟩) 1 1) (hlen : l.length ≤ 1000000000000) (hbase : base ≤ w.heap.size)
    (h : ∀ v' w', OwnI w' base v' (l ++ [y]) → Below base w w' → wpList Tryz.prog ops Q rest (a.put o.dst v') w') :
    wpList Tryz.prog ops Q (o :: rest) a (w.alloc (.cells #[.int .i64 y] 2)) := by
  obtain ⟨i0, hi, hz0, hz1, hz2⟩ := info_parts info64
  refine wpList_append_own _ hgd s x t ho base 2 i0 (.int .i64 0) 1 8 ht hi hz0 hz1 hz2 rfl (by decide) v l.length (l.map (Value.int .i64)) hs (hown.alloc _)
    ⟨w.heap.size, 0, none⟩ 1 1 [.int .i64 y] hx rfl ?_ ?_ ?_ ?_ ?_ ?_
  · intro j u hj
    match j, hj with
    | 0, hj => simp at hj; subst hj; simp [Addr.add]
  · intro u hu; simp at hu; subst hu; rfl
  · unfold maxLen; omega
  · omega
  · simp; omega
  · intro v' w' h1 h2 _
    refine h v' w' ?_ ?_
    · unfold OwnI; rw [List.map_append, List.length_append]; exact h1
    · exact ((Below.refl base w).alloc hbase _).grown h2 (by simp; omega) (fun k hk => (World.ownsRow.lt hown k hk).1)

/-- the same at a step of a region that draws its order: the number lies in block g -/
theorem step_push {ops : Array Oper} {o : Oper} {a : Act} {K : Act → World → Prop} {Q : Exit → Act → World → Prop} {E : Prop} {w : World} (s x : Operand) (t : TypeId)
    (hgd : o.guard = none) (ho : o.op = .call { callee := .builtin .append, args := #[s, x], argTypes := #[t, t] })
    (ht : Tryz.prog.underlying t = some (.slice 2)) (base : Nat) (v : Value) (l : List Int) (hs : a.eval s = v) (hown : OwnI w base v l)
    (g : Nat) (y : Int) (hx : a.eval x = .slice (some ⟨g, 0, none⟩) 1 1) (hy : w.cell? ⟨g, 0, none⟩ = some (.int .i64 y)) (hlen : l.length ≤ 1000000000000) (hbase : base ≤ w.heap.size)
    (h : ∀ v' w', OwnI w' base v' (l ++ [y]) → Below base w w' → K (a.put o.dst v') w') :
    if Region.wanted o (yielded ops a.tmps) = true then Oper.wp Tryz.prog o a w K Q else E := by
  have hw : Region.wanted o (yielded ops a.tmps) = true := by simp [Region.wanted, hgd]
  rw [if_pos hw]
  obtain ⟨i0, hi, hz0, hz1, hz2⟩ := info_parts info64
  refine wp_append_own _ s x t ho base 2 i0 (.int .i64 0) 1 8 ht hi hz0 hz1 hz2 rfl (by decide) v l.length (l.map (Value.int .i64)) hs hown
    ⟨g, 0, none⟩ 1 1 [.int .i64 y] hx rfl ?_ ?_ ?_ ?_ hbase ?_
  · intro j u hj
    match j, hj with
    | 0, hj => simp at hj; subst hj; simp [Addr.add]; exact hy
  · intro u hu; simp at hu; subst hu; rfl
  · unfold maxLen; omega
  · omega
  · intro v' w' h1 h2 _
    refine h v' w' ?_ ?_
    · unfold OwnI; rw [List.map_append, List.length_append]; exact h1
    · exact (Below.refl base w).grown h2 hbase (fun k hk => (World.ownsRow.lt hown k hk).1)
theorem OwnI.alloc {w : World} {base : Nat} {v : Value} {l : List Int} (h : OwnI w base v l) (o : Obj) : OwnI (w.alloc o) base v l := World.ownsRow.alloc h o
theorem OwnI.drewN {w : World} {base : Nat} {v : Value} {l : List Int} (h : OwnI w base v l) (n : Nat) : OwnI (w.drewN n) base v l := h
theorem OwnI.drew {w : World} {base : Nat} {v : Value} {l : List Int} (h : OwnI w base v l) : OwnI w.drew base v l := h

end Go.Proofs.YtfhdgcndiljjcaaGreatDoor

/- Contracts of the exact laws' helpers on lists of integers: copying, comparing, marking, looking whether the marks still stand. -/
namespace Go.Proofs.YtfhdgcndiljjcaaGreatDoor
open Go.RowKit Go.WideShapes Go.ChangeShapes Go.ChangeAt

/-- the slice at A, wherever it begins, holds the integers of l -/
def RA (w : World) (A : Option Addr) (l : List Int) : Prop :=
  l ≠ [] → ∃ ad : Addr, A = some ad ∧ ad.block < w.heap.size ∧ ∀ k, k < l.length → w.cell? (ad.add k) = some (.int .i64 (l[k]?.getD 0))
theorem add_block (a : Addr) (n : Nat) : (a.add n).block = a.block := by unfold Addr.add; split <;> rfl
theorem add_plain (g o k : Nat) : (⟨g, o, none⟩ : Addr).add k = ⟨g, o + k, none⟩ := by unfold Addr.add; split <;> simp_all
theorem RI.ra {w : World} {A : Option Addr} {l : List Int} (h : RI w A l) : RA w A l := by
  intro hl
  obtain ⟨b, off, e, hlt, hc⟩ := h hl
  exact ⟨_, e, hlt, fun k hk => by rw [add_plain]; exact hc k hk⟩
theorem RA.below {w w' : World} {A : Option Addr} {l : List Int} (h : RA w A l) (hb : Below w.heap.size w w') : RA w' A l := by
  intro hl
  obtain ⟨ad, e, hlt, hc⟩ := h hl
  exact ⟨ad, e, Nat.lt_of_lt_of_le hlt hb.size, fun k hk => (hb.cell (p := ad.add k) (by rw [add_block]; exact hlt)).trans (hc k hk)⟩

theorem OwnI.made (w : World) (n : Nat) (hn : n ≤ maxLen) : OwnI (w.alloc (.cells (madeCells #[.int .i64 0] n) 2)) w.heap.size (.slice (some ⟨w.heap.size, 0, none⟩) n n) (List.replicate n 0) := by
  unfold OwnI
  rw [List.length_replicate]
  refine ⟨by simp, .inr ⟨w.heap.size, n, _, rfl, Nat.le_refl _, heap_alloc_new w _, Nat.le_refl _, hn, by rw [size_madeCells]; omega, ?_⟩⟩
  rw [toList_madeCells_one]; simp
theorem OwnI.cells {w : World} {base g n c : Nat} {l : List Int} (h : OwnI w base (.slice (some ⟨g, 0, none⟩) n c) l) :
    base ≤ g ∧ g < w.heap.size ∧ (∀ i, i < l.length → w.cell? ⟨g, i, none⟩ = some (.int .i64 (l[i]?.getD 0))) ∧ (∀ i, w.frozen? ⟨g, i, none⟩ = false) := by
  have hlt := h.lt g rfl
  unfold OwnI at h
  refine ⟨hlt.1, hlt.2, fun i hi => ?_, fun i => ?_⟩
  · have hc := World.ownsRow.cells h (g := g) rfl i (.int .i64 (l[i]?.getD 0)) (by rw [List.getElem?_map, List.getElem?_eq_getElem hi]; rfl)
    rw [add_plain, Nat.zero_add] at hc
    exact hc
  · rcases h.2 with ⟨hv, _⟩ | ⟨g', cap, cur, hv, _, hg, _⟩
    · cases hv
    · obtain rfl : g = g' := by injection hv with h1; injection h1 with h1; injection h1
      simp [World.frozen?, hg]
theorem OwnI.openv {w : World} {base : Nat} {v : Value} {l : List Int} (h : OwnI w base v l) (hl : l ≠ []) : ∃ g c, v = .slice (some ⟨g, 0, none⟩) l.length c := by
  unfold OwnI at h
  rcases h.2 with ⟨_, h0⟩ | ⟨g, cap, cur, rfl, _⟩
  · exact absurd (List.eq_nil_of_length_eq_zero h0) hl
  · exact ⟨g, cap, rfl⟩
theorem OwnI.set {w : World} {base g n c : Nat} {l : List Int} (h : OwnI w base (.slice (some ⟨g, 0, none⟩) n c) l) (i : Nat) (y : Int) :
    OwnI (w.setCell ⟨g, i, none⟩ (.int .i64 y)) base (.slice (some ⟨g, 0, none⟩) n c) (l.set i y) := by
  unfold OwnI at h ⊢
  rw [List.length_set]
  refine ⟨by simp, .inr ?_⟩
  rcases h.2 with ⟨hv, _⟩ | ⟨g', cap, cur, hv, hb, hg, h1, h2, h3, h4⟩
  · cases hv
  · have e0 := hv
    injection hv with h5 h6 h7
    injection h5 with h5
    injection h5 with h5
    subst h5 h7
    refine ⟨g, c, cur.setIfInBounds i (.int .i64 y), e0, hb, ?_, h1, h2, by simpa using h3, ?_⟩
    · simp [World.setCell, Array.getElem?_modify, hg]
    · rw [Array.toList_setIfInBounds, List.take_set, h4, List.map_set]
theorem grown_setCell (w : World) (g i : Nat) (u : Value) : w.grownBy (w.setCell ⟨g, i, none⟩ u) (some g) :=
  ⟨rfl, rfl, rfl, by simp [World.setCell], fun k _ hne => Below.heap_setCell w ⟨g, i, none⟩ u k (fun e => hne (by rw [e]))⟩
theorem grown_refl (w : World) (r : Option Nat) : w.grownBy w r := ⟨rfl, rfl, rfl, Nat.le_refl _, fun _ _ _ => rfl⟩
theorem grown_trans {a b c : World} {r : Option Nat} (h : a.grownBy b r) (k : b.grownBy c r) : a.grownBy c r :=
  ⟨k.os.trans h.os, k.tape.trans h.tape, k.output.trans h.output, Nat.le_trans h.size k.size, fun i hi hne => (k.block i (Nat.lt_of_lt_of_le hi h.size) hne).trans (h.block i hi hne)⟩
theorem OwnI.other {w w' : World} {base : Nat} {v : Value} {l : List Int} {r : Option Nat} (h : OwnI w base v l) (hg : w.grownBy w' r) (hne : v.ownBlock = none ∨ v.ownBlock ≠ r) : OwnI w' base v l :=
  World.ownsRow.kept h hg hne

theorem fill_step (l : List Int) (k n : Nat) (hk : k < l.length) (hn : k < n) (y : Int) (hy : l[k]?.getD 0 = y) : (l.take k ++ List.replicate (n - k) 0).set k y = l.take (k + 1) ++ List.replicate (n - (k + 1)) 0 := by
  have e : n - k = (n - (k + 1)) + 1 := by omega
  have e2 : l[k] = y := by rw [← hy, List.getElem?_eq_getElem hk]; rfl
  rw [List.set_append_right _ _ (by simp; omega), e, List.replicate_succ, List.length_take, Nat.min_eq_left (by omega), Nat.sub_self, List.set_cons_zero, List.take_succ_eq_append_getElem hk, e2, List.append_assoc]
  rfl

set_option maxHeartbeats 1000000 in
theorem toInt64S_any (A : Option Addr) (c : Nat) (l : List Int) (w : World) (hl : l.length ≤ 1048576) (hr : RA w A l) :
    Calls Tryz.prog 50 #[.slice A l.length c] w fun e w' => ∃ v, e = .returned v ∧ OwnI w' w.heap.size v l ∧ Below w.heap.size w w' := by
  have hmk := fun W => run_make_row' (P := Tryz.prog) 32 2 (.int .i64 0) 8 Tryz.underlying32 info64 rfl .i64 .i64 l.length (by omega) (by omega) W
  go_enter Tryz.func50, Tryz.ntmps50
  go_wp2
  go_loopw [4] (fun i wr => ∃ k : Nat, k ≤ l.length ∧ i = .int .i64 k ∧ OwnI wr w.heap.size (.slice (some ⟨w.heap.size, 0, none⟩) l.length l.length) (l.take k ++ List.replicate (l.length - k) 0) ∧ Below w.heap.size w wr) (fun i _ => l.length - (intOf i).toNat)
  case atStart => exact ⟨0, Nat.zero_le _, rfl, by simpa using OwnI.made w l.length (by unfold maxLen; omega), (Below.refl _ _).alloc (Nat.le_refl _) _⟩
  case round =>
    obtain ⟨k, hk, rfl, hown, hbel⟩ := hrel
    have HB := Lib.hid hbel
    have HO := Lib.hid hown
    clear hown hbel
    by_cases hlt : k < l.length
    · obtain ⟨ad, rfl, hb, hc⟩ := hr (by rintro rfl; simp at hlt)
      have hck := (HB.out.cell (p := ad.add k) (by rw [add_block]; exact hb)).trans (hc k hlt)
      obtain ⟨_, _, o3, o4⟩ := HO.out.cells
      have hd := o3 k (by simp; omega)
      have hf := o4 k
      obtain ⟨x, hx⟩ : ∃ x, l[k]?.getD 0 = x := ⟨_, rfl⟩
      rw [hx] at hck
      obtain ⟨y, hy⟩ : ∃ y, (l.take k ++ List.replicate (l.length - k) 0)[k]?.getD 0 = y := ⟨_, rfl⟩
      rw [hy] at hd
      have HX := Lib.hid hx
      clear hx hy hc o3 o4 hr
      have hgk := HO.out.set k x
      rw [fill_step l k l.length hlt hlt x HX.out] at hgk
      have HK := Lib.hid hgk
      clear hgk
      go_wp2
      go_roundw
      case rel => exact ⟨k + 1, by omega, by go_num, HK.out, HB.out.setCell (Nat.le_refl _) _⟩
      case measure => simp only [intOf]; omega
    · obtain rfl : k = l.length := by omega
      have hfin := HO.out
      rw [Nat.sub_self, List.replicate_zero, List.append_nil, List.take_length] at hfin
      have HFin := Lib.hid hfin
      clear hfin
      go_wp2
      go_ret
      exact ⟨_, rfl, HFin.out, HB.out⟩

/-- n marks from k on -/
def marks (k : Int) (n : Nat) : List Int := (List.range n).map fun i => k + (i : Nat)
theorem marks_length (k : Int) (n : Nat) : (marks k n).length = n := by simp [marks]
theorem marks_get (k : Int) (n i : Nat) (h : i < n) : (marks k n)[i]?.getD 0 = k + (i : Nat) := by simp [marks, h]
theorem marks_succ (k : Int) (n : Nat) : marks k (n + 1) = marks k n ++ [k + (n : Nat)] := by simp [marks, List.range_succ]
theorem marks_step (l : List Int) (k : Int) (j : Nat) (h : j < l.length) : (marks k j ++ l.drop j).set j (k + (j : Nat)) = marks k (j + 1) ++ l.drop (j + 1) := by
  rw [List.set_append_right _ _ (by rw [marks_length]; exact Nat.le_refl _), marks_length, Nat.sub_self, List.drop_eq_getElem_cons h, List.set_cons_zero, marks_succ, List.append_assoc]
  rfl

set_option maxHeartbeats 1000000 in
theorem markInt64S_any (v : Value) (base : Nat) (l : List Int) (k : Int) (w : World) (hl : l.length ≤ 10485760) (hk : 0 ≤ k) (hk2 : k ≤ 1000000000000) (hown : OwnI w base v l) :
    Calls Tryz.prog 20 #[v, .int .i64 k] w fun e w' => e = .returned (.int .i64 (k + l.length)) ∧ OwnI w' base v (marks k l.length) ∧ w.grownBy w' v.ownBlock := by
  by_cases hnil : l = []
  · subst hnil
    have HO := Lib.hid hown
    obtain ⟨A, c, rfl, _⟩ := hown.form
    clear hown
    go_enter Tryz.func20, Tryz.ntmps20
    go_wp2
    refine wp_loop_rounds 1 ?_
    rw [rounds_succ]
    go_wp2
    go_ret
    exact ⟨ret_int (by simp), HO.out, grown_refl _ _⟩
  · obtain ⟨g, c, rfl⟩ := hown.openv hnil
    have HO := Lib.hid hown
    clear hown
    go_enter Tryz.func20, Tryz.ntmps20
    go_wp2
    go_loopw [5, 1] (fun i m wr => ∃ j : Nat, j ≤ l.length ∧ i = .int .i64 j ∧ m = .int .i64 (k + j) ∧ OwnI wr base (.slice (some ⟨g, 0, none⟩) l.length c) (marks k j ++ l.drop j) ∧ w.grownBy wr (some g)) (fun i _ _ => l.length - (intOf i).toNat)
    case atStart => exact ⟨0, Nat.zero_le _, rfl, by simp, HO.out, grown_refl _ _⟩
    case round =>
      obtain ⟨j, hj, rfl, rfl, ho, hg⟩ := hrel
      have HG := Lib.hid hg
      have HJ := Lib.hid ho
      clear ho hg
      by_cases hlt : j < l.length
      · obtain ⟨_, _, o3, o4⟩ := HJ.out.cells
        have hd := o3 j (by simp [marks_length]; omega)
        have hf := o4 j
        obtain ⟨y, hy⟩ : ∃ y, (marks k j ++ l.drop j)[j]?.getD 0 = y := ⟨_, rfl⟩
        rw [hy] at hd
        have hset := HJ.out.set j (k + (j : Nat))
        rw [marks_step l k j hlt] at hset
        have HS := Lib.hid hset
        clear hy o3 o4 hset
        go_wp2
        go_roundw
        case rel => exact ⟨j + 1, by omega, by go_num, by rw [show k + ((j + 1 : Nat) : Int) = k + j + 1 by omega], HS.out, grown_trans HG.out (grown_setCell _ _ _ _)⟩
        case measure => simp only [intOf]; omega
      · obtain rfl : j = l.length := by omega
        have hfin := HJ.out
        rw [List.drop_length, List.append_nil] at hfin
        have HFin := Lib.hid hfin
        clear hfin
        go_wp2
        go_ret
        exact ⟨rfl, HFin.out, HG.out⟩

set_option maxHeartbeats 1000000 in
theorem heldInt64S_any (A : Option Addr) (c n : Nat) (k : Int) (w : World) (hl : n ≤ 10485760) (hk : 0 ≤ k) (hk2 : k ≤ 1000000000000) (hr : RI w A (marks k n)) :
    Calls Tryz.prog 21 #[.slice A n c, .int .i64 k] w fun e w' => e = .returned (.int .i64 (k + n)) ∧ w = w' := by
  go_enter Tryz.func21, Tryz.ntmps21
  go_wp2
  go_loop [5, 1] (fun i m => ∃ j : Nat, j ≤ n ∧ i = .int .i64 j ∧ m = .int .i64 (k + j)) (fun i _ => n - (intOf i).toNat)
  case atStart => exact ⟨0, Nat.zero_le _, rfl, by simp⟩
  case round =>
    obtain ⟨j, hj, rfl, rfl⟩ := hrel
    by_cases hlt : j < n
    · obtain ⟨b, off, rfl, hb, hc⟩ := hr (by intro h; have := congrArg List.length h; rw [marks_length] at this; simp at this; omega)
      have hck := hc j (by rw [marks_length]; exact hlt)
      rw [marks_get _ _ _ hlt] at hck
      clear hc hr
      go_wp2
      go_round
      case rel => exact ⟨j + 1, by omega, by go_num, by rw [show k + ((j + 1 : Nat) : Int) = k + j + 1 by omega]⟩
      case measure => simp only [intOf]; omega
    · obtain rfl : j = n := by omega
      go_wp2
      go_ret
      exact ⟨rfl, rfl⟩

set_option maxHeartbeats 1000000 in
theorem eqInt64S_any (A B : Option Addr) (c d : Nat) (l : List Int) (w : World) (hl : l.length ≤ 10485760) (ha : RI w A l) (hb : RI w B l) :
    Calls Tryz.prog 18 #[.slice A l.length c, .slice B l.length d] w fun e w' => e = .returned (.bool true) ∧ Below w.heap.size w w' := by
  go_enter Tryz.func18, Tryz.ntmps18
  go_wp2
  go_loopw [5] (fun i wr => ∃ j : Nat, j ≤ l.length ∧ i = .int .i64 j ∧ Below w.heap.size w wr) (fun i _ => l.length - (intOf i).toNat)
  case atStart => exact ⟨0, Nat.zero_le _, rfl, Below.refl _ _⟩
  case round =>
    obtain ⟨j, hj, rfl, hbel⟩ := hrel
    have HB := Lib.hid hbel
    clear hbel
    by_cases hlt : j < l.length
    · obtain ⟨b, off, rfl, hb1, hc1⟩ := ha (by rintro rfl; simp at hlt)
      obtain ⟨b', off', rfl, hb2, hc2⟩ := hb (by rintro rfl; simp at hlt)
      have h1 := (HB.out.cell (p := ⟨b, off + j, none⟩) hb1).trans (hc1 j hlt)
      have h2 := (HB.out.cell (p := ⟨b', off' + j, none⟩) hb2).trans (hc2 j hlt)
      obtain ⟨x, hx⟩ : ∃ x, l[j]?.getD 0 = x := ⟨_, rfl⟩
      rw [hx] at h1 h2
      have j1 : (0 : Int) ≤ (j : Int) := by omega
      have j2 : (j : Int) < (l.length : Int) := by omega
      clear hx hc1 hc2 ha hb
      go_wp2
      go_quiet (fail)
      go_wp2
      go_roundw
      case rel => exact ⟨j + 1, by omega, by go_num, below_drewN HB.out _⟩
      case measure => simp only [intOf]; omega
    · obtain rfl : j = l.length := by omega
      go_wp2
      go_ret
      exact ⟨rfl, HB.out⟩

end Go.Proofs.YtfhdgcndiljjcaaGreatDoor

/- What the walks of exact laws over lists share: slices made one behind the other lie in blocks of their own. -/
namespace Go.Proofs.YtfhdgcndiljjcaaGreatDoor
open Go.RowKit Go.WideShapes Go.ChangeShapes Go.ChangeAt

theorem OwnI.ri {w : World} {base n c : Nat} {A : Option Addr} {l : List Int} (h : OwnI w base (.slice A n c) l) : RI w A l := by
  obtain ⟨A', c', e, hr⟩ := h.form
  injection e with e1 e2 e3
  rw [e1]; exact hr
/-- the blocks of two slices of the call's own differ, if the one was made behind the other -/
theorem apart {w1 w2 : World} {b1 b2 : Nat} {v u : Value} {l1 l2 : List Int} (hv : OwnI w1 b1 v l1) (hu : OwnI w2 b2 u l2) (h : w1.heap.size ≤ b2) : v.ownBlock = none ∨ v.ownBlock ≠ u.ownBlock := by
  rcases hc : v.ownBlock with _ | g
  · exact .inl rfl
  · refine .inr fun e => ?_
    have h1 := hv.lt g hc
    have h2 := hu.lt g e.symm
    omega
theorem apart' {w1 w2 : World} {b1 b2 : Nat} {v u : Value} {l1 l2 : List Int} (hv : OwnI w1 b1 v l1) (hu : OwnI w2 b2 u l2) (h : w1.heap.size ≤ b2) : u.ownBlock = none ∨ u.ownBlock ≠ v.ownBlock := by
  rcases apart hv hu h with e | e
  · rcases hc : u.ownBlock with _ | g
    · exact .inl rfl
    · exact .inr (by rw [e]; simp)
  · exact .inr (Ne.symm e)
/-- a mark's writes are no news below the block where the call began -/
theorem below_grown {w0 w w' : World} {base : Nat} {v : Value} {l : List Int} (hb : Below w0.heap.size w0 w) (hg : w.grownBy w' v.ownBlock) (ho : OwnI w base v l) (h : w0.heap.size ≤ base) : Below w0.heap.size w0 w' :=
  hb.grown hg hb.size (fun k hk => Nat.le_trans h (ho.lt k hk).1)
/-- a slice of integers that came in -/
theorem ra_of_row {w : World} {a : Option Addr} {len cap : Nat} {zs : List Int}
    (h : (a = none ∧ len = 0 ∧ cap = 0 ∧ zs = []) ∨ ∃ x : Addr, a = some x ∧ len ≤ cap ∧ cap ≤ maxLen ∧ zs.length = cap ∧ (∀ i, i < zs.length → w.cell? (x.add i) = some (.int .i64 (zs.getD i 0))) ∧ ∀ n ∈ zs, (Lit.int .i64 n).wf = true) :
    ∃ l : List Int, l.length = len ∧ len ≤ maxLen ∧ RA w a l := by
  rcases h with ⟨rfl, rfl, rfl, rfl⟩ | ⟨x, rfl, h1, h2, h3, h4, _⟩
  · exact ⟨[], rfl, Nat.zero_le _, fun h => absurd rfl h⟩
  · have hl : (zs.take len).length = len := by rw [List.length_take]; omega
    refine ⟨zs.take len, hl, Nat.le_trans h1 h2, fun hne => ?_⟩
    have hpos : 0 < len := by
      rcases Nat.eq_zero_or_pos len with h0 | h0
      · exact absurd (List.eq_nil_of_length_eq_zero (by omega)) hne
      · exact h0
    have hb := World.block_lt_of_cell? w _ (h4 0 (by omega))
    rw [add_block] at hb
    refine ⟨x, rfl, hb, fun k hk => ?_⟩
    rw [h4 k (by omega), List.getElem?_take, if_pos (by omega), List.getD_eq_getElem?_getD]

end Go.Proofs.YtfhdgcndiljjcaaGreatDoor

/- Lists of lists of integers that a call has made itself: appending a row, comparing, marking. -/
namespace Go.Proofs.YtfhdgcndiljjcaaGreatDoor
open Go.RowKit Go.WideShapes Go.ChangeShapes Go.ChangeAt

theorem infoRow : (Tryz.prog.info? 32).map (fun i => (i.zero, i.size, i.bytes)) = some (some (.slice none 0 0), 1, 24) := by kernel_rfl

/-- v is a slice of slices of the call's own, all in blocks from lo on and below hi, no two in one block, that holds the rows -/
def OwnR (w : World) (lo hi : Nat) (v : Value) (rows : List (List Int)) : Prop :=
  ∃ vs : List Value, w.ownsRow lo 32 1 v rows.length vs ∧ (∀ g, v.ownBlock = some g → g < hi) ∧
    (∀ (i : Nat) (r : List Int), rows[i]? = some r → ∃ u : Value, vs[i]? = some u ∧ OwnI w lo u r ∧ ∀ g, u.ownBlock = some g → g < hi) ∧
    (∀ (i j : Nat) (u u' : Value), i < j → vs[i]? = some u → vs[j]? = some u' → u.ownBlock = none ∨ u.ownBlock ≠ u'.ownBlock)

theorem OwnR.nil (w : World) (lo hi : Nat) : OwnR w lo hi (.slice none 0 0) [] :=
  ⟨[], World.ownsRow_nil _ _ _ _, fun g hg => by simp [Value.ownBlock] at hg, fun i r h => by simp at h, fun i j u u' _ h => by simp at h⟩
theorem OwnR.none0 (w : World) : OwnR (w.alloc (.cells #[] 32)) w.heap.size (w.heap.size + 1) (.slice (some ⟨w.heap.size, 0, none⟩) 0 0) [] :=
  ⟨[], ⟨rfl, .inr ⟨w.heap.size, 0, #[], rfl, Nat.le_refl _, heap_alloc_new w _, Nat.le_refl _, Nat.zero_le _, rfl, rfl⟩⟩,
    fun g hg => by simp [Value.ownBlock] at hg; omega, fun i r h => by simp at h, fun i j u u' _ h => by simp at h⟩
theorem OwnR.keep {w w' : World} {lo hi : Nat} {v : Value} {rows : List (List Int)} (h : OwnR w lo hi v rows) (hb : Below hi w w') : OwnR w' lo hi v rows := by
  obtain ⟨vs, h1, h2, h3, h4⟩ := h
  refine ⟨vs, ⟨h1.1, ?_⟩, h2, fun i r hr => ?_, h4⟩
  · rcases h1.2 with hn | ⟨g, cap, cur, rfl, hg, hh, rest⟩
    · exact .inl hn
    · exact .inr ⟨g, cap, cur, rfl, hg, (hb.block g (h2 g rfl)).trans hh, rest⟩
  · obtain ⟨u, a, b, c⟩ := h3 i r hr
    exact ⟨u, a, b.below hb c, c⟩
theorem OwnR.more {w : World} {lo hi hi' : Nat} {v : Value} {rows : List (List Int)} (h : OwnR w lo hi v rows) (hh : hi ≤ hi') : OwnR w lo hi' v rows := by
  obtain ⟨vs, h1, h2, h3, h4⟩ := h
  exact ⟨vs, h1, fun g hg => Nat.lt_of_lt_of_le (h2 g hg) hh, fun i r hr => by
    obtain ⟨u, a, b, c⟩ := h3 i r hr
    exact ⟨u, a, b, fun g hg => Nat.lt_of_lt_of_le (c g hg) hh⟩, h4⟩
theorem ne_types {w : World} {lo lo' n : Nat} {v u : Value} {vs : List Value} {l : List Int} (hv : w.ownsRow lo 32 1 v n vs) (hu : OwnI w lo' u l) : u.ownBlock = none ∨ u.ownBlock ≠ v.ownBlock := by
  unfold OwnI at hu
  rcases hu.2 with ⟨rfl, _⟩ | ⟨g, cap, cur, rfl, _, hg, _⟩
  · exact .inl rfl
  · rcases hv.2 with ⟨rfl, _⟩ | ⟨g', cap', cur', rfl, _, hg', _⟩
    · exact .inr (by simp [Value.ownBlock])
    · refine .inr fun e => ?_
      obtain rfl : g = g' := by simpa [Value.ownBlock] using e
      rw [hg] at hg'
      injection hg' with e1
      injection e1 with _ e2
      exact absurd e2 (by decide)

/-- appending one row of two numbers, which has just been built -/
theorem wp_pushR {ops : Array Oper} {rest : List Oper} {o : Oper} {a : Act} {Q : Exit → Act → World → Prop} {w : World} (s x : Operand) (t : TypeId)
    (hgd : o.guard = none) (ho : o.op = .call { callee := .builtin .append, args := #[s, x], argTypes := #[t, t] })
    (ht : Tryz.prog.underlying t = some (.slice 32)) (lo : Nat) (v : Value) (rows : List (List Int)) (hs : a.eval s = v) (hown : OwnR w lo w.heap.size v rows)
    (p q : Int) (hx : a.eval x = .slice (some ⟨w.heap.size + 1, 0, none⟩) 1 1) (hlen : rows.length ≤ 1000000000000) (hlo : lo ≤ w.heap.size)
    (h : ∀ v' w', OwnR w' lo w'.heap.size v' (rows ++ [[p, q]]) → Below lo w w' → wpList Tryz.prog ops Q rest (a.put o.dst v') w') :
    wpList Tryz.prog ops Q (o :: rest) a ((w.alloc (.cells #[.int .i64 p, .int .i64 q] 2)).alloc (.cells #[.slice (some ⟨w.heap.size, 0, none⟩) 2 2] 32)) := by
  obtain ⟨i0, hi, hz0, hz1, hz2⟩ := info_parts infoRow
  obtain ⟨vs, h1, h2, h3, h4⟩ := hown
  have hW1 : (w.alloc (.cells #[.int .i64 p, .int .i64 q] 2)).heap.size = w.heap.size + 1 := by simp
  have hbel : Below w.heap.size w ((w.alloc (.cells #[.int .i64 p, .int .i64 q] 2)).alloc (.cells #[.slice (some ⟨w.heap.size, 0, none⟩) 2 2] 32)) :=
    ((Below.refl _ _).alloc (Nat.le_refl _) _).alloc (by simp) _
  have hnew : OwnI ((w.alloc (.cells #[.int .i64 p, .int .i64 q] 2)).alloc (.cells #[.slice (some ⟨w.heap.size, 0, none⟩) 2 2] 32)) lo (.slice (some ⟨w.heap.size, 0, none⟩) 2 2) [p, q] := by
    refine OwnI.alloc ?_ _
    exact ⟨rfl, .inr ⟨w.heap.size, 2, #[.int .i64 p, .int .i64 q], rfl, hlo, heap_alloc_new w _, Nat.le_refl _, by unfold maxLen; omega, rfl, rfl⟩⟩
  refine wpList_append_own _ hgd s x t ho lo 32 i0 (.slice none 0 0) 1 24 ht hi hz0 hz1 hz2 rfl (by decide) v rows.length vs hs ((h1.alloc _).alloc _)
    ⟨w.heap.size + 1, 0, none⟩ 1 1 [.slice (some ⟨w.heap.size, 0, none⟩) 2 2] hx rfl ?_ ?_ ?_ ?_ ?_ ?_
  · intro j u hj
    match j, hj with
    | 0, hj => simp at hj; subst hj; simp [Addr.add]
  · intro u hu; simp at hu; subst hu; rfl
  · unfold maxLen; omega
  · omega
  · simp; omega
  · intro v' w' g1 g2 _
    have hsz : w.heap.size + 2 ≤ w'.heap.size := by have := g2.size; simp at this; exact this
    have hvl := World.ownsRow.lt h1
    refine h v' w' ⟨vs ++ [.slice (some ⟨w.heap.size, 0, none⟩) 2 2], ?_, ?_, ?_, ?_⟩ ?_
    · rw [List.length_append]; exact g1
    · exact fun g hg => (World.ownsRow.lt g1 g hg).2
    · intro i r hr
      by_cases hi : i < rows.length
      · rw [List.getElem?_append_left hi] at hr
        obtain ⟨u, a1, a2, a3⟩ := h3 i r hr
        have hvs : i < vs.length := (List.getElem?_eq_some_iff.1 a1).1
        have hk := a2.keep hbel
        refine ⟨u, by rw [List.getElem?_append_left hvs]; exact a1, hk.other g2 (ne_types ((h1.alloc _).alloc _) hk), fun g hg => by have := a3 g hg; omega⟩
      · rw [List.getElem?_append_right (by omega)] at hr
        have hi2 : i = rows.length := by
          rcases Nat.eq_or_lt_of_le (Nat.le_of_not_lt hi) with e | e
          · exact e.symm
          · rw [show i - rows.length = (i - rows.length - 1) + 1 by omega] at hr; simp at hr
        subst hi2
        have hvsl : vs.length = rows.length := by have := h1.1; omega
        rw [Nat.sub_self] at hr
        simp at hr
        subst hr
        refine ⟨.slice (some ⟨w.heap.size, 0, none⟩) 2 2, by rw [← hvsl, List.getElem?_append_right (Nat.le_refl _), Nat.sub_self]; rfl, hnew.other g2 (.inr fun e => ?_), fun g hg => ?_⟩
        · have := hvl w.heap.size (by rw [← e]; rfl)
          omega
        · have : g = w.heap.size := by simpa [Value.ownBlock] using hg.symm
          omega
    · intro i j u u' hij hu hu'
      have hvsl : vs.length = rows.length := by have := h1.1; omega
      by_cases hj : j < vs.length
      · rw [List.getElem?_append_left hj] at hu'
        rw [List.getElem?_append_left (by omega)] at hu
        exact h4 i j u u' hij hu hu'
      · have hju : j = vs.length := by
          rw [List.getElem?_append_right (by omega)] at hu'
          rcases Nat.eq_or_lt_of_le (Nat.le_of_not_lt hj) with e | e
          · exact e.symm
          · rw [show j - vs.length = (j - vs.length - 1) + 1 by omega] at hu'; simp at hu'
        subst hju
        rw [List.getElem?_append_right (Nat.le_refl _), Nat.sub_self] at hu'
        simp at hu'
        subst hu'
        rw [List.getElem?_append_left hij] at hu
        obtain ⟨r, hr⟩ : ∃ r, rows[i]? = some r := ⟨_, List.getElem?_eq_getElem (by omega)⟩
        obtain ⟨u2, a1, _, a3⟩ := h3 i r hr
        rw [hu] at a1
        injection a1 with a1
        subst a1
        rcases hc : u.ownBlock with _ | g
        · exact .inl rfl
        · refine .inr fun e => ?_
          have := a3 g hc
          have : g = w.heap.size := by simpa [Value.ownBlock] using e
          omega
    · exact (hbel.mono hlo).grown g2 (by simp; omega) (fun k hk => (hvl k hk).1)

/-- reading a row -/
theorem OwnR.read {w : World} {lo hi : Nat} {v : Value} {rows : List (List Int)} (h : OwnR w lo hi v rows) :
    ∃ A c, v = .slice A rows.length c ∧ (rows ≠ [] → ∃ g, A = some ⟨g, 0, none⟩ ∧ g < w.heap.size ∧ g < hi ∧ lo ≤ g ∧ ∀ i, i < rows.length → ∃ A' c', w.cell? ⟨g, i, none⟩ = some (.slice A' (rows[i]?.getD []).length c') ∧ OwnI w lo (.slice A' (rows[i]?.getD []).length c') (rows[i]?.getD []) ∧ (∀ b, (Value.slice A' (rows[i]?.getD []).length c').ownBlock = some b → b < hi)) := by
  obtain ⟨vs, h1, h2, h3, h4⟩ := h
  rcases h1.2 with ⟨rfl, h0⟩ | ⟨g, cap, cur, rfl, hg, hh, rest⟩
  · obtain rfl : rows = [] := List.eq_nil_of_length_eq_zero h0
    exact ⟨none, 0, rfl, fun h => absurd rfl h⟩
  · refine ⟨_, _, rfl, fun _ => ⟨g, rfl, (Array.getElem?_eq_some_iff.1 hh).1, h2 g rfl, hg, fun i hi => ?_⟩⟩
    have hr : rows[i]? = some (rows[i]?.getD []) := by rw [List.getElem?_eq_getElem hi]; rfl
    obtain ⟨u, a1, a2, a3⟩ := h3 i _ hr
    have hc := World.ownsRow.cells h1 (g := g) rfl i u a1
    rw [add_plain, Nat.zero_add] at hc
    obtain ⟨A', c', rfl, _⟩ := a2.form
    exact ⟨A', c', hc, a2, a3⟩

end Go.Proofs.YtfhdgcndiljjcaaGreatDoor

/- Contracts of the exact laws' helpers on lists of lists of integers. -/
namespace Go.Proofs.YtfhdgcndiljjcaaGreatDoor
open Go.RowKit Go.WideShapes Go.ChangeShapes Go.ChangeAt

set_option maxHeartbeats 1000000 in
theorem eqInt64S_q (A B : Option Addr) (c d : Nat) (l : List Int) (w : World) (hl : l.length ≤ 10485760) (ha : RI w A l) (hb : RI w B l) :
    Calls Tryz.prog 18 #[.slice A l.length c, .slice B l.length d] w fun e w' => e = .returned (.bool true) ∧ ∃ n, w' = w.drewN n := by
  go_enter Tryz.func18, Tryz.ntmps18
  go_wp2
  go_loopw [5] (fun i wr => ∃ j n : Nat, j ≤ l.length ∧ i = .int .i64 j ∧ wr = w.drewN n) (fun i _ => l.length - (intOf i).toNat)
  case atStart => exact ⟨0, 0, Nat.zero_le _, rfl, rfl⟩
  case round =>
    obtain ⟨j, n, hj, rfl, hw⟩ := hrel
    have HW := Lib.hid hw
    have hcell : ∀ p : Addr, wr.cell? p = w.cell? p := by intro p; rw [hw]; rfl
    clear hw
    by_cases hlt : j < l.length
    · obtain ⟨b, off, rfl, hb1, hc1⟩ := ha (by rintro rfl; simp at hlt)
      obtain ⟨b', off', rfl, hb2, hc2⟩ := hb (by rintro rfl; simp at hlt)
      have h1 := (hcell ⟨b, off + j, none⟩).trans (hc1 j hlt)
      have h2 := (hcell ⟨b', off' + j, none⟩).trans (hc2 j hlt)
      obtain ⟨x, hx⟩ : ∃ x, l[j]?.getD 0 = x := ⟨_, rfl⟩
      rw [hx] at h1 h2
      have j1 : (0 : Int) ≤ (j : Int) := by omega
      have j2 : (j : Int) < (l.length : Int) := by omega
      clear hx hc1 hc2 ha hb hcell
      go_wp2
      go_quiet (fail)
      go_wp2
      go_roundw
      case rel => exact ⟨j + 1, n + nq, by omega, by go_num, by rw [HW.out, World.drewN_drewN]⟩
      case measure => simp only [intOf]; omega
    · obtain rfl : j = l.length := by omega
      clear hcell
      go_wp2
      go_ret
      exact ⟨rfl, n, HW.out⟩

/-- blocks from lo on and below hi alone have been written -/
structure Span (lo hi : Nat) (w w' : World) : Prop where
  os : w'.os = w.os
  tape : w'.tape = w.tape
  output : w'.output = w.output
  size : w.heap.size ≤ w'.heap.size
  block : ∀ k, k < w.heap.size → (k < lo ∨ hi ≤ k) → w'.heap[k]? = w.heap[k]?
theorem Span.refl (lo hi : Nat) (w : World) : Span lo hi w w := ⟨rfl, rfl, rfl, Nat.le_refl _, fun _ _ _ => rfl⟩
theorem Span.trans {lo hi : Nat} {a b c : World} (h : Span lo hi a b) (k : Span lo hi b c) : Span lo hi a c :=
  ⟨k.os.trans h.os, k.tape.trans h.tape, k.output.trans h.output, Nat.le_trans h.size k.size, fun i hi hne => (k.block i (Nat.lt_of_lt_of_le hi h.size) hne).trans (h.block i hi hne)⟩
theorem Span.of_grown {lo hi : Nat} {w w' : World} {r : Option Nat} (h : w.grownBy w' r) (hr : ∀ g, r = some g → lo ≤ g ∧ g < hi) : Span lo hi w w' :=
  ⟨h.os, h.tape, h.output, h.size, fun k hk hne => h.block k hk (fun e => by have := hr k e.symm; omega)⟩
theorem Span.below {lo hi : Nat} {w w' : World} (h : Span lo hi w w') (hlo : lo ≤ w.heap.size) : Below lo w w' :=
  ⟨h.os, h.tape, h.output, h.size, fun k hk => h.block k (Nat.lt_of_lt_of_le hk hlo) (.inl hk)⟩
theorem OwnR.far {w w' : World} {lo hi lo' hi' : Nat} {v : Value} {rows : List (List Int)} (h : OwnR w lo hi v rows) (hs : Span lo' hi' w w') (hd : hi ≤ lo' ∨ hi' ≤ lo) : OwnR w' lo hi v rows := by
  obtain ⟨vs, h1, h2, h3, h4⟩ := h
  have hk : ∀ g, lo ≤ g → g < hi → g < w.heap.size → w'.heap[g]? = w.heap[g]? := fun g a b c => hs.block g c (by omega)
  refine ⟨vs, ⟨h1.1, ?_⟩, h2, fun i r hr => ?_, h4⟩
  · rcases h1.2 with hn | ⟨g, cap, cur, rfl, hg, hh, rest⟩
    · exact .inl hn
    · exact .inr ⟨g, cap, cur, rfl, hg, (hk g hg (h2 g rfl) (Array.getElem?_eq_some_iff.1 hh).1).trans hh, rest⟩
  · obtain ⟨u, a, b, c⟩ := h3 i r hr
    refine ⟨u, a, ?_, c⟩
    unfold OwnI at b ⊢
    refine ⟨b.1, ?_⟩
    rcases b.2 with hn | ⟨g, cap, cur, rfl, hg, hh, rest⟩
    · exact .inl hn
    · exact .inr ⟨g, cap, cur, rfl, hg, (hk g hg (c g rfl) (Array.getElem?_eq_some_iff.1 hh).1).trans hh, rest⟩
theorem OwnI.far {w w' : World} {lo lo' hi' : Nat} {v : Value} {l : List Int} (h : OwnI w lo v l) (hs : Span lo' hi' w w') (hd : ∀ g, v.ownBlock = some g → g < lo' ∨ hi' ≤ g) : OwnI w' lo v l := by
  unfold OwnI at h ⊢
  refine ⟨h.1, ?_⟩
  rcases h.2 with hn | ⟨g, cap, cur, rfl, hg, hh, rest⟩
  · exact .inl hn
  · exact .inr ⟨g, cap, cur, rfl, hg, (hs.block g (Array.getElem?_eq_some_iff.1 hh).1 (hd g rfl)).trans hh, rest⟩

/-- one row has been written -/
theorem OwnR.setRow {w w' : World} {lo hi : Nat} {v u : Value} {rows : List (List Int)} (h : OwnR w lo hi v rows) (i : Nat) (r' : List Int)
    (hcell : ∀ vs : List Value, w.ownsRow lo 32 1 v rows.length vs → vs[i]? = some u) (hlt' : i < rows.length)
    (hg : w.grownBy w' u.ownBlock) (hu' : OwnI w' lo u r') : OwnR w' lo hi v (rows.set i r') := by
  obtain ⟨vs, h1, h2, h3, h4⟩ := h
  have hvi := hcell vs h1
  obtain ⟨u0, a1, a2, a3⟩ := h3 i _ (List.getElem?_eq_getElem hlt')
  rw [hvi] at a1
  injection a1 with a1
  subst a1
  have hne := ne_types h1 a2
  refine ⟨vs, ?_, h2, fun j r hr => ?_, h4⟩
  · rw [List.length_set]
    refine World.ownsRow.kept h1 hg ?_
    rcases hc : v.ownBlock with _ | g
    · exact .inl rfl
    · refine .inr ?_
      rcases hne with e | e
      · rw [e]; simp
      · rw [← hc]; exact Ne.symm e
  · by_cases hij : i = j
    · subst hij
      rw [List.getElem?_set_self hlt'] at hr
      injection hr with hr
      subst hr
      exact ⟨u, hvi, hu', a3⟩
    · rw [List.getElem?_set_ne hij] at hr
      obtain ⟨u1, b1, b2, b3⟩ := h3 j r hr
      refine ⟨u1, b1, b2.other hg ?_, b3⟩
      rcases Nat.lt_or_ge i j with hlt | hge
      · rcases h4 i j u u1 hlt hvi b1 with e | e
        · rcases hc : u1.ownBlock with _ | g
          · exact .inl rfl
          · exact .inr (by rw [e]; simp)
        · exact .inr (Ne.symm e)
      · exact h4 j i u1 u (by omega) b1 hvi
theorem OwnR.row {w : World} {lo hi : Nat} {v : Value} {rows : List (List Int)} (h : OwnR w lo hi v rows) (i : Nat) (hi' : i < rows.length) :
    ∃ g c A' c', v = .slice (some ⟨g, 0, none⟩) rows.length c ∧ g < w.heap.size ∧ w.cell? ⟨g, i, none⟩ = some (.slice A' (rows[i]?.getD []).length c') ∧
      (∀ vs : List Value, w.ownsRow lo 32 1 v rows.length vs → vs[i]? = some (.slice A' (rows[i]?.getD []).length c')) ∧ OwnI w lo (.slice A' (rows[i]?.getD []).length c') (rows[i]?.getD []) ∧
      (∀ b, (Value.slice A' (rows[i]?.getD []).length c').ownBlock = some b → b < hi) := by
  obtain ⟨vs, h1, h2, h3, h4⟩ := h
  rcases h1.2 with ⟨rfl, h0⟩ | ⟨g, cap, cur, rfl, hg, hh, h5, h6, h7, h8⟩
  · omega
  · have hr : rows[i]? = some (rows[i]?.getD []) := by rw [List.getElem?_eq_getElem hi']; rfl
    obtain ⟨u, a1, a2, a3⟩ := h3 i _ hr
    have hc := World.ownsRow.cells h1 (g := g) rfl i u a1
    rw [add_plain, Nat.zero_add] at hc
    obtain ⟨A', c', rfl, _⟩ := a2.form
    refine ⟨g, cap, A', c', rfl, (Array.getElem?_eq_some_iff.1 hh).1, hc, fun ws hws => ?_, a2, a3⟩
    rcases hws.2 with ⟨hv, _⟩ | ⟨g', cap', cur', hv, _, hh', _, _, _, h8'⟩
    · cases hv
    · injection hv with e1 e2 e3
      injection e1 with e1
      injection e1 with e1
      subst e1
      rw [hh] at hh'
      injection hh' with hh'
      injection hh' with hh'
      subst hh'
      rw [← h8', h8]; exact a1

set_option maxHeartbeats 1000000 in
theorem eqInt64SS_any (v u : Value) (lo hi lo' hi' : Nat) (rows : List (List Int)) (w : World) (hl : rows.length ≤ 10485760) (hrl : ∀ i : Nat, (rows[i]?.getD []).length ≤ 10485760) (hv : OwnR w lo hi v rows) (hu : OwnR w lo' hi' u rows) :
    Calls Tryz.prog 33 #[v, u] w fun e w' => e = .returned (.bool true) ∧ Below w.heap.size w w' := by
  obtain ⟨A, c, rfl, -⟩ := hv.read
  obtain ⟨B, d, rfl, -⟩ := hu.read
  have HV := Lib.hid hv
  have HU := Lib.hid hu
  have HR := Lib.hid hrl
  clear hv hu hrl
  go_enter Tryz.func33, Tryz.ntmps33
  go_wp2
  go_loopw [5] (fun i wr => ∃ j : Nat, j ≤ rows.length ∧ i = .int .i64 j ∧ Below w.heap.size w wr) (fun i _ => rows.length - (intOf i).toNat)
  case atStart => exact ⟨0, Nat.zero_le _, rfl, Below.refl _ _⟩
  case round =>
    obtain ⟨j, hj, rfl, hbel⟩ := hrel
    have HB := Lib.hid hbel
    clear hbel
    by_cases hlt : j < rows.length
    · obtain ⟨g, c1, A1, d1, e1, g1, k1, -, o1, -⟩ := HV.out.row j hlt
      obtain ⟨g', c2, A2, d2, e2, g2, k2, -, o2, -⟩ := HU.out.row j hlt
      injection e1 with e1 e1b e1c
      clear e1b e1c
      injection e2 with e2 e2b e2c
      clear e2b e2c
      subst e1 e2
      have h1 := (HB.out.cell (p := ⟨g, j, none⟩) g1).trans k1
      have h2 := (HB.out.cell (p := ⟨g', j, none⟩) g2).trans k2
      have hrj := HR.out j
      obtain ⟨r, hr⟩ : ∃ r, rows[j]?.getD [] = r := ⟨_, rfl⟩
      rw [hr] at h1 h2 o1 o2 hrj
      have R1 := Lib.hid (o1.ri.below HB.out)
      have R2 := Lib.hid (o2.ri.below HB.out)
      have j1 : (0 : Int) ≤ (j : Int) := by omega
      have j2 : (j : Int) < (rows.length : Int) := by omega
      clear hr k1 k2 o1 o2
      go_wp2
      go_quiet ((go_at_call 18; exact Calls.quiet_of (eqInt64S_q _ _ _ _ r _ hrj R1.out R2.out)))
      go_wp2
      go_roundw
      case rel => exact ⟨j + 1, by omega, by go_num, below_drewN HB.out _⟩
      case measure => simp only [intOf]; omega
    · obtain rfl : j = rows.length := by omega
      go_wp2
      go_ret
      exact ⟨rfl, HB.out⟩

/-- rows of marks of given lengths, from k on -/
def mkR (k : Int) : List (List Int) → List (List Int)
  | [] => []
  | r :: t => marks k r.length :: mkR (k + r.length) t
/-- how many numbers there are in the rows -/
def tot : List (List Int) → Nat
  | [] => 0
  | r :: t => r.length + tot t
theorem tot_append : ∀ a b : List (List Int), tot (a ++ b) = tot a + tot b
  | [], b => by simp [tot]
  | r :: t, b => by rw [List.cons_append, tot, tot, tot_append t b]; omega
theorem mkR_append : ∀ (a b : List (List Int)) (k : Int), mkR k (a ++ b) = mkR k a ++ mkR (k + tot a) b
  | [], b, k => by simp [mkR, tot]
  | r :: t, b, k => by
    rw [List.cons_append, mkR, mkR, mkR_append t b, List.cons_append, tot]
    congr 3; omega
theorem mkR_length : ∀ (a : List (List Int)) (k : Int), (mkR k a).length = a.length
  | [], _ => rfl
  | r :: t, k => by rw [mkR, List.length_cons, mkR_length t, List.length_cons]
theorem take_succ_tot (rows : List (List Int)) (j : Nat) (h : j < rows.length) : tot (rows.take (j + 1)) = tot (rows.take j) + (rows[j]?.getD []).length := by
  rw [List.take_succ_eq_append_getElem h, tot_append, List.getElem?_eq_getElem h]
  simp [tot]
theorem tot_take_le (rows : List (List Int)) (j : Nat) : tot (rows.take j) ≤ tot rows := by
  conv => rhs; rw [← List.take_append_drop j rows]
  rw [tot_append]; omega
theorem mk_step (rows : List (List Int)) (k : Int) (j : Nat) (h : j < rows.length) :
    (mkR k (rows.take j) ++ rows.drop j).set j (marks (k + tot (rows.take j)) (rows[j]?.getD []).length) = mkR k (rows.take (j + 1)) ++ rows.drop (j + 1) := by
  have hl : (mkR k (rows.take j)).length = j := by rw [mkR_length, List.length_take]; omega
  have e : rows[j]?.getD [] = rows[j] := by rw [List.getElem?_eq_getElem h]; rfl
  rw [List.set_append_right _ _ (by omega), hl, Nat.sub_self, List.drop_eq_getElem_cons h, List.set_cons_zero, List.take_succ_eq_append_getElem h, mkR_append, List.append_assoc, e]
  rfl
theorem mk_get (rows : List (List Int)) (k : Int) (j : Nat) (h : j < rows.length) : (mkR k (rows.take j) ++ rows.drop j)[j]?.getD [] = rows[j]?.getD [] := by
  have hl : (mkR k (rows.take j)).length = j := by rw [mkR_length, List.length_take]; omega
  rw [List.getElem?_append_right (by omega), hl, Nat.sub_self, List.getElem?_drop, Nat.add_zero]
theorem mkR_get (rows : List (List Int)) (k : Int) (j : Nat) (h : j < rows.length) : (mkR k rows)[j]?.getD [] = marks (k + tot (rows.take j)) (rows[j]?.getD []).length := by
  have e : rows = rows.take j ++ rows[j] :: rows.drop (j + 1) := by rw [List.getElem_cons_drop, List.take_append_drop]
  have e2 : rows[j]?.getD [] = rows[j] := by rw [List.getElem?_eq_getElem h]; rfl
  have hl : (mkR k (rows.take j)).length = j := by rw [mkR_length, List.length_take]; omega
  rw [e2]
  conv => lhs; rw [e]
  rw [mkR_append, List.getElem?_append_right (by omega), hl, Nat.sub_self, mkR]
  rfl

set_option maxHeartbeats 1000000 in
theorem markInt64SS_any (v : Value) (lo hi : Nat) (rows : List (List Int)) (k : Int) (w : World) (hl : rows.length ≤ 10485760) (ht : tot rows ≤ 10485760) (hk : 0 ≤ k) (hk2 : k ≤ 500000000000) (hown : OwnR w lo hi v rows) :
    Calls Tryz.prog 35 #[v, .int .i64 k] w fun e w' => e = .returned (.int .i64 (k + tot rows)) ∧ OwnR w' lo hi v (mkR k rows) ∧ Span lo hi w w' := by
  obtain ⟨A, c, rfl, -⟩ := hown.read
  have HO := Lib.hid hown
  clear hown
  go_enter Tryz.func35, Tryz.ntmps35
  go_wp2
  go_loopw [5, 1] (fun i m wr => ∃ j : Nat, j ≤ rows.length ∧ i = .int .i64 j ∧ m = .int .i64 (k + tot (rows.take j)) ∧ OwnR wr lo hi (.slice A rows.length c) (mkR k (rows.take j) ++ rows.drop j) ∧ Span lo hi w wr) (fun i _ _ => rows.length - (intOf i).toNat)
  case atStart => exact ⟨0, Nat.zero_le _, rfl, by simp [tot], by simpa [mkR] using HO.out, Span.refl _ _ _⟩
  case round =>
    obtain ⟨j, hj, rfl, rfl, ho, hs⟩ := hrel
    have HJ := Lib.hid ho
    have HS := Lib.hid hs
    clear ho hs
    by_cases hlt : j < rows.length
    · obtain ⟨g, c1, A1, d1, e1, g1, k1, kk, o1, o2⟩ := HJ.out.row j (by rw [List.length_append, mkR_length, List.length_take, List.length_drop]; omega)
      injection e1 with e1 e1b e1c
      clear e1b e1c
      subst e1
      rw [mk_get _ _ _ hlt] at k1 kk o1 o2
      have hT := take_succ_tot rows j hlt
      have hT2 := tot_take_le rows (j + 1)
      have HMS := Lib.hid (mk_step rows k j hlt)
      obtain ⟨r, hr⟩ : ∃ r, rows[j]?.getD [] = r := ⟨_, rfl⟩
      obtain ⟨T, hTT⟩ : ∃ T, tot (rows.take j) = T := ⟨_, rfl⟩
      obtain ⟨T2, hTT2⟩ : ∃ T, tot (rows.take (j + 1)) = T := ⟨_, rfl⟩
      rw [hr] at k1 kk o1 o2 hT
      rw [hTT] at hT ⊢
      rw [hTT2] at hT hT2
      have HR := Lib.hid hr
      have HTT := Lib.hid hTT
      have HTT2 := Lib.hid hTT2
      have HT := Lib.hid hT
      have K := Lib.hid kk
      have O1 := Lib.hid o1
      have O2 := Lib.hid o2
      have b1 : r.length ≤ 10485760 := by omega
      have b2 : T ≤ 10485760 := by omega
      clear hr hTT hTT2 hT kk o1 o2
      go_wp2_with (go_at_call 20; refine (markInt64S_any _ _ r _ _ b1 (by omega) (by omega) O1.out).mono ?_; rintro e w2 ⟨rfl, ho2, hg2⟩)
      have HR2 := HJ.out.setRow j (marks (k + T) r.length) K.out (by rw [List.length_append, mkR_length, List.length_take, List.length_drop]; omega) hg2 ho2
      have hs2 : Span lo hi wr w2 := Span.of_grown hg2 (fun b hb => ⟨(O1.out.lt b hb).1, O2.out b hb⟩)
      have HMS' := HMS.out
      rw [HR.out, HTT.out] at HMS'
      rw [HMS'] at HR2
      have H1 := Lib.hid HR2
      have H2 := Lib.hid hs2
      clear HR2 hs2 ho2 hg2 HMS'
      go_wp2
      go_roundw
      case rel => exact ⟨j + 1, by omega, by go_num, by have := HT.out; rw [HTT2.out, this]; congr 1; push_cast; omega, H1.out, HS.out.trans H2.out⟩
      case measure => simp only [intOf]; omega
    · obtain rfl : j = rows.length := by omega
      have hfin := HJ.out
      rw [List.drop_length, List.append_nil, List.take_length] at hfin
      have HF := Lib.hid hfin
      clear hfin
      rw [List.take_length]
      go_wp2
      go_ret
      exact ⟨rfl, HF.out, HS.out⟩

end Go.Proofs.YtfhdgcndiljjcaaGreatDoor

/- Contracts of the functions that look at series, of the program. -/
namespace Go.Proofs.YtfhdgcndiljjcaaGreatDoor
open Go.RowKit Go.WideShapes Go.ChangeShapes Go.ChangeAt

theorem below_alloc {w w' : World} (o : Obj) (h : Below w.heap.size w w') : Below w.heap.size w (w'.alloc o) := h.alloc h.size o
theorem below_one (w : World) (o : Obj) : Below w.heap.size w (w.alloc o) := (Below.refl _ _).alloc (Nat.le_refl _) o

theorem degree_any (m : Int) (A : Option Addr) (n c : Nat) (w : World) (hn : n ≤ 9223372036854775807) :
    Calls Tryz.prog 44 #[.agg #[.int .i64 m, .slice A n c]] w fun e w' => e = .returned (.int .i64 ((n : Int) - 1)) ∧ Below w.heap.size w w' := by
  go_enter Tryz.func44, Tryz.ntmps44
  go_wp2
  go_ret
  exact ⟨rfl, below_one _ _⟩

/-- the block of a series in a variable of its own -/
def Box (w : World) (g : Nat) (m : Int) (A : Option Addr) (n c : Nat) : Prop := w.cell? ⟨g, 0, none⟩ = some (.int .i64 m) ∧ w.cell? ⟨g, 1, none⟩ = some (.slice A n c) ∧ g < w.heap.size
theorem Box.new (w : World) (m : Int) (A : Option Addr) (n c : Nat) : Box (w.alloc (.cells #[.int .i64 m, .slice A n c] 71)) w.heap.size m A n c := by
  refine ⟨?_, ?_, by simp⟩ <;> rw [World.cell?_alloc_at _ _ _ _ rfl] <;> rfl
theorem Box.keep {w w' : World} {g : Nat} {m : Int} {A : Option Addr} {n c : Nat} (h : Box w g m A n c) (hb : Below w.heap.size w w') : Box w' g m A n c :=
  ⟨(hb.cell (p := ⟨g, 0, none⟩) h.2.2).trans h.1, (hb.cell (p := ⟨g, 1, none⟩) h.2.2).trans h.2.1, Nat.lt_of_lt_of_le h.2.2 hb.size⟩

theorem box_in {W w' : World} {g : Nat} {m : Int} {A : Option Addr} {n c : Nat} (h : Box W g m A n c) (hb : Below W.heap.size W w') : w'.cell? ⟨g, 0, none⟩ = some (.int .i64 m) ∧ w'.cell? ⟨g, 1, none⟩ = some (.slice A n c) :=
  ⟨(h.keep hb).1, (h.keep hb).2.1⟩
theorem box2_in {W w' : World} {g g' : Nat} {m m' : Int} {A A' : Option Addr} {n c n' c' : Nat} (h : Box W g m A n c) (h' : Box W g' m' A' n' c') (hb : Below W.heap.size W w') :
    (w'.cell? ⟨g, 0, none⟩ = some (.int .i64 m) ∧ w'.cell? ⟨g, 1, none⟩ = some (.slice A n c)) ∧ (w'.cell? ⟨g', 0, none⟩ = some (.int .i64 m') ∧ w'.cell? ⟨g', 1, none⟩ = some (.slice A' n' c')) ∧ Below W.heap.size W w' :=
  ⟨box_in h hb, box_in h' hb, hb⟩
theorem box2_next {W w w' : World} {g g' : Nat} {m m' : Int} {A A' : Option Addr} {n c n' c' : Nat} {p q : Prop} (h : Box W g m A n c) (h' : Box W g' m' A' n' c') (hb : Below w.heap.size w w') (hs : p ∧ q ∧ Below W.heap.size W w) :
    (w'.cell? ⟨g, 0, none⟩ = some (.int .i64 m) ∧ w'.cell? ⟨g, 1, none⟩ = some (.slice A n c)) ∧ (w'.cell? ⟨g', 0, none⟩ = some (.int .i64 m') ∧ w'.cell? ⟨g', 1, none⟩ = some (.slice A' n' c')) ∧ Below W.heap.size W w' :=
  box2_in h h' (hs.2.2.trans (hb.mono hs.2.2.size))
theorem box1_in {W w' : World} {g : Nat} {m : Int} {A : Option Addr} {n c : Nat} (h : Box W g m A n c) (hb : Below W.heap.size W w') :
    (w'.cell? ⟨g, 0, none⟩ = some (.int .i64 m) ∧ w'.cell? ⟨g, 1, none⟩ = some (.slice A n c)) ∧ Below W.heap.size W w' := ⟨box_in h hb, hb⟩
theorem box1_next {W w w' : World} {g : Nat} {m : Int} {A : Option Addr} {n c : Nat} {p : Prop} (h : Box W g m A n c) (hb : Below w.heap.size w w') (hs : p ∧ Below W.heap.size W w) :
    (w'.cell? ⟨g, 0, none⟩ = some (.int .i64 m) ∧ w'.cell? ⟨g, 1, none⟩ = some (.slice A n c)) ∧ Below W.heap.size W w' := box1_in h (hs.2.trans (hb.mono hs.2.size))
theorem box_call {w w' : World} {g : Nat} {m : Int} {A : Option Addr} {n c : Nat} (hb : Below w.heap.size w w') (h : w.cell? ⟨g, 0, none⟩ = some (.int .i64 m) ∧ w.cell? ⟨g, 1, none⟩ = some (.slice A n c) ∧ g < w.heap.size) :
    w'.cell? ⟨g, 0, none⟩ = some (.int .i64 m) ∧ w'.cell? ⟨g, 1, none⟩ = some (.slice A n c) ∧ g < w'.heap.size := Box.keep (show Box w g m A n c from h) hb
theorem box_store {w : World} {g b : Nat} {m : Int} {A : Option Addr} {n c : Nat} {x y : Value} (hne : b ≠ g) (h : w.cell? ⟨g, 0, none⟩ = some (.int .i64 m) ∧ w.cell? ⟨g, 1, none⟩ = some (.slice A n c) ∧ g < w.heap.size) :
    ((w.setCell ⟨b, 0, none⟩ x).setCell ⟨b, 1, none⟩ y).cell? ⟨g, 0, none⟩ = some (.int .i64 m) ∧ ((w.setCell ⟨b, 0, none⟩ x).setCell ⟨b, 1, none⟩ y).cell? ⟨g, 1, none⟩ = some (.slice A n c) ∧ g < ((w.setCell ⟨b, 0, none⟩ x).setCell ⟨b, 1, none⟩ y).heap.size := by
  refine ⟨?_, ?_, by simpa [World.setCell] using h.2.2⟩
  · rw [World.cell?_setCell_other _ _ _ _ (by intro e; injection e with e; exact hne e), World.cell?_setCell_other _ _ _ _ (by intro e; injection e with e; exact hne e)]; exact h.1
  · rw [World.cell?_setCell_other _ _ _ _ (by intro e; injection e with e; exact hne e), World.cell?_setCell_other _ _ _ _ (by intro e; injection e with e; exact hne e)]; exact h.2.1
theorem snd_of {p q : Prop} (h : p ∧ q) : q := h.2
theorem below_drew0 (w : World) : Below w.heap.size w w.drew := (Below.refl _ _).drew
theorem box2_new (w : World) (m m' : Int) (A A' : Option Addr) (n c n' c' : Nat) (W : World) (hW : ((w.alloc (.cells #[.int .i64 m, .slice A n c] 71)).alloc (.cells #[.int .i64 m', .slice A' n' c'] 71)) = W) :
    Box W w.heap.size m A n c ∧ Box W (w.heap.size + 1) m' A' n' c' ∧ Below w.heap.size w W := by
  subst hW
  have h1 := (Box.new w m A n c).keep (below_one _ (.cells #[.int .i64 m', .slice A' n' c'] 71))
  have h2 := Box.new (w.alloc (.cells #[.int .i64 m, .slice A n c] 71)) m' A' n' c'
  simp only [World.size_alloc] at h2
  exact ⟨h1, h2, below_alloc _ (below_one _ _)⟩
theorem alike_len (n n' : Nat) : ((n : Int) - 1 == (n' : Int) - 1) = decide (n = n') := by
  by_cases h : n = n'
  · subst h; simp
  · have : ¬ ((n : Int) - 1 = (n' : Int) - 1) := by omega
    simp [this, h]

set_option maxHeartbeats 1000000 in
theorem isAlike_any (m m' : Int) (A A' : Option Addr) (n c n' c' : Nat) (w : World) (hn : n ≤ 9223372036854775807) (hn' : n' ≤ 9223372036854775807) :
    Calls Tryz.prog 104 #[.agg #[.int .i64 m, .slice A n c], .agg #[.int .i64 m', .slice A' n' c']] w fun e w' => e = .returned (.bool (decide (m = m') && decide (n = n'))) ∧ Below w.heap.size w w' := by
  obtain ⟨W, hW⟩ : ∃ W, ((w.alloc (.cells #[.int .i64 m, .slice A n c] 71)).alloc (.cells #[.int .i64 m', .slice A' n' c'] 71)) = W := ⟨_, rfl⟩
  obtain ⟨b1, b2, hwb⟩ := box2_new w m m' A A' n c n' c' W hW
  have HB := Lib.hid hwb
  have HW := Lib.hid hW
  have B1 := Lib.hid b1
  have B2 := Lib.hid b2
  clear hwb hW b1 b2
  by_cases hm : m = m'
  · subst hm
    go_enter Tryz.func104, Tryz.ntmps104
    go_wp2
    rw [HW.out]
    go_region_held3 (fun w' => (w'.cell? ⟨w.heap.size, 0, none⟩ = some (.int .i64 m) ∧ w'.cell? ⟨w.heap.size, 1, none⟩ = some (.slice A n c)) ∧ (w'.cell? ⟨w.heap.size + 1, 0, none⟩ = some (.int .i64 m) ∧ w'.cell? ⟨w.heap.size + 1, 1, none⟩ = some (.slice A' n' c')) ∧ Below W.heap.size W w') (first | exact box2_in B1.out B2.out (below_drew0 _) | exact box2_next B1.out B2.out (by assumption) (by assumption)) (first
      | (go_at_call 44; refine (degree_any _ _ _ _ _ (by assumption)).mono ?_; rintro e1 w1 ⟨rfl, hb1⟩))
    all_goals go_wp2
    all_goals go_ret
    all_goals exact ⟨ret_bool (by show (((n : Int) - 1 == (n' : Int) - 1)) = _; rw [alike_len]; simp), HB.out.trans ((box2_next B1.out B2.out (Below.refl _ _) (by assumption)).2.2.mono HB.out.size)⟩
  · obtain ⟨n1, n2⟩ : (m == m') = false ∧ decide (m = m') = false := ⟨by simpa using hm, by simpa using hm⟩
    have N2 := Lib.hid n2
    clear n2
    obtain ⟨x1, x2, _⟩ := B1.out
    obtain ⟨y1, y2, _⟩ := B2.out
    go_enter Tryz.func104, Tryz.ntmps104
    go_wp2
    rw [HW.out]
    go_quiet (fail)
    go_wp2
    go_ret
    exact ⟨ret_bool (by rw [N2.out]; rfl), below_drewN HB.out _⟩

/-- a list of coefficients with a modulus is a series -/
def isS (m : Int) (l : List Int) : Bool := inB ((l.length : Int) - 1) 1 10 && codeN m l == 0
theorem isS_iff {m : Int} {l : List Int} (h : isS m l = true) : 2 ≤ l.length ∧ l.length ≤ 11 ∧ codeN m l = 0 := by
  unfold isS at h
  rw [Bool.and_eq_true, inB_iff] at h
  refine ⟨by omega, by omega, by simpa using h.2⟩
set_option maxHeartbeats 1000000 in
theorem IsSeries_any (m : Int) (A : Option Addr) (c : Nat) (l : List Int) (w : World) (hl : l.length ≤ 9223372036854775807) (hr : RI w A l) :
    Calls Tryz.prog 103 #[.agg #[.int .i64 m, .slice A l.length c]] w fun e w' => e = .returned (.bool (isS m l)) ∧ Below w.heap.size w w' := by
  have HR := Lib.hid hr
  clear hr
  by_cases h1 : inB ((l.length : Int) - 1) 1 10 = true
  · have HF := Lib.hid (show isS m l = (codeN m l == 0) by unfold isS; rw [h1]; rfl)
    go_enter Tryz.func103, Tryz.ntmps103
    go_wp2_with (first
      | (go_at_call 44; refine (degree_any _ _ _ _ _ hl).mono ?_; rintro e w1 ⟨rfl, hb1⟩; have hb2 := (below_one w (.cells #[.int .i64 m, .slice A l.length c] 71)).trans (hb1.mono (by simp)); obtain ⟨x1, x2⟩ := box_in (Box.new w m A l.length c) hb1)
      | (go_at_call 47; refine (isWithin_any _ _ _ _).mono ?_; rintro e w' ⟨rfl, rfl⟩)
      | (go_at_call 82; refine (codeOfNumbers_any _ _ _ l _ hl (HR.out.below hb2)).mono ?_; rintro e w' ⟨rfl, rfl⟩))
    go_ret
    exact ⟨ret_bool HF.out.symm, by assumption⟩
  · have h1' : inB ((l.length : Int) - 1) 1 10 = false := by simpa using h1
    have HF := Lib.hid (show isS m l = false by unfold isS; rw [h1']; rfl)
    clear h1
    go_enter Tryz.func103, Tryz.ntmps103
    go_wp2_with (first
      | (go_at_call 44; refine (degree_any _ _ _ _ _ hl).mono ?_; rintro e w1 ⟨rfl, hb1⟩; have hb2 := (below_one w (.cells #[.int .i64 m, .slice A l.length c] 71)).trans (hb1.mono (by simp)))
      | (go_at_call 47; refine (isWithin_any _ _ _ _).mono ?_; rintro e w' ⟨rfl, rfl⟩))
    go_ret
    exact ⟨ret_bool HF.out.symm, by assumption⟩
end Go.Proofs.YtfhdgcndiljjcaaGreatDoor

/- Contracts of the codes of series: one, two, one with a number. -/
namespace Go.Proofs.YtfhdgcndiljjcaaGreatDoor
open Go.RowKit Go.WideShapes Go.ChangeShapes Go.ChangeAt

/-- a list's coefficients as numbers -/
def isC (m : Int) (l : List Int) : Bool := isS m l && (l[0]?.getD 0 == 0)
/-- the code of one series, of two -/
def code1 (m : Int) (l : List Int) : Int := if isS m l = true then 0 else 1
def code2 (m : Int) (l : List Int) (m' : Int) (l' : List Int) : Int := if isS m l = true ∧ isS m' l' = true then (if m = m' ∧ l.length = l'.length then 0 else 2) else 1

theorem var_in {w w' : World} {g : Nat} {m m' : Int} {A A' : Option Addr} {n c n' c' : Nat} (hx : Box w g m A n c) (hb : Below w.heap.size w w') :
    ∃ W, (w'.alloc (.cells #[.int .i64 m', .slice A' n' c'] 71)) = W ∧ Box W w'.heap.size m' A' n' c' ∧ Box W g m A n c ∧ Below w.heap.size w W :=
  ⟨_, rfl, Box.new _ _ _ _ _, hx.keep (below_alloc _ hb), below_alloc _ hb⟩

set_option maxHeartbeats 2000000 in
theorem codeOfSeries1_any (g : Nat) (m : Int) (A : Option Addr) (c : Nat) (l : List Int) (w : World) (hl : l.length ≤ 9223372036854775807) (hr : RI w A l) (hx : Box w g m A l.length c) :
    Calls Tryz.prog 80 #[.slice (some ⟨g, 0, none⟩) 1 1] w fun e w' => e = .returned (.int .i64 (code1 m l)) ∧ Below w.heap.size w w' := by
  have HR := Lib.hid hr
  have HX := Lib.hid hx
  obtain ⟨x1, x2, x3⟩ := hx
  clear hr x3
  by_cases h1 : isS m l = true
  · have HF := Lib.hid (show code1 m l = 0 by unfold code1; rw [if_pos h1])
    go_enter Tryz.func80, Tryz.ntmps80
    go_wp2
    refine wp_loop_rounds 2 ?_
    rw [rounds_succ]
    go_wp2_with fail
    refine (IsSeries_any _ _ _ l _ hl (HR.out.below (below_one _ _))).mono ?_
    rintro e w1 ⟨rfl, hb1⟩
    have hb2 := (below_one w (.cells #[.int .i64 m, .slice A l.length c] 71)).trans (hb1.mono (by simp))
    obtain ⟨y1, y2, y3⟩ := HX.out.keep hb2
    go_wp2
    rw [rounds_succ]
    go_wp2
    refine wp_loop_rounds 2 ?_
    rw [rounds_succ]
    go_wp2
    obtain ⟨W, hW, b1, b2, hwb⟩ := var_in (m' := m) (A' := A) (n' := l.length) (c' := c) HX.out hb2
    rw [hW]
    have B1 := Lib.hid b1
    have B2 := Lib.hid b2
    have HB := Lib.hid hwb
    clear hW b1 b2 hwb hb1 hb2
    go_region_held3 (fun w' => (w'.cell? ⟨w1.heap.size, 0, none⟩ = some (.int .i64 m) ∧ w'.cell? ⟨w1.heap.size, 1, none⟩ = some (.slice A l.length c)) ∧ (w'.cell? ⟨g, 0, none⟩ = some (.int .i64 m) ∧ w'.cell? ⟨g, 1, none⟩ = some (.slice A l.length c)) ∧ Below W.heap.size W w') (first | exact box2_in B1.out B2.out (below_drew0 _) | exact box2_next B1.out B2.out (by assumption) (by assumption)) (first
      | (go_at_call 104; refine (isAlike_any _ _ _ _ _ _ _ _ _ hl hl).mono ?_; rintro e1 w2 ⟨rfl, hb3⟩))
    all_goals
      go_wp2
      rw [rounds_succ]
      go_wp2
      go_ret
      exact ⟨ret_int HF.out.symm, HB.out.trans ((box2_next B1.out B2.out (Below.refl _ _) (by assumption)).2.2.mono HB.out.size)⟩
  · have h1' : isS m l = false := by simpa using h1
    have HF := Lib.hid (show code1 m l = 1 by unfold code1; rw [if_neg h1])
    clear h1
    go_enter Tryz.func80, Tryz.ntmps80
    go_wp2
    refine wp_loop_rounds 2 ?_
    rw [rounds_succ]
    go_wp2_with (first
      | (go_at_call 103; refine (IsSeries_any _ _ _ l _ hl (HR.out.below (below_one _ _))).mono ?_; rintro e w1 ⟨rfl, hb1⟩; have hb2 := (below_one w (.cells #[.int .i64 m, .slice A l.length c] 71)).trans (hb1.mono (by simp))))
    go_ret
    exact ⟨ret_int HF.out.symm, by assumption⟩

/-- a list of two series in block g -/
def Box4 (w : World) (g : Nat) (m : Int) (A : Option Addr) (n c : Nat) (m' : Int) (A' : Option Addr) (n' c' : Nat) : Prop :=
  Box w g m A n c ∧ w.cell? ⟨g, 2, none⟩ = some (.int .i64 m') ∧ w.cell? ⟨g, 3, none⟩ = some (.slice A' n' c')
theorem Box4.keep {w w' : World} {g : Nat} {m : Int} {A : Option Addr} {n c : Nat} {m' : Int} {A' : Option Addr} {n' c' : Nat} (h : Box4 w g m A n c m' A' n' c') (hb : Below w.heap.size w w') : Box4 w' g m A n c m' A' n' c' :=
  ⟨h.1.keep hb, (hb.cell (p := ⟨g, 2, none⟩) h.1.2.2).trans h.2.1, (hb.cell (p := ⟨g, 3, none⟩) h.1.2.2).trans h.2.2⟩
theorem Box4.new (w : World) (m : Int) (A : Option Addr) (n c : Nat) (m' : Int) (A' : Option Addr) (n' c' : Nat) : Box4 (w.alloc (.cells #[.int .i64 m, .slice A n c, .int .i64 m', .slice A' n' c'] 71)) w.heap.size m A n c m' A' n' c' := by
  refine ⟨⟨?_, ?_, by simp⟩, ?_, ?_⟩ <;> rw [World.cell?_alloc_at _ _ _ _ rfl] <;> rfl

set_option maxHeartbeats 4000000 in
theorem codeOfSeries2_any (g : Nat) (m : Int) (A : Option Addr) (c : Nat) (l : List Int) (m' : Int) (A' : Option Addr) (c' : Nat) (l' : List Int) (w : World) (hl : l.length ≤ 9223372036854775807) (hl' : l'.length ≤ 9223372036854775807)
    (hr : RI w A l) (hr' : RI w A' l') (hx : Box4 w g m A l.length c m' A' l'.length c') :
    Calls Tryz.prog 80 #[.slice (some ⟨g, 0, none⟩) 2 2] w fun e w' => e = .returned (.int .i64 (code2 m l m' l')) ∧ Below w.heap.size w w' := by
  have HR := Lib.hid hr
  have HR' := Lib.hid hr'
  have HX := Lib.hid hx
  obtain ⟨⟨x1, x2, _⟩, x3, x4⟩ := hx
  clear hr hr'
  by_cases h1 : isS m l = true
  · by_cases h2 : isS m' l' = true
    · have hal : ∀ b : Bool, (decide (m' = m) && decide (l'.length = l.length)) = b → (code2 m l m' l' = if b then 0 else 2) := by
        intro b hb
        subst hb
        unfold code2
        rw [if_pos ⟨h1, h2⟩]
        have q1 : (m = m' ∧ l.length = l'.length) ↔ ((decide (m' = m) && decide (l'.length = l.length)) = true) := by
          rw [Bool.and_eq_true, decide_eq_true_iff, decide_eq_true_iff]
          exact ⟨fun h => ⟨h.1.symm, h.2.symm⟩, fun h => ⟨h.1.symm, h.2.symm⟩⟩
        by_cases q : m = m' ∧ l.length = l'.length
        · rw [if_pos q, q1.1 q]; rfl
        · rw [if_neg q, Bool.eq_false_iff.2 (fun h => q (q1.2 h))]; rfl
      have HAL := Lib.hid hal
      clear hal
      go_enter Tryz.func80, Tryz.ntmps80
      go_wp2
      refine wp_loop_rounds 3 ?_
      rw [rounds_succ]
      go_wp2_with fail
      refine (IsSeries_any _ _ _ l _ hl (HR.out.below (below_one _ _))).mono ?_
      rintro e w1 ⟨rfl, hb1⟩
      have hb2 := (below_one w (.cells #[.int .i64 m, .slice A l.length c] 71)).trans (hb1.mono (by simp))
      obtain ⟨⟨y1, y2, _⟩, y3, y4⟩ := HX.out.keep hb2
      go_wp2
      rw [rounds_succ]
      go_wp2_with fail
      refine (IsSeries_any _ _ _ l' _ hl' (HR'.out.below (below_alloc _ hb2))).mono ?_
      rintro e w2 ⟨rfl, hb3⟩
      have hb4 := (below_alloc (.cells #[.int .i64 m', .slice A' l'.length c'] 71) hb2).trans (hb3.mono (by have := hb2.size; simp; omega))
      clear y1 y2 y3 y4 hb1 hb2 hb3
      obtain ⟨⟨y1, y2, _⟩, y3, y4⟩ := HX.out.keep hb4
      go_wp2
      rw [rounds_succ]
      go_wp2
      refine wp_loop_rounds 3 ?_
      rw [rounds_succ]
      go_wp2
      obtain ⟨W, hW, b1, b2, hwb⟩ := var_in (m' := m) (A' := A) (n' := l.length) (c' := c) HX.out.1 hb4
      rw [hW]
      have B1 := Lib.hid b1
      have B2 := Lib.hid b2
      have HB := Lib.hid hwb
      clear hW b1 b2 hwb
      go_region_held3 (fun w' => (w'.cell? ⟨w2.heap.size, 0, none⟩ = some (.int .i64 m) ∧ w'.cell? ⟨w2.heap.size, 1, none⟩ = some (.slice A l.length c)) ∧ (w'.cell? ⟨g, 0, none⟩ = some (.int .i64 m) ∧ w'.cell? ⟨g, 1, none⟩ = some (.slice A l.length c)) ∧ Below W.heap.size W w') (first | exact box2_in B1.out B2.out (below_drew0 _) | exact box2_next B1.out B2.out (by assumption) (by assumption)) (first
        | (go_at_call 104; refine (isAlike_any _ _ _ _ _ _ _ _ _ hl hl).mono ?_; rintro e1 w3 ⟨rfl, hb5⟩))
      have hb6 : Below w.heap.size w w3 := HB.out.trans ((box2_next B1.out B2.out (Below.refl _ _) (by assumption)).2.2.mono HB.out.size)
      clear y1 y2 y3 y4
      obtain ⟨⟨y1, y2, _⟩, y3, y4⟩ := HX.out.keep hb6
      clear B1 B2 HB hb5
      go_wp2
      rw [rounds_succ]
      go_wp2
      obtain ⟨W', hW, b1, b2, hwb⟩ := var_in (m' := m') (A' := A') (n' := l'.length) (c' := c') HX.out.1 hb6
      rw [hW]
      have B1 := Lib.hid b1
      have B2 := Lib.hid b2
      have HB := Lib.hid hwb
      clear hW b1 b2 hwb
      obtain ⟨q, hq⟩ : ∃ q, (decide (m' = m) && decide (l'.length = l.length)) = q := ⟨_, rfl⟩
      have HC := Lib.hid (HAL.out q hq)
      have HQ : Hid (∀ W0 : World, Calls Tryz.prog 104 #[.agg #[.int .i64 m', .slice A' l'.length c'], .agg #[.int .i64 m, .slice A l.length c]] W0 fun e w' => e = .returned (.bool q) ∧ Below W0.heap.size W0 w') :=
        Lib.hid (fun W0 => by have := isAlike_any m' m A' A l'.length c' l.length c W0 hl' hl; rw [hq] at this; exact this)
      clear hq HAL
      cases q
      all_goals
        go_region_held3 (fun w' => (w'.cell? ⟨w3.heap.size, 0, none⟩ = some (.int .i64 m') ∧ w'.cell? ⟨w3.heap.size, 1, none⟩ = some (.slice A' l'.length c')) ∧ (w'.cell? ⟨g, 0, none⟩ = some (.int .i64 m) ∧ w'.cell? ⟨g, 1, none⟩ = some (.slice A l.length c)) ∧ Below W'.heap.size W' w') (first | exact box2_in B1.out B2.out (below_drew0 _) | exact box2_next B1.out B2.out (by assumption) (by assumption)) (first
          | (go_at_call 104; refine (HQ.out _).mono ?_; rintro e1 w4 ⟨rfl, hb7⟩))
        have hb8 : Below w.heap.size w w4 := HB.out.trans ((box2_next B1.out B2.out (Below.refl _ _) (by assumption)).2.2.mono HB.out.size)
        clear B1 B2 HB hb7 y1 y2 y3 y4
        go_wp2
        first
          | (go_ret; exact ⟨ret_int HC.out.symm, hb8⟩)
          | (rw [rounds_succ]; go_wp2; go_ret; exact ⟨ret_int HC.out.symm, hb8⟩)
    · have h2' : isS m' l' = false := by simpa using h2
      have HF := Lib.hid (show code2 m l m' l' = 1 by unfold code2; rw [if_neg (fun h => h2 h.2)])
      clear h2
      go_enter Tryz.func80, Tryz.ntmps80
      go_wp2
      refine wp_loop_rounds 3 ?_
      rw [rounds_succ]
      go_wp2_with fail
      refine (IsSeries_any _ _ _ l _ hl (HR.out.below (below_one _ _))).mono ?_
      rintro e w1 ⟨rfl, hb1⟩
      have hb2 := (below_one w (.cells #[.int .i64 m, .slice A l.length c] 71)).trans (hb1.mono (by simp))
      obtain ⟨⟨y1, y2, _⟩, y3, y4⟩ := HX.out.keep hb2
      go_wp2
      rw [rounds_succ]
      go_wp2_with fail
      refine (IsSeries_any _ _ _ l' _ hl' (HR'.out.below (below_alloc _ hb2))).mono ?_
      rintro e w2 ⟨rfl, hb3⟩
      have hb4 := (below_alloc (.cells #[.int .i64 m', .slice A' l'.length c'] 71) hb2).trans (hb3.mono (by have := hb2.size; simp; omega))
      go_wp2
      go_ret
      exact ⟨ret_int HF.out.symm, hb4⟩
  · have h1' : isS m l = false := by simpa using h1
    have HF := Lib.hid (show code2 m l m' l' = 1 by unfold code2; rw [if_neg (fun h => h1 h.1)])
    clear h1
    go_enter Tryz.func80, Tryz.ntmps80
    go_wp2
    refine wp_loop_rounds 3 ?_
    rw [rounds_succ]
    go_wp2_with fail
    refine (IsSeries_any _ _ _ l _ hl (HR.out.below (below_one _ _))).mono ?_
    rintro e w1 ⟨rfl, hb1⟩
    have hb2 := (below_one w (.cells #[.int .i64 m, .slice A l.length c] 71)).trans (hb1.mono (by simp))
    go_wp2
    go_ret
    exact ⟨ret_int HF.out.symm, hb2⟩
end Go.Proofs.YtfhdgcndiljjcaaGreatDoor

/- Contract of seriesOf: the list of the remainders of what a function value tells. -/
namespace Go.Proofs.YtfhdgcndiljjcaaGreatDoor
open Go.RowKit Go.WideShapes Go.ChangeShapes Go.ChangeAt

theorem cut_step (m : Int) (d : Nat) (f : Nat → Int) (k : Nat) (h : k ≤ d) : ((Ser.cut m d f).take k ++ List.replicate (d + 1 - k) 0).set k (f k % m) = (Ser.cut m d f).take (k + 1) ++ List.replicate (d + 1 - (k + 1)) 0 := by
  have hl := Ser.cut_length m d f
  rw [Ser.cut_take_succ m d f k h, List.set_append_right _ _ (by simp; omega), List.length_take, hl, Nat.min_eq_left (by omega), Nat.sub_self, show d + 1 - k = (d + 1 - (k + 1)) + 1 by omega, List.replicate_succ, List.set_cons_zero, List.append_assoc]
  rfl

/-- a function with a Go body is entered, called by whatever value -/
theorem enters_fn {f : FuncId} {fn : Func} {c : Code} (h : Tryz.prog.funcs[f]? = some fn) (hn : fn.name ≠ "runtime.NumGoroutine") (hb : fn.body = some c) (args : Array Value) (W : World) :
    (callFunc f args).run Tryz.prog W = .ok (.enter f args) W := by
  simp [callFunc, h, hn, hb]

/-- block g holds a series' variable -/
def Var2 (w : World) (g : Nat) (x y : Value) : Prop := w.heap[g]? = some (.cells #[x, y] 71 (0, 0))
theorem Var2.new (w : World) (x y : Value) : Var2 (w.alloc (.cells #[x, y] 71)) w.heap.size x y := heap_alloc_new w _
theorem Var2.lt {w : World} {g : Nat} {x y : Value} (h : Var2 w g x y) : g < w.heap.size := (Array.getElem?_eq_some_iff.1 h).1
theorem Var2.keep {w w' : World} {g : Nat} {x y : Value} (h : Var2 w g x y) (hb : Below w.heap.size w w') : Var2 w' g x y := (hb.block g h.lt).trans h
theorem Var2.far {w : World} {g : Nat} {x y : Value} (h : Var2 w g x y) (b i : Nat) (u : Value) (hne : b ≠ g) : Var2 (w.setCell ⟨b, i, none⟩ u) g x y :=
  (Below.heap_setCell w ⟨b, i, none⟩ u g (fun e => hne e.symm)).trans h
theorem Var2.c0 {w : World} {g : Nat} {x y : Value} (h : Var2 w g x y) : w.cell? ⟨g, 0, none⟩ = some x := by unfold Var2 at h; simp [World.cell?, h]
theorem Var2.c1 {w : World} {g : Nat} {x y : Value} (h : Var2 w g x y) : w.cell? ⟨g, 1, none⟩ = some y := by unfold Var2 at h; simp [World.cell?, h]
theorem Var2.fz {w : World} {g : Nat} {x y : Value} (h : Var2 w g x y) (k : Nat) : w.frozen? ⟨g, k, none⟩ = false := by unfold Var2 at h; simp [World.frozen?, h]
theorem Var2.set0 {w : World} {g : Nat} {x y : Value} (h : Var2 w g x y) (u : Value) : Var2 (w.setCell ⟨g, 0, none⟩ u) g u y := by
  unfold Var2 at h ⊢; simp [World.setCell, Array.getElem?_modify, h]
theorem Var2.set1 {w : World} {g : Nat} {x y : Value} (h : Var2 w g x y) (u : Value) : Var2 (w.setCell ⟨g, 1, none⟩ u) g x u := by
  unfold Var2 at h ⊢; simp [World.setCell, Array.getElem?_modify, h]
/-- both cells stored -/
def set2 (w : World) (g : Nat) (x y : Value) : World := (w.setCell ⟨g, 0, none⟩ x).setCell ⟨g, 1, none⟩ y
theorem Var2.set2 {w : World} {g : Nat} {x y : Value} (h : Var2 w g x y) (x' y' : Value) : Var2 (set2 w g x' y') g x' y' := (h.set0 x').set1 y'
theorem below_set2 {B : Nat} {w w' : World} {g : Nat} (hb : Below B w w') (hg : B ≤ g) (x y : Value) : Below B w (set2 w' g x y) := (hb.setCell hg x).setCell hg y
theorem grown_set2 (w : World) (g : Nat) (x y : Value) : w.grownBy (set2 w g x y) (some g) := grown_trans (grown_setCell w g 0 x) (grown_setCell _ g 1 y)

/-- a result is stored into its variable: what the return reads -/
theorem fin_var {w w2 : World} {g base : Nat} {v x y : Value} {l : List Int} (hv : Var2 w2 g x y) (ho : OwnI w2 base v l) (hg : g < base) (hwg : w.heap.size ≤ g) (hb : Below w.heap.size w w2) (p q : Value) :
    ((w2.setCell ⟨g, 0, none⟩ p).setCell ⟨g, 1, none⟩ q).cell? ⟨g, 0, none⟩ = some p ∧ ((w2.setCell ⟨g, 0, none⟩ p).setCell ⟨g, 1, none⟩ q).cell? ⟨g, 1, none⟩ = some q ∧
    OwnI ((w2.setCell ⟨g, 0, none⟩ p).setCell ⟨g, 1, none⟩ q) w.heap.size v l ∧ Below w.heap.size w ((w2.setCell ⟨g, 0, none⟩ p).setCell ⟨g, 1, none⟩ q) := by
  have h := hv.set2 p q
  refine ⟨h.c0, h.c1, OwnI.more (base := base) (ho.other (grown_set2 w2 g p q) ?_) (by omega), below_set2 hb hwg p q⟩
  rcases hc : v.ownBlock with _ | b
  · exact .inl rfl
  · refine .inr (fun e => ?_)
    injection e with e
    have := (ho.lt b hc).1
    omega

set_option maxHeartbeats 2000000 in
set_option maxRecDepth 100000 in
theorem seriesOf_any (m : Int) (d fn : Nat) (cap : Array Value) (f : Nat → Int) (w : World) (h1 : 1 ≤ m) (h2 : m ≤ 10000) (hd : d ≤ 1000) (hlo : ∀ n, n ≤ d → -1000000000000 ≤ f n ∧ f n ≤ 1000000000000)
    (hen : ∀ (args : Array Value) (W : World), (callFunc fn args).run Tryz.prog W = .ok (.enter fn args) W)
    (hf : ∀ (n : Nat) (W : World), n ≤ d → Below w.heap.size w W → Calls Tryz.prog fn (#[.int .i64 n] ++ cap) W fun e w' => e = .returned (.int .i64 (f n)) ∧ Below W.heap.size W w') :
    Calls Tryz.prog 99 #[.int .i64 m, .int .i64 d, .func (.func fn) #[] cap] w fun e w' => ∃ v, e = .returned (.agg #[.int .i64 m, v]) ∧ OwnI w' w.heap.size v (Ser.cut m d f) ∧ Below w.heap.size w w' := by
  have HF := Lib.hid hf
  have HL := Lib.hid hlo
  clear hf hlo
  have hmk : ∀ W : World, (Instr.makeSlice 32 (.int .i64 ((d : Int) + 1)) (.int .i64 ((d : Int) + 1))).run Tryz.prog W = .ok (.slice (some ⟨W.heap.size, 0, none⟩) (d + 1) (d + 1)) (W.alloc (.cells (madeCells #[.int .i64 0] (d + 1)) 2)) := by
    intro W
    have := run_make_row' (P := Tryz.prog) 32 2 (.int .i64 0) 8 Tryz.underlying32 info64 rfl .i64 .i64 (d + 1) (by omega) (by omega) W
    rwa [show ((d + 1 : Nat) : Int) = (d : Int) + 1 by omega] at this
  go_enter Tryz.func99, Tryz.ntmps99
  go_wp2
  go_loopw [14] (fun i wr => ∃ k : Nat, k ≤ d + 1 ∧ i = .int .i64 k ∧ OwnI wr (w.heap.size + 1) (.slice (some ⟨w.heap.size + 1, 0, none⟩) (d + 1) (d + 1)) ((Ser.cut m d f).take k ++ List.replicate (d + 1 - k) 0) ∧ Var2 wr w.heap.size (.int .i64 0) (.slice none 0 0) ∧ Below w.heap.size w wr) (fun i _ => d + 1 - (intOf i).toNat)
  case atStart =>
    refine ⟨0, Nat.zero_le _, rfl, ?_, (Var2.new w _ _).keep (below_one _ _), below_alloc _ (below_one _ _)⟩
    have h := OwnI.made (w.alloc (.cells #[.int .i64 0, .slice none 0 0] 71)) (d + 1) (by unfold maxLen; omega)
    simpa using h
  case round =>
    clear hmk
    obtain ⟨k, hk, rfl, hown, hvar, hbel⟩ := hrel
    have HV := Lib.hid hvar
    have HB := Lib.hid hbel
    have HO := Lib.hid hown
    clear hown hbel hvar
    by_cases hlt : k < d + 1
    · obtain ⟨q1, q2⟩ := HL.out k (by omega)
      obtain ⟨F, hF⟩ : ∃ F, f k = F := ⟨_, rfl⟩
      have HC := HF.out k wr (by omega) HB.out
      rw [hF] at q1 q2 HC
      have HC' := Lib.hid HC
      have HFk := Lib.hid hF
      clear HC hF
      have hkd : (k : Int) < (d : Int) + 1 := by omega
      go_wp2_with fail
      refine HC'.out.mono ?_
      rintro e w1 ⟨rfl, hb1⟩
      have HO1 := Lib.hid (HO.out.keep hb1)
      have HV1 := Lib.hid (HV.out.keep hb1)
      obtain ⟨_, _, o3, o4⟩ := HO1.out.cells
      have hd1 := o3 k (by simp [Ser.cut_length]; omega)
      have hf1 := o4 k
      obtain ⟨y, hy⟩ : ∃ y, ((Ser.cut m d f).take k ++ List.replicate (d + 1 - k) 0)[k]?.getD 0 = y := ⟨_, rfl⟩
      rw [hy] at hd1
      have hs := HO1.out.set k (f k % m)
      rw [cut_step m d f k (by omega), HFk.out] at hs
      have HS := Lib.hid hs
      have HB1 := Lib.hid (HB.out.trans (hb1.mono HB.out.size))
      clear hy o3 o4 hs hb1
      go_wp2_with (first | (go_at_call 114; refine (remainder_any _ _ _ h1 h2 q1 q2).mono ?_; rintro e w' ⟨rfl, rfl⟩))
      go_roundw
      case rel => exact ⟨k + 1, by omega, by go_num, HS.out, HV1.out.far _ _ _ (by omega), HB1.out.setCell (by show w.heap.size ≤ w.heap.size + 1; omega) _⟩
      case measure => simp only [intOf]; omega
    · obtain rfl : k = d + 1 := by omega
      have ho := HO.out
      rw [Ser.cut_take_all, Nat.sub_self, List.replicate_zero, List.append_nil] at ho
      have HFin := Lib.hid ho
      clear ho
      have v0 := HV.out.c0
      have v1 := HV.out.c1
      have v2 := HV.out.fz 0
      have v3 := HV.out.fz 1
      obtain ⟨v4, v5⟩ : (set2 wr w.heap.size (.int .i64 m) (.slice (some ⟨w.heap.size + 1, 0, none⟩) (d + 1) (d + 1))).cell? ⟨w.heap.size, 0, none⟩ = some (.int .i64 m) ∧
        (set2 wr w.heap.size (.int .i64 m) (.slice (some ⟨w.heap.size + 1, 0, none⟩) (d + 1) (d + 1))).cell? ⟨w.heap.size, 1, none⟩ = some (.slice (some ⟨w.heap.size + 1, 0, none⟩) (d + 1) (d + 1)) := ⟨(HV.out.set2 _ _).c0, (HV.out.set2 _ _).c1⟩
      unfold set2 at v4 v5
      go_wp2
      refine bodyPost_ret (v := .agg #[.int .i64 m, .slice (some ⟨w.heap.size + 1, 0, none⟩) (d + 1) (d + 1)]) (by simp [results, Tryz.results99, go_sem, v4, v5]) rfl ⟨_, rfl, ?_, below_set2 HB.out (Nat.le_refl _) _ _⟩
      exact (HFin.out.other (grown_set2 wr w.heap.size _ _) (.inr (by simp [Value.ownBlock]))).more (by omega)
end Go.Proofs.YtfhdgcndiljjcaaGreatDoor

/- Contracts of the exact laws' helpers on series: size, copying, comparing, marking, looking at the marks. -/
namespace Go.Proofs.YtfhdgcndiljjcaaGreatDoor
open Go.RowKit Go.WideShapes Go.ChangeShapes Go.ChangeAt

theorem szInt64S_any (A : Option Addr) (n c : Nat) (left : Int) (w : World) (h1 : 0 ≤ left) (h2 : left ≤ 1048576) (hn : n ≤ 9223372036854775807) :
    Calls Tryz.prog 49 #[.slice A n c, .int .i64 left] w fun e w' => e = .returned (.int .i64 (if (n : Int) ≤ left then left - n else -1)) ∧ w = w' := by
  by_cases h : (n : Int) ≤ left
  · rw [if_pos h]
    go_enter Tryz.func49, Tryz.ntmps49
    go_wp2
    go_ret
    exact ⟨rfl, rfl⟩
  · rw [if_neg h]
    go_enter Tryz.func49, Tryz.ntmps49
    go_wp2
    go_ret
    exact ⟨rfl, rfl⟩

theorem Box.newT (t : TypeId) (w : World) (m : Int) (A : Option Addr) (n c : Nat) : Box (w.alloc (.cells #[.int .i64 m, .slice A n c] t)) w.heap.size m A n c := by
  refine ⟨?_, ?_, by simp⟩ <;> rw [World.cell?_alloc_at _ _ _ _ rfl] <;> rfl
theorem start1 (t : TypeId) (w : World) (m : Int) (A : Option Addr) (n c : Nat) : ∃ W, w.alloc (.cells #[.int .i64 m, .slice A n c] t) = W ∧ Box W w.heap.size m A n c ∧ Below w.heap.size w W :=
  ⟨_, rfl, Box.newT t w m A n c, below_one _ _⟩
theorem start2 (t : TypeId) (w : World) (m : Int) (A : Option Addr) (n c : Nat) (m' : Int) (A' : Option Addr) (n' c' : Nat) :
    ∃ W, (w.alloc (.cells #[.int .i64 m, .slice A n c] t)).alloc (.cells #[.int .i64 m', .slice A' n' c'] t) = W ∧ Box W w.heap.size m A n c ∧ Box W (w.heap.size + 1) m' A' n' c' ∧ Below w.heap.size w W := by
  refine ⟨_, rfl, (Box.newT t w m A n c).keep (below_one _ _), ?_, below_alloc _ (below_one _ _)⟩
  have := Box.newT t (w.alloc (.cells #[.int .i64 m, .slice A n c] t)) m' A' n' c'
  simpa using this

theorem box22_call {w w' : World} {g g' : Nat} {m m' : Int} {A A' : Option Addr} {n c n' c' : Nat} (hb : Below w.heap.size w w')
    (h : (w.cell? ⟨g, 0, none⟩ = some (.int .i64 m) ∧ w.cell? ⟨g, 1, none⟩ = some (.slice A n c) ∧ g < w.heap.size) ∧ (w.cell? ⟨g', 0, none⟩ = some (.int .i64 m') ∧ w.cell? ⟨g', 1, none⟩ = some (.slice A' n' c') ∧ g' < w.heap.size)) :
    (w'.cell? ⟨g, 0, none⟩ = some (.int .i64 m) ∧ w'.cell? ⟨g, 1, none⟩ = some (.slice A n c) ∧ g < w'.heap.size) ∧ (w'.cell? ⟨g', 0, none⟩ = some (.int .i64 m') ∧ w'.cell? ⟨g', 1, none⟩ = some (.slice A' n' c') ∧ g' < w'.heap.size) :=
  ⟨box_call hb h.1, box_call hb h.2⟩
theorem box22_store {w : World} {g g' b : Nat} {m m' : Int} {A A' : Option Addr} {n c n' c' : Nat} {x y : Value} (hne : b ≠ g) (hne' : b ≠ g')
    (h : (w.cell? ⟨g, 0, none⟩ = some (.int .i64 m) ∧ w.cell? ⟨g, 1, none⟩ = some (.slice A n c) ∧ g < w.heap.size) ∧ (w.cell? ⟨g', 0, none⟩ = some (.int .i64 m') ∧ w.cell? ⟨g', 1, none⟩ = some (.slice A' n' c') ∧ g' < w.heap.size)) :
    (((w.setCell ⟨b, 0, none⟩ x).setCell ⟨b, 1, none⟩ y).cell? ⟨g, 0, none⟩ = some (.int .i64 m) ∧ ((w.setCell ⟨b, 0, none⟩ x).setCell ⟨b, 1, none⟩ y).cell? ⟨g, 1, none⟩ = some (.slice A n c) ∧ g < ((w.setCell ⟨b, 0, none⟩ x).setCell ⟨b, 1, none⟩ y).heap.size) ∧
    (((w.setCell ⟨b, 0, none⟩ x).setCell ⟨b, 1, none⟩ y).cell? ⟨g', 0, none⟩ = some (.int .i64 m') ∧ ((w.setCell ⟨b, 0, none⟩ x).setCell ⟨b, 1, none⟩ y).cell? ⟨g', 1, none⟩ = some (.slice A' n' c') ∧ g' < ((w.setCell ⟨b, 0, none⟩ x).setCell ⟨b, 1, none⟩ y).heap.size) :=
  ⟨box_store hne h.1, box_store hne' h.2⟩

theorem Box.mark {w w' : World} {g : Nat} {m : Int} {A : Option Addr} {n c : Nat} {r : Option Nat} (hx : Box w g m A n c) (hg : w.grownBy w' r) (hne : r ≠ some g) : Box w' g m A n c := by
  obtain ⟨h1, h2, h3⟩ := hx
  have hb := hg.block g h3 (fun e => hne e.symm)
  refine ⟨?_, ?_, Nat.lt_of_lt_of_le h3 hg.size⟩
  · rw [← h1]; simp only [World.cell?, hb]
  · rw [← h2]; simp only [World.cell?, hb]

theorem below_step {w w1 w2 : World} (h : Below w.heap.size w w1) (hb : Below w1.heap.size w1 w2) : Below w.heap.size w w2 := h.trans (hb.mono h.size)
theorem grown_alloc (w : World) (o : Obj) (r : Option Nat) : w.grownBy (w.alloc o) r := ⟨rfl, rfl, rfl, by simp, fun k hk _ => (below_one w o).block k hk⟩

theorem trd {p q r : Prop} (h : p ∧ q ∧ r) : r := h.2.2
theorem box2_alloc {W w : World} {g g' : Nat} {m m' : Int} {A A' : Option Addr} {n c n' c' : Nat} {p q : Prop} {o : Obj} (h : Box W g m A n c) (h' : Box W g' m' A' n' c') (hs : p ∧ q ∧ Below W.heap.size W w) :
    ((w.alloc o).cell? ⟨g, 0, none⟩ = some (.int .i64 m) ∧ (w.alloc o).cell? ⟨g, 1, none⟩ = some (.slice A n c)) ∧ ((w.alloc o).cell? ⟨g', 0, none⟩ = some (.int .i64 m') ∧ (w.alloc o).cell? ⟨g', 1, none⟩ = some (.slice A' n' c')) ∧ Below W.heap.size W (w.alloc o) :=
  box2_in h h' (below_alloc _ hs.2.2)
theorem reg_end {wk cur wd : World} {p q : Prop} (hs : p ∧ q ∧ Below wk.heap.size wk cur) (hb : Below cur.heap.size cur wd) : Below wk.heap.size wk wd ∧ wk.heap.size ≤ cur.heap.size :=
  ⟨below_step hs.2.2 hb, hs.2.2.size⟩
theorem var_keep {cur wd : World} {g : Nat} {x y : Value} (h : Var2 cur g x y) (hb : Below cur.heap.size cur wd) : Var2 wd g x y ∧ g < cur.heap.size := ⟨h.keep hb, h.lt⟩
theorem var_at {w : World} {g k : Nat} {x y : Value} (_h : Var2 w g x y) (hk : k ≤ g) : k ≤ g := hk
/-- a result has been stored into a variable that lay there before the call -/
theorem reg_fin {wk cur wd : World} {g : Nat} {A : Option Addr} {n c : Nat} {l : List Int} {x y : Value} (hk : wk.heap.size ≤ g) (hgc : g < cur.heap.size) (hv : Var2 wd g x y) (ho : OwnI wd cur.heap.size (.slice A n c) l) (hb : Below wk.heap.size wk wd) (M : Int) :
    OwnI ((wd.setCell ⟨g, 0, none⟩ (.int .i64 M)).setCell ⟨g, 1, none⟩ (.slice A n c)) wk.heap.size (.slice A n c) l ∧ Box ((wd.setCell ⟨g, 0, none⟩ (.int .i64 M)).setCell ⟨g, 1, none⟩ (.slice A n c)) g M A n c ∧
    Below wk.heap.size wk ((wd.setCell ⟨g, 0, none⟩ (.int .i64 M)).setCell ⟨g, 1, none⟩ (.slice A n c)) := by
  obtain ⟨f0, f1, f2, f3⟩ := fin_var (w := wk) hv ho hgc hk hb (.int .i64 M) (.slice A n c)
  exact ⟨f2, ⟨f0, f1, by have := hv.lt; simpa [World.setCell] using this⟩, f3⟩
/-- a result has been stored into a new variable -/
theorem reg_new {wk cur wd : World} {A : Option Addr} {n c : Nat} {l : List Int} (hk : wk.heap.size ≤ cur.heap.size) (ho : OwnI wd cur.heap.size (.slice A n c) l) (hb : Below wk.heap.size wk wd) (M : Int) (t : TypeId) :
    OwnI (wd.alloc (.cells #[.int .i64 M, .slice A n c] t)) wk.heap.size (.slice A n c) l ∧ Box (wd.alloc (.cells #[.int .i64 M, .slice A n c] t)) wd.heap.size M A n c ∧ Below wk.heap.size wk (wd.alloc (.cells #[.int .i64 M, .slice A n c] t)) :=
  ⟨(ho.keep (below_one _ _)).more hk, Box.newT _ _ _ _ _ _, below_alloc _ hb⟩
end Go.Proofs.YtfhdgcndiljjcaaGreatDoor

/- What a list of a series is; the model's looks at series. -/
namespace Go.Proofs.YtfhdgcndiljjcaaGreatDoor
open Go.RowKit Go.WideShapes Go.ChangeShapes Go.ChangeAt

/-- a list of numbers of a series: what a closure reads of it -/
theorem RI.at {w : World} {A : Option Addr} {l : List Int} (h : RI w A l) (n : Nat) (hn : n < l.length) : ∃ b off, A = some ⟨b, off, none⟩ ∧ b < w.heap.size ∧ w.cell? ⟨b, off + n, none⟩ = some (.int .i64 (Ser.co l n)) := by
  obtain ⟨b, off, e, hlt, hc⟩ := h (by rintro rfl; simp at hn)
  exact ⟨b, off, e, hlt, hc n hn⟩

theorem degree_nat (m : Int) (A : Option Addr) (n c d : Nat) (w : World) (hn : n = d + 1) (hd : d ≤ 1000) :
    Calls Tryz.prog 44 #[.agg #[.int .i64 m, .slice A n c]] w fun e w' => e = .returned (.int .i64 (d : Int)) ∧ Below w.heap.size w w' :=
  (degree_any m A n c w (by omega)).mono fun e w' ⟨h1, h2⟩ => ⟨by rw [h1, show (n : Int) - 1 = (d : Int) by omega], h2⟩

/-- the world behind a box, a result's variable and the list of the one series -/
theorem pro0 (w : World) (m : Int) (A : Option Addr) (n c : Nat) : ∃ W, (w.alloc (.cells #[.int .i64 m, .slice A n c] 71)).alloc (.cells #[.int .i64 m, .slice A n c] 71) = W ∧ Box W w.heap.size m A n c ∧ Box W (w.heap.size + 1) m A n c ∧ Below w.heap.size w W :=
  ⟨_, rfl, box2_new w m m A A n c n c _ rfl⟩
theorem spro1 (w : World) (m : Int) (A : Option Addr) (n c : Nat) : ∃ W, (w.alloc (.cells #[.int .i64 m, .slice A n c] 71)).alloc (.cells #[.int .i64 0, .slice none 0 0] 71) = W ∧
    Box W w.heap.size m A n c ∧ Var2 W (w.heap.size + 1) (.int .i64 0) (.slice none 0 0) ∧ Below w.heap.size w W := by
  refine ⟨_, rfl, (Box.new w m A n c).keep (below_one _ _), ?_, below_alloc _ (below_one _ _)⟩
  have := Var2.new (w.alloc (.cells #[.int .i64 m, .slice A n c] 71)) (.int .i64 0) (.slice none 0 0)
  simpa using this
theorem pro1 (w : World) (m : Int) (A : Option Addr) (n c : Nat) : ∃ W, ((w.alloc (.cells #[.int .i64 m, .slice A n c] 71)).alloc (.cells #[.int .i64 0, .slice none 0 0] 71)).alloc (.cells #[.int .i64 m, .slice A n c] 71) = W ∧
    Box W w.heap.size m A n c ∧ Var2 W (w.heap.size + 1) (.int .i64 0) (.slice none 0 0) ∧ Box W (w.heap.size + 1 + 1) m A n c ∧ Below w.heap.size w W := by
  obtain ⟨W0, hW0, h1, h2, h3⟩ := spro1 w m A n c
  have hs : W0.heap.size = w.heap.size + 1 + 1 := by rw [← hW0]; simp
  rw [hW0]
  refine ⟨_, rfl, h1.keep (below_one _ _), h2.keep (below_one _ _), ?_, below_alloc _ h3⟩
  rw [← hs]
  exact Box.new _ _ _ _ _
theorem code1_zero {m : Int} {l : List Int} (h : code1 m l = 0) : isS m l = true := by
  unfold code1 at h
  by_cases h1 : isS m l = true
  · exact h1
  · rw [if_neg h1] at h; exact absurd h (by decide)
theorem code1_isS {m : Int} {l : List Int} (h : isS m l = true) : code1 m l = 0 := by unfold code1; rw [if_pos h]
theorem code1_no {m : Int} {l : List Int} (h : isS m l = false) : code1 m l = 1 := by unfold code1; rw [h]; rfl
theorem ret_i2 {a b c d : Int} (h : a = c) (k : b = d) : Ending.returned (.tuple #[.int .i64 a, .int .i64 b]) = .returned (.tuple #[.int .i64 c, .int .i64 d]) := by rw [h, k]

/-- m and l are a series of degree d -/
structure SerOk (m : Int) (d : Nat) (l : List Int) : Prop where
  m1 : 2 ≤ m
  m2 : m ≤ 10000
  d1 : 1 ≤ d
  d2 : d ≤ 10
  len : l.length = d + 1
  red : Ser.Red m l
theorem SerOk.cut {m : Int} {d : Nat} {l : List Int} (h : SerOk m d l) (f : Nat → Int) : SerOk m d (Ser.cut m d f) :=
  ⟨h.m1, h.m2, h.d1, h.d2, Ser.cut_length _ _ _, Ser.cut_red (by have := h.m1; omega) _ _⟩

theorem serOk_of {m : Int} {l : List Int} (h : isS m l = true) : ∃ d, l.length = d + 1 ∧ SerOk m d l := by
  obtain ⟨h1, h2, h3⟩ := isS_iff h
  obtain ⟨d, hd⟩ : ∃ d, l.length = d + 1 := ⟨l.length - 1, by omega⟩
  unfold codeN at h3
  by_cases hm : isM m = true
  · rw [if_pos hm] at h3
    obtain ⟨m1, m2⟩ := (isM_iff m).1 hm
    by_cases ha : allIn 0 (m - 1) l = true
    · refine ⟨d, hd, m1, m2, by omega, by omega, hd, fun i => ?_⟩
      by_cases hi : i < l.length
      · have := List.all_eq_true.1 ha _ (List.getElem_mem hi)
        have := (inB_iff _ _ _).1 this
        unfold Ser.co
        rw [List.getElem?_eq_getElem hi]
        simp only [Option.getD_some]
        omega
      · rw [Ser.co_over (by omega)]; omega
    · rw [if_neg ha] at h3; exact absurd h3 (by decide)
  · rw [if_neg hm] at h3; exact absurd h3 (by decide)
theorem take_cut_len (m : Int) (d : Nat) (f : Nat → Int) (k : Nat) : ((Ser.cut m d f).take k).length ≤ d + 1 := by
  rw [List.length_take, Ser.cut_length]; omega
theorem OwnI.empty (w : World) : OwnI (w.alloc (.cells #[] 2)) w.heap.size (.slice (some ⟨w.heap.size, 0, none⟩) 0 0) [] :=
  ⟨rfl, .inr ⟨w.heap.size, 0, #[], rfl, Nat.le_refl _, heap_alloc_new w _, Nat.le_refl _, Nat.zero_le _, rfl, rfl⟩⟩
end Go.Proofs.YtfhdgcndiljjcaaGreatDoor

/- Lists of lists of integers that are read, and those that a call makes itself, row by row. -/
namespace Go.Proofs.YtfhdgcndiljjcaaGreatDoor
open Go.RowKit Go.WideShapes Go.ChangeShapes Go.ChangeAt

theorem OwnI.capP {w : World} {base n c : Nat} {A : Option Addr} {l : List Int} (h : OwnI w base (.slice A n c) l) : l.length ≤ c := by
  unfold OwnI at h
  rcases h.2 with ⟨hv, h0⟩ | ⟨g, cap, cur, hv, _, _, h1, _⟩
  · omega
  · injection hv with e1 e2 e3
    omega

/-- the slice of slices at A holds the rows -/
def RP (w : World) (A : Option Addr) (t : List (List Int)) : Prop :=
  t ≠ [] → ∃ b off, A = some ⟨b, off, none⟩ ∧ b < w.heap.size ∧ ∀ k, k < t.length → ∃ A' c', w.cell? ⟨b, off + k, none⟩ = some (.slice A' (Pl.rw' t k).length c') ∧ (Pl.rw' t k).length ≤ c' ∧ RI w A' (Pl.rw' t k)
theorem RP.below {w w' : World} {A : Option Addr} {t : List (List Int)} (h : RP w A t) (hb : Below w.heap.size w w') : RP w' A t := by
  intro hl
  obtain ⟨b, off, e, hlt, hc⟩ := h hl
  refine ⟨b, off, e, Nat.lt_of_lt_of_le hlt hb.size, fun k hk => ?_⟩
  obtain ⟨A', c', h1, h2, h3⟩ := hc k hk
  exact ⟨A', c', (hb.cell (p := ⟨b, off + k, none⟩) hlt).trans h1, h2, h3.below hb⟩
theorem RP.at {w : World} {A : Option Addr} {t : List (List Int)} (h : RP w A t) (k : Nat) (hk : k < t.length) :
    ∃ b off A' c', A = some ⟨b, off, none⟩ ∧ b < w.heap.size ∧ w.cell? ⟨b, off + k, none⟩ = some (.slice A' (Pl.rw' t k).length c') ∧ (Pl.rw' t k).length ≤ c' ∧ RI w A' (Pl.rw' t k) := by
  obtain ⟨b, off, e, hlt, hc⟩ := h (by rintro rfl; simp at hk)
  obtain ⟨A', c', h1, h2, h3⟩ := hc k hk
  exact ⟨b, off, A', c', e, hlt, h1, h2, h3⟩
/-- one number of it -/
theorem RP.num {w : World} {A : Option Addr} {t : List (List Int)} (h : RP w A t) (i j : Nat) (hi : i < t.length) (hj : j < (Pl.rw' t i).length) :
    ∃ b off b' off' c', A = some ⟨b, off, none⟩ ∧ b < w.heap.size ∧ w.cell? ⟨b, off + i, none⟩ = some (.slice (some ⟨b', off', none⟩) (Pl.rw' t i).length c') ∧ b' < w.heap.size ∧ w.cell? ⟨b', off' + j, none⟩ = some (.int .i64 (Pl.pc t i j)) := by
  obtain ⟨b, off, A', c', e, hlt, h1, _, h3⟩ := h.at i hi
  obtain ⟨b', off', rfl, h4, h5⟩ := h3.at j hj
  exact ⟨b, off, b', off', c', e, hlt, h1, h4, h5⟩
theorem OwnR.rp {w : World} {lo hi n c : Nat} {A : Option Addr} {t : List (List Int)} (h : OwnR w lo hi (.slice A n c) t) : RP w A t := by
  intro ht
  obtain ⟨A0, c0, e, hr⟩ := h.read
  injection e with e1 e2 e3
  subst e1
  obtain ⟨g, hA, hg, _, _, hrow⟩ := hr ht
  refine ⟨g, 0, hA, hg, fun k hk => ?_⟩
  obtain ⟨A', c', h1, h2, _⟩ := hrow k hk
  exact ⟨A', c', by rw [Nat.zero_add]; exact h1, h2.capP, h2.ri⟩
theorem OwnR.len {w : World} {lo hi : Nat} {v : Value} {t : List (List Int)} (h : OwnR w lo hi v t) : ∃ A c, v = .slice A t.length c ∧ RP w A t := by
  obtain ⟨A0, c0, rfl, hr⟩ := h.read
  exact ⟨A0, c0, rfl, h.rp⟩

theorem OwnR.low {w : World} {lo lo' hi : Nat} {v : Value} {t : List (List Int)} (h : OwnR w lo hi v t) (hh : lo' ≤ lo) : OwnR w lo' hi v t := by
  obtain ⟨vs, h1, h2, h3, h4⟩ := h
  refine ⟨vs, ⟨h1.1, ?_⟩, h2, fun i r hr => ?_, h4⟩
  · rcases h1.2 with hn | ⟨g, cap, cur, hv, hg, rest⟩
    · exact .inl hn
    · exact .inr ⟨g, cap, cur, hv, Nat.le_trans hh hg, rest⟩
  · obtain ⟨u, a, b, c⟩ := h3 i r hr
    exact ⟨u, a, b.more hh, c⟩
theorem OwnR.openv {w : World} {lo hi : Nat} {v : Value} {t : List (List Int)} (h : OwnR w lo hi v t) (ht : 0 < t.length) : ∃ g c, v = .slice (some ⟨g, 0, none⟩) t.length c := by
  obtain ⟨g, c, _, _, e, _⟩ := h.row 0 ht
  exact ⟨g, c, e⟩
/-- a new slice of empty slices -/
theorem OwnR.made (w : World) (n : Nat) (hn : n ≤ maxLen) : OwnR (w.alloc (.cells (madeCells #[Value.slice none 0 0] n) 32)) w.heap.size (w.heap.size + 1) (.slice (some ⟨w.heap.size, 0, none⟩) n n) (List.replicate n []) := by
  have key : ∀ (i : Nat) (u : Value), (List.replicate n (Value.slice none 0 0))[i]? = some u → u = Value.slice none 0 0 := by
    intro i u hu
    rw [List.getElem?_replicate] at hu
    split at hu <;> simp at hu
    exact hu.symm
  refine ⟨List.replicate n (Value.slice none 0 0), ?_, ?_, ?_, ?_⟩
  · rw [List.length_replicate]
    have := World.ownsRow_lit (base := w.heap.size) (e := 32) (size := 1) w (madeCells #[Value.slice none 0 0] n) n (Nat.le_refl _) hn (by rw [size_madeCells]; omega)
    rwa [toList_madeCells_one] at this
  · intro g hg
    have : g = w.heap.size := by simpa [Value.ownBlock] using hg.symm
    omega
  · intro i r hr
    rw [List.getElem?_replicate] at hr
    split at hr
    · rename_i hi
      injection hr with hr
      subst hr
      exact ⟨.slice none 0 0, by rw [List.getElem?_replicate, if_pos hi], OwnI.nil _ _, fun g hg => by simp [Value.ownBlock] at hg⟩
    · exact absurd hr (by simp)
  · intro i j u u' _ hu _
    left
    rw [key i u hu]; rfl
theorem OwnR.cell {w : World} {lo hi g n c : Nat} {t : List (List Int)} (h : OwnR w lo hi (.slice (some ⟨g, 0, none⟩) n c) t) (i : Nat) (hi' : i < t.length) :
    lo ≤ g ∧ g < hi ∧ g < w.heap.size ∧ w.frozen? ⟨g, i, none⟩ = false ∧ ∃ A' c', w.cell? ⟨g, i, none⟩ = some (.slice A' (Pl.rw' t i).length c') ∧ OwnI w lo (.slice A' (Pl.rw' t i).length c') (Pl.rw' t i) ∧
      (∀ b, (Value.slice A' (Pl.rw' t i).length c').ownBlock = some b → b < hi) ∧ (∀ vs : List Value, w.ownsRow lo 32 1 (.slice (some ⟨g, 0, none⟩) t.length c) t.length vs → vs[i]? = some (.slice A' (Pl.rw' t i).length c')) := by
  have hn : n = t.length := by
    obtain ⟨A0, c0, e, _⟩ := h.read
    injection e
  subst hn
  obtain ⟨g0, c0, A', c', e, hg, h1, h2, h3, h4⟩ := h.row i hi'
  injection e with e1 e2 e3
  injection e1 with e1
  injection e1 with e1
  subst e1 e3
  obtain ⟨vs, k1, k2, _⟩ := h
  exact ⟨(World.ownsRow.lt k1 g rfl).1, k2 g rfl, hg, World.ownsRow.frozenAt k1 i, A', c', h1, h3, h4, h2⟩
/-- a new row is stored -/
theorem OwnR.put {w : World} {lo hi hi' g n c : Nat} {t : List (List Int)} (h : OwnR w lo hi (.slice (some ⟨g, 0, none⟩) n c) t) (i : Nat) (hi1 : i < t.length) (u : Value) (r : List Int)
    (hu : OwnI w lo u r) (hb : ∀ b, u.ownBlock = some b → hi ≤ b ∧ b < hi') (hh : hi ≤ hi') : OwnR (w.setCell ⟨g, i, none⟩ u) lo hi' (.slice (some ⟨g, 0, none⟩) n c) (t.set i r) := by
  have hn : n = t.length := by
    obtain ⟨A0, c0, e, _⟩ := h.read
    injection e
  subst hn
  obtain ⟨vs, h1, h2, h3, h4⟩ := h
  have hl : vs.length = t.length := by have := h1.1; omega
  obtain ⟨k1, k2⟩ := World.ownsRow.stored h1 i u
  have keepI : ∀ (u0 : Value) (l : List Int), OwnI w lo u0 l → OwnI (w.setCell ⟨g, i, none⟩ u) lo u0 l := fun u0 l ho => ho.other (grown_setCell w g i u) (ne_types h1 ho)
  refine ⟨vs.set i u, by rw [List.length_set]; exact k1, fun b hb' => Nat.lt_of_lt_of_le (h2 b hb') hh, fun j r' hr => ?_, fun j k x y hjk hx hy => ?_⟩
  · rw [List.getElem?_set] at hr
    by_cases hij : i = j
    · subst hij
      rw [if_pos rfl, if_pos hi1] at hr
      injection hr with hr
      subst hr
      exact ⟨u, by rw [List.getElem?_set, if_pos rfl, if_pos (by omega)], keepI u r hu, fun b hb' => (hb b hb').2⟩
    · rw [if_neg hij] at hr
      obtain ⟨u1, a1, a2, a3⟩ := h3 j r' hr
      exact ⟨u1, by rw [List.getElem?_set, if_neg hij]; exact a1, keepI u1 r' a2, fun b hb' => Nat.lt_of_lt_of_le (a3 b hb') hh⟩
  · have hblk : ∀ (q : Nat) (z : Value), vs[q]? = some z → ∀ b, z.ownBlock = some b → b < hi := by
      intro q z hz b hb'
      have hq := (List.getElem?_eq_some_iff.1 hz).1
      obtain ⟨z', a1, _, a3⟩ := h3 q _ (List.getElem?_eq_getElem (show q < t.length by omega))
      rw [hz] at a1
      injection a1 with a1
      subst a1
      exact a3 b hb'
    rw [List.getElem?_set] at hx hy
    by_cases hij : i = j
    · subst hij
      rw [if_pos rfl, if_pos (by omega)] at hx
      injection hx with hx
      subst hx
      rw [if_neg (by omega)] at hy
      rcases hc : u.ownBlock with _ | b
      · exact .inl rfl
      · refine .inr fun e => ?_
        have p1 := (hb b hc).1
        have p2 := hblk k y hy b e.symm
        omega
    · rw [if_neg hij] at hx
      by_cases hik : i = k
      · subst hik
        rw [if_pos rfl, if_pos (by omega)] at hy
        injection hy with hy
        subst hy
        rcases hc : x.ownBlock with _ | b
        · exact .inl rfl
        · refine .inr fun e => ?_
          have p1 := (hb b e.symm).1
          have p2 := hblk j x hx b hc
          omega
      · rw [if_neg hik] at hy
        exact h4 j k x y hjk hx hy
/-- one number of row i is written -/
theorem OwnR.num {w : World} {lo hi n c : Nat} {g : Nat} {t : List (List Int)} (h : OwnR w lo hi (.slice (some ⟨g, 0, none⟩) n c) t) (i j : Nat) (hi1 : i < t.length) (hj : j < (Pl.rw' t i).length) :
    ∃ b c', w.cell? ⟨g, i, none⟩ = some (.slice (some ⟨b, 0, none⟩) (Pl.rw' t i).length c') ∧ lo ≤ b ∧ b < hi ∧ b < w.heap.size ∧ w.cell? ⟨b, j, none⟩ = some (.int .i64 (Pl.pc t i j)) ∧ w.frozen? ⟨b, j, none⟩ = false ∧
      ∀ y, OwnR (w.setCell ⟨b, j, none⟩ (.int .i64 y)) lo hi (.slice (some ⟨g, 0, none⟩) n c) (t.set i ((Pl.rw' t i).set j y)) := by
  have hn : n = t.length := by
    obtain ⟨A0, c0, e, _⟩ := h.read
    injection e
  subst hn
  obtain ⟨_, _, _, _, A', c', h1, h2, h3, h4⟩ := h.cell i hi1
  obtain ⟨b, cb, e⟩ := h2.openv (by intro e; rw [e] at hj; simp at hj)
  injection e with e1 e2 e3
  subst e1 e3
  obtain ⟨o1, o2, o3, o4⟩ := h2.cells
  refine ⟨b, c', h1, o1, h3 b rfl, o2, o3 j hj, o4 j, fun y => ?_⟩
  exact h.setRow i _ h4 hi1 (grown_setCell w b j (.int .i64 y)) (h2.set j y)

/-- the same in whatever world comes of this one by new blocks -/
theorem OwnR.numB {w : World} {lo hi n c : Nat} {g : Nat} {t : List (List Int)} (h : OwnR w lo hi (.slice (some ⟨g, 0, none⟩) n c) t) (i j L : Nat) (hi1 : i < t.length) (hL : (Pl.rw' t i).length = L) (hj : j < L) :
    ∃ b c', g < hi ∧ lo ≤ b ∧ b < hi ∧ b ≠ g ∧ ∀ W, Below hi w W → W.cell? ⟨g, i, none⟩ = some (.slice (some ⟨b, 0, none⟩) L c') ∧ W.cell? ⟨b, j, none⟩ = some (.int .i64 (Pl.pc t i j)) ∧ W.frozen? ⟨b, j, none⟩ = false ∧
      ∀ y, OwnR (W.setCell ⟨b, j, none⟩ (.int .i64 y)) lo hi (.slice (some ⟨g, 0, none⟩) n c) (t.set i ((Pl.rw' t i).set j y)) := by
  subst hL
  obtain ⟨b, c', k1, k2, k3, _⟩ := h.num i j hi1 hj
  have hg := (h.cell i hi1).2.1
  have hbg : b ≠ g := by
    rintro rfl
    obtain ⟨_, _, _, _, A', c2, p1, p2, _⟩ := h.cell i hi1
    rw [k1] at p1
    injection p1 with p1
    injection p1 with p1 p1b p1c
    subst p1
    obtain ⟨vs, q1, _⟩ := h
    rcases ne_types q1 p2 with e | e
    · simp [Value.ownBlock] at e
    · simp [Value.ownBlock] at e
  refine ⟨b, c', hg, k2, k3, hbg, fun W hb => ?_⟩
  obtain ⟨b', c'', l1, _, _, _, l2, l3, l4⟩ := (h.keep hb).num i j hi1 hj
  have e := (hb.cell (p := ⟨g, i, none⟩) hg).trans k1
  rw [l1] at e
  injection e with e
  injection e with e1 e2 e3
  injection e1 with e1
  injection e1 with e1
  subst e1 e3
  exact ⟨l1, l2, l3, l4⟩

/-- block g holds a variable of several cells -/
def VarC (t : TypeId) (w : World) (g : Nat) (cs : Array Value) : Prop := w.heap[g]? = some (.cells cs t (0, 0))
theorem VarC.new (t : TypeId) (w : World) (cs : Array Value) : VarC t (w.alloc (.cells cs t)) w.heap.size cs := heap_alloc_new w _
theorem VarC.lt {t : TypeId} {w : World} {g : Nat} {cs : Array Value} (h : VarC t w g cs) : g < w.heap.size := (Array.getElem?_eq_some_iff.1 h).1
theorem VarC.keep {t : TypeId} {w w' : World} {g : Nat} {cs : Array Value} (h : VarC t w g cs) (hb : Below w.heap.size w w') : VarC t w' g cs := (hb.block g h.lt).trans h
theorem VarC.other {t : TypeId} {w w' : World} {g : Nat} {cs : Array Value} {r : Option Nat} (h : VarC t w g cs) (hg : w.grownBy w' r) (hne : r ≠ some g) : VarC t w' g cs := (hg.block g h.lt (fun e => hne e.symm)).trans h
theorem VarC.far {t : TypeId} {w : World} {g : Nat} {cs : Array Value} (h : VarC t w g cs) (b i : Nat) (u : Value) (hne : b ≠ g) : VarC t (w.setCell ⟨b, i, none⟩ u) g cs :=
  (Below.heap_setCell w ⟨b, i, none⟩ u g (fun e => hne e.symm)).trans h
theorem VarC.cell {t : TypeId} {w : World} {g : Nat} {cs : Array Value} (h : VarC t w g cs) (k : Nat) (x : Value) (hk : cs[k]? = some x) : w.cell? ⟨g, k, none⟩ = some x := by
  unfold VarC at h
  simp [World.cell?, h, hk]
theorem VarC.fz {t : TypeId} {w : World} {g : Nat} {cs : Array Value} (h : VarC t w g cs) (k : Nat) : w.frozen? ⟨g, k, none⟩ = false := by
  unfold VarC at h
  simp [World.frozen?, h]
theorem VarC.set {t : TypeId} {w : World} {g : Nat} {cs : Array Value} (h : VarC t w g cs) (k : Nat) (u : Value) : VarC t (w.setCell ⟨g, k, none⟩ u) g (cs.setIfInBounds k u) := by
  unfold VarC at h ⊢
  simp [World.setCell, Array.getElem?_modify, h]
theorem VarC.drew {t : TypeId} {w : World} {g : Nat} {cs : Array Value} (h : VarC t w g cs) : VarC t w.drew g cs := h
end Go.Proofs.YtfhdgcndiljjcaaGreatDoor

