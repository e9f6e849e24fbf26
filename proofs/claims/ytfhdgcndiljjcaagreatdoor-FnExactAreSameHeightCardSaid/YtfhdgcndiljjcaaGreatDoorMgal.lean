/- Texts of contracts, joined. -/
import Derived.Test.YtfhdgcndiljjcaaGreatDoorMgaa
import Derived.Test.YtfhdgcndiljjcaaGreatDoorMgad
import Derived.RegionTactic
import Derived.Deep.QuietTactic
import Derived.BigQuiet
import Derived.Test.YtfhdgcndiljjcaaGreatDoorMgab
/- Plain facts: tables under their product are a commutative ring; Horner's tables of any list; quotients: no program in sight. -/
namespace Go.Proofs.YtfhdgcndiljjcaaGreatDoor
namespace Ser

theorem psum_rev' (f : Nat → Int) (n : Nat) : psum (fun i => f (n - i)) (n + 1) = psum f (n + 1) := by
  have h1 := cv_psum n (fun _ => 1) f
  have h2 := cv_psum n f (fun _ => 1)
  rw [cv_comm, h2] at h1
  rw [psum_ext (f := fun i => f i * 1) (g := f) _ (fun i _ => Int.mul_one _), psum_ext (f := fun i => 1 * f (n - i)) (g := fun i => f (n - i)) _ (fun i _ => Int.one_mul _)] at h1
  exact h1.symm
theorem psum_tri : ∀ (p : Nat) (g : Nat → Nat → Nat → Int), psum (fun k => psum (fun i => g i (k - i) (p - k)) (k + 1)) (p + 1) = psum (fun i => psum (fun j => g i j (p - i - j)) (p - i + 1)) (p + 1) := by
  intro p
  induction p with
  | zero => intro g; rfl
  | succ p ih =>
    intro g
    have e1 : psum (fun k => psum (fun i => g i (k - i) (p + 1 - k)) (k + 1)) (p + 1 + 1) = psum (fun k => g 0 k (p + 1 - k)) (p + 1 + 1) + psum (fun k => psum (fun i => g (i + 1) (k - i) (p - k)) (k + 1)) (p + 1) := by
      rw [psum_ext (g := fun k => g 0 k (p + 1 - k) + psum (fun i => g (i + 1) (k - (i + 1)) (p + 1 - k)) k) _ (fun k _ => by rw [psum_left]; rfl), psum_add]
      congr 1
      rw [psum_left]
      show 0 + _ = _
      rw [Int.zero_add]
      exact psum_ext _ (fun k _ => psum_ext _ (fun i _ => by rw [show k + 1 - (i + 1) = k - i by omega, show p + 1 - (k + 1) = p - k by omega]))
    have e2 : psum (fun i => psum (fun j => g i j (p + 1 - i - j)) (p + 1 - i + 1)) (p + 1 + 1) = psum (fun k => g 0 k (p + 1 - k)) (p + 1 + 1) + psum (fun i => psum (fun j => g (i + 1) j (p - i - j)) (p - i + 1)) (p + 1) := by
      rw [psum_left]
      congr 1
      exact psum_ext _ (fun i _ => by
        rw [show p + 1 - (i + 1) + 1 = p - i + 1 by omega]
        exact psum_ext _ (fun j _ => by rw [show p + 1 - (i + 1) - j = p - i - j by omega]))
    rw [e1, e2, ih (fun i j k => g (i + 1) j k)]
end Ser

namespace Pl
open Ser (psum)

theorem mul2_comm (a b : Nat → Nat → Int) : mul2 a b = mul2 b a := by
  funext p q
  unfold mul2
  rw [← Ser.psum_rev' (fun k => psum (fun l => a k l * b (p - k) (q - l)) (q + 1)) p]
  refine Ser.psum_ext _ (fun k hk => ?_)
  rw [← Ser.psum_rev' (fun l => a (p - k) l * b (p - (p - k)) (q - l)) q]
  refine Ser.psum_ext _ (fun l hl => ?_)
  rw [show p - (p - k) = k by omega, show q - (q - l) = l by omega, Int.mul_comm]
theorem mul2_assoc (a b c : Nat → Nat → Int) : mul2 (mul2 a b) c = mul2 a (mul2 b c) := by
  funext p q
  have e1 : mul2 (mul2 a b) c p q = psum (fun k => psum (fun i => psum (fun l => psum (fun j => a i j * b (k - i) (l - j) * c (p - k) (q - l)) (l + 1)) (q + 1)) (k + 1)) (p + 1) := by
    unfold mul2
    refine Ser.psum_ext _ (fun k _ => ?_)
    rw [Ser.psum_swap]
    refine Ser.psum_ext _ (fun l _ => ?_)
    rw [← Ser.psum_mul']
    refine Ser.psum_ext _ (fun i _ => ?_)
    rw [← Ser.psum_mul']
  have e2 : mul2 a (mul2 b c) p q = psum (fun i => psum (fun k => psum (fun j => psum (fun l => a i j * b k l * c (p - i - k) (q - j - l)) (q - j + 1)) (q + 1)) (p - i + 1)) (p + 1) := by
    unfold mul2
    refine Ser.psum_ext _ (fun i _ => ?_)
    rw [Ser.psum_swap]
    refine Ser.psum_ext _ (fun j _ => ?_)
    rw [← Ser.psum_mul]
    refine Ser.psum_ext _ (fun k _ => ?_)
    rw [← Ser.psum_mul]
    exact Ser.psum_ext _ (fun l _ => (Int.mul_assoc _ _ _).symm)
  rw [e1, e2, Ser.psum_tri p (fun i k k' => psum (fun l => psum (fun j => a i j * b k (l - j) * c k' (q - l)) (l + 1)) (q + 1))]
  refine Ser.psum_ext _ (fun i _ => Ser.psum_ext _ (fun k _ => ?_))
  exact Ser.psum_tri q (fun j l l' => a i j * b k l * c (p - i - k) l')
theorem mul2_lc (a b c : Nat → Nat → Int) : mul2 a (mul2 b c) = mul2 b (mul2 a c) := by rw [← mul2_assoc, mul2_comm a b, mul2_assoc]
/-- sums and multiples -/
def pl (a b : Nat → Nat → Int) : Nat → Nat → Int := fun i j => a i j + b i j
def sm (c : Int) (a : Nat → Nat → Int) : Nat → Nat → Int := fun i j => c * a i j
theorem pl_mul2 (a b c : Nat → Nat → Int) : mul2 (pl a b) c = pl (mul2 a c) (mul2 b c) := by funext p q; exact mul2_add a b c p q
theorem mul2_pl (a b c : Nat → Nat → Int) : mul2 a (pl b c) = pl (mul2 a b) (mul2 a c) := by rw [mul2_comm, pl_mul2, mul2_comm b, mul2_comm c]
theorem sm_mul2 (c : Int) (a b : Nat → Nat → Int) : mul2 (sm c a) b = sm c (mul2 a b) := by funext p q; exact mul2_smul c a b p q
theorem mul2_sm (c : Int) (a b : Nat → Nat → Int) : mul2 a (sm c b) = sm c (mul2 a b) := by rw [mul2_comm, sm_mul2, mul2_comm b]
theorem one2_mul2 (c : Int) (b : Nat → Nat → Int) : mul2 (one2 c) b = sm c b := by
  funext p q
  unfold mul2
  rw [Ser.psum_left, Ser.psum_left]
  have z1 : psum (fun i => one2 c 0 (i + 1) * b (p - 0) (q - (i + 1))) q = 0 := Ser.psum_low _ _ (fun i _ => by unfold one2; rw [if_neg (by omega), Int.zero_mul])
  have z2 : psum (fun i => psum (fun l => one2 c (i + 1) l * b (p - (i + 1)) (q - l)) (q + 1)) p = 0 := Ser.psum_low _ _ (fun i _ => Ser.psum_low _ _ (fun l _ => by unfold one2; rw [if_neg (by omega), Int.zero_mul]))
  rw [z1, z2]
  show one2 c 0 0 * b p q + 0 + 0 = c * b p q
  have : one2 c 0 0 = c := if_pos ⟨rfl, rfl⟩
  rw [this, Int.add_zero, Int.add_zero]
theorem mul2_one2 (c : Int) (b : Nat → Nat → Int) : mul2 b (one2 c) = sm c b := by rw [mul2_comm, one2_mul2]
theorem sm_one2 (c e : Int) : sm c (one2 e) = one2 (c * e) := by
  funext i j
  unfold sm one2
  split
  · rfl
  · exact Int.mul_zero c
theorem sm_sm (c e : Int) (a : Nat → Nat → Int) : sm c (sm e a) = sm (c * e) a := by funext i j; exact (Int.mul_assoc _ _ _).symm
theorem sm_pl (c : Int) (a b : Nat → Nat → Int) : sm c (pl a b) = pl (sm c a) (sm c b) := by funext i j; exact Int.mul_add _ _ _
theorem one_sm (a : Nat → Nat → Int) : sm 1 a = a := by funext i j; exact Int.one_mul _
theorem Eq.pl {m : Int} {d : Nat} {a a' b b' : Nat → Nat → Int} (h : Eq m d a a') (k : Eq m d b b') : Eq m d (pl a b) (pl a' b') := fun i j hij => Ser.add_cong (h i j hij) (k i j hij)
theorem Eq.sm {m : Int} {d : Nat} {a a' : Nat → Nat → Int} (c : Int) (h : Eq m d a a') : Eq m d (sm c a) (sm c a') := fun i j hij => Ser.mul_cong rfl (h i j hij)
theorem Eq.mul2 {m : Int} {d : Nat} {a a' b b' : Nat → Nat → Int} (h : Eq m d a a') (k : Eq m d b b') : Eq m d (mul2 a b) (mul2 a' b') := mul2_congr h k
/-- equal functions -/
theorem Eq.fn {m : Int} {d : Nat} {a b : Nat → Nat → Int} (h : a = b) : Eq m d a b := h ▸ Eq.refl m d a

/-! the value of a polynomial at a table, by Horner's rule: the list's first number is the constant -/
def polT (m : Int) (d : Nat) (F : Nat → Nat → Int) : List Int → List (List Int)
  | [] => tab m d fun _ _ => 0
  | c :: cs => tab m d fun p q => mul2 (pc (polT m d F cs)) F p q + (if p = 0 ∧ q = 0 then c else 0)
theorem polT_length (m : Int) (d : Nat) (F : Nat → Nat → Int) (cs : List Int) : (polT m d F cs).length = d + 1 := by cases cs <;> exact tab_length _ _ _
theorem polT_ok {m : Int} {d : Nat} (m1 : 2 ≤ m) (m2 : m ≤ 10000) (d1 : 1 ≤ d) (d2 : d ≤ 10) (F : Nat → Nat → Int) (cs : List Int) : Ok m d (polT m d F cs) := by cases cs <;> exact Ok.of_tab m1 m2 d1 d2 _
/-- a round -/
theorem polT_step {m : Int} {d : Nat} (F : Nat → Nat → Int) (c : Int) (cs : List Int) :
    (tab m d (mul2 (pc (polT m d F cs)) F)).set 0 ((rw' (tab m d (mul2 (pc (polT m d F cs)) F)) 0).set 0 ((pc (tab m d (mul2 (pc (polT m d F cs)) F)) 0 0 + c) % m)) = polT m d F (c :: cs) := by
  rw [pc_tab (Nat.zero_le _)]
  refine tab_put (Nat.zero_le _) ?_ (fun p q _ hne => ?_)
  · rw [if_pos ⟨rfl, rfl⟩, Int.emod_add_emod]
  · rw [if_neg hne, Int.add_zero]
/-- the same as a function of tables without remainders -/
def polF (F : Nat → Nat → Int) : List Int → Nat → Nat → Int
  | [] => fun _ _ => 0
  | c :: cs => pl (mul2 (polF F cs) F) (one2 c)
theorem polT_eq (m : Int) (d : Nat) (F : Nat → Nat → Int) : ∀ cs, Eq m d (pc (polT m d F cs)) (polF F cs) := by
  intro cs
  induction cs with
  | nil => exact pc_tab_eq m d _
  | cons c cs ih => exact (pc_tab_eq m d _).trans ((Eq.pl (mul2_congr ih (Eq.refl _ _ _)) (Eq.refl m d (one2 c))))
theorem polF_congr {m : Int} {d : Nat} {F G : Nat → Nat → Int} (h : Eq m d F G) : ∀ cs, Eq m d (polF F cs) (polF G cs) := by
  intro cs
  induction cs with
  | nil => exact Eq.refl _ _ _
  | cons c cs ih => exact (mul2_congr ih h).pl (Eq.refl _ _ _)
theorem polF_tab {m : Int} {d : Nat} {G : Nat → Nat → Int} (F : Nat → Nat → Int) (h : Eq m d F G) (cs : List Int) : Eq m d (pc (polT m d F cs)) (polF G cs) := (polT_eq m d F cs).trans (polF_congr h cs)
theorem zero_mul2 (F : Nat → Nat → Int) : mul2 (fun _ _ => 0) F = fun _ _ => 0 := by
  have : (fun _ _ => (0 : Int)) = sm 0 F := by funext i j; exact (Int.zero_mul _).symm
  rw [this, sm_mul2]
  funext i j
  exact (Int.zero_mul _).trans (Int.zero_mul _).symm
theorem zero_pl (a : Nat → Nat → Int) : pl (fun _ _ => 0) a = a := by funext i j; exact Int.zero_add _
theorem pl_zero (a : Nat → Nat → Int) : pl a (fun _ _ => 0) = a := by funext i j; exact Int.add_zero _
theorem polF_one (F : Nat → Nat → Int) (c : Int) : polF F [c] = one2 c := by show pl (mul2 (fun _ _ => 0) F) (one2 c) = _; rw [zero_mul2, zero_pl]
theorem polF_two (F : Nat → Nat → Int) (a b : Int) : polF F [a, b] = pl (sm b F) (one2 a) := by show pl (mul2 (polF F [b]) F) (one2 a) = _; rw [polF_one, one2_mul2]
theorem polF_three (F : Nat → Nat → Int) (a b c : Int) : polF F [a, b, c] = pl (pl (sm c (mul2 F F)) (sm b F)) (one2 a) := by
  show pl (mul2 (polF F [b, c]) F) (one2 a) = _
  rw [polF_two, pl_mul2, sm_mul2, one2_mul2]
theorem polF_four (F : Nat → Nat → Int) (a b c e : Int) : polF F [a, b, c, e] = pl (pl (pl (sm e (mul2 (mul2 F F) F)) (sm c (mul2 F F))) (sm b F)) (one2 a) := by
  show pl (mul2 (polF F [b, c, e]) F) (one2 a) = _
  rw [polF_three, pl_mul2, pl_mul2, sm_mul2, sm_mul2, one2_mul2]

/-! quotients -/
/-- the quotient's rounds: F the numerator's table, R 1 less the denominator -/
def ovT (m : Int) (d : Nat) (t : List (List Int)) (R : Nat → Nat → Int) : Nat → List (List Int)
  | 0 => t
  | k + 1 => tab m d fun i j => pc t i j + pc (tab m d (mul2 (pc (ovT m d t R k)) R)) i j
theorem ovT_ok {m : Int} {d : Nat} {t : List (List Int)} (h : Ok m d t) (R : Nat → Nat → Int) (k : Nat) : Ok m d (ovT m d t R k) := by
  cases k
  · exact h
  · exact h.tab _
theorem ovT_eq {m : Int} {d : Nat} (t : List (List Int)) (R : Nat → Nat → Int) (k : Nat) : Eq m d (pc (ovT m d t R (k + 1))) (pl (pc t) (mul2 (pc (ovT m d t R k)) R)) :=
  (pc_tab_eq m d _).trans (Eq.pl (Eq.refl _ _ _) (pc_tab_eq m d _))
/-- a product with a table without a constant asks one degree less of the other -/
theorem mul2_low {m : Int} {k : Nat} {a a' R : Nat → Nat → Int} (hR : R 0 0 % m = 0) (h : ∀ i j, i + j ≤ k → a i j % m = a' i j % m) (p q : Nat) (hpq : p + q ≤ k + 1) : mul2 a R p q % m = mul2 a' R p q % m := by
  refine Ser.psum_congr _ (fun i hi => Ser.psum_congr _ (fun j hj => ?_))
  by_cases h0 : i + j ≤ k
  · exact Ser.mul_cong (h i j h0) rfl
  · obtain rfl : i = p := by omega
    obtain rfl : j = q := by omega
    rw [Nat.sub_self, Nat.sub_self, Int.mul_emod, hR, Int.mul_emod (a' i j), hR]
    simp
theorem over_fix {m : Int} {d : Nat} {t T : List (List Int)} {R : Nat → Nat → Int} (ht : Ok m d t) (hT : Ok m d T) (hR : R 0 0 % m = 0) (h : Eq m d (pc T) (pl (pc t) (mul2 (pc T) R))) : ovT m d t R d = T := by
  have key : ∀ k, k ≤ d → ∀ i j, i + j ≤ k → pc (ovT m d t R k) i j % m = pc T i j % m := by
    intro k
    induction k with
    | zero =>
      intro _ i j hij
      obtain rfl : i = 0 := by omega
      obtain rfl : j = 0 := by omega
      rw [h 0 0 (by omega)]
      have e : mul2 (pc T) R 0 0 = pc T 0 0 * R 0 0 := by unfold mul2; simp [Ser.psum]
      show pc t 0 0 % m = (pc t 0 0 + mul2 (pc T) R 0 0) % m
      rw [e, Int.add_emod, Int.mul_emod, hR]
      simp
    | succ k ih =>
      intro hk i j hij
      rw [ovT_eq t R k i j (by omega), h i j (by omega)]
      exact Ser.add_cong rfl (mul2_low hR (fun i j h => ih (by omega) i j h) i j (by omega))
  exact Ok.ext (ovT_ok ht R d) hT (fun i j hij => key d (Nat.le_refl _) i j hij)
end Pl
end Go.Proofs.YtfhdgcndiljjcaaGreatDoor

/- Plain facts on standard laws: monomials, the laws of the tangent and of Euler as quotients: no program in sight. -/
namespace Go.Proofs.YtfhdgcndiljjcaaGreatDoor
namespace Pl
open Ser (psum)

/-- x^a y^b -/
def mon2 (a b : Nat) : Nat → Nat → Int := fun i j => if i = a ∧ j = b then 1 else 0
theorem psum_one (g : Nat → Int) (a : Nat) : ∀ n, (∀ i, i < n → i ≠ a → g i = 0) → psum g n = if a < n then g a else 0 := by
  intro n
  induction n with
  | zero => intro _; rfl
  | succ n ih =>
    intro h
    rw [Ser.psum, ih (fun i hi => h i (by omega))]
    by_cases h1 : a < n
    · rw [if_pos h1, if_pos (by omega), h n (by omega) (by omega), Int.add_zero]
    · by_cases h2 : a = n
      · rw [if_neg h1, if_pos (by omega), h2, Int.zero_add]
      · rw [if_neg h1, if_neg (by omega), h n (by omega) (fun e => h2 e.symm), Int.add_zero]
theorem mon2_mul2 (a b : Nat) (F : Nat → Nat → Int) (p q : Nat) : mul2 (mon2 a b) F p q = if a ≤ p ∧ b ≤ q then F (p - a) (q - b) else 0 := by
  unfold mul2
  rw [psum_one _ a _ (fun i _ hi => Ser.psum_low _ _ (fun j _ => by unfold mon2; rw [if_neg (fun e => hi e.1), Int.zero_mul]))]
  by_cases h : a ≤ p
  · rw [if_pos (by omega), psum_one _ b _ (fun j _ hj => by unfold mon2; rw [if_neg (fun e => hj e.2), Int.zero_mul])]
    by_cases k : b ≤ q
    · rw [if_pos (by omega), if_pos ⟨h, k⟩]
      unfold mon2
      rw [if_pos ⟨rfl, rfl⟩, Int.one_mul]
    · rw [if_neg (by omega), if_neg (fun e => k e.2)]
  · rw [if_neg (by omega), if_neg (fun e => h e.1)]
theorem mul2_mon2 (a b : Nat) (F : Nat → Nat → Int) (p q : Nat) : mul2 F (mon2 a b) p q = if a ≤ p ∧ b ≤ q then F (p - a) (q - b) else 0 := by rw [mul2_comm, mon2_mul2]
theorem mon2_mon2 (a b c e : Nat) : mul2 (mon2 a b) (mon2 c e) = mon2 (a + c) (b + e) := by
  funext p q
  rw [mon2_mul2]
  unfold mon2
  by_cases h : p = a + c ∧ q = b + e
  · rw [if_pos (by omega), if_pos (by omega), if_pos h]
  · rw [if_neg h]
    by_cases k : a ≤ p ∧ b ≤ q
    · rw [if_pos k, if_neg (by omega)]
    · rw [if_neg k]
theorem mon2_zero : mon2 0 0 = one2 1 := rfl
theorem pw2_y : ∀ k, pw2 (mon2 0 1) k = mon2 0 k := by
  intro k
  induction k with
  | zero => rfl
  | succ k ih => show mul2 (pw2 (mon2 0 1) k) (mon2 0 1) = _; rw [ih, mon2_mon2]
theorem pw2_x : ∀ k, pw2 (mon2 1 0) k = mon2 k 0 := by
  intro k
  induction k with
  | zero => rfl
  | succ k ih => show mul2 (pw2 (mon2 1 0) k) (mon2 1 0) = _; rw [ih, mon2_mon2]
theorem pw2_congr {m : Int} {d : Nat} {F G : Nat → Nat → Int} (h : Eq m d F G) : ∀ k, Eq m d (pw2 F k) (pw2 G k) := by
  intro k
  induction k with
  | zero => exact Eq.refl _ _ _
  | succ k ih => exact mul2_congr ih h
/-- a series put upon a table: the sum of powers -/
def aft (l : Nat → Int) (F : Nat → Nat → Int) (n : Nat) : Nat → Nat → Int := fun p q => psum (fun i => l i * pw2 F i p q) n
theorem aft_congr {m : Int} {d : Nat} {l l' : Nat → Int} {F G : Nat → Nat → Int} (n : Nat) (hl : ∀ i, i < n → l i % m = l' i % m) (h : Eq m d F G) : Eq m d (aft l F n) (aft l' G n) :=
  fun p q hpq => Ser.psum_congr _ (fun i hi => Ser.mul_cong (hl i hi) (pw2_congr h i p q hpq))
theorem horq_aft {m : Int} {d : Nat} {l : List Int} (hl : l.length = d + 1) (F : Nat → Nat → Int) : Eq m d (pc (horq m d l F (d + 1))) (aft (Ser.co l) F (d + 1)) := by
  have h := horq_pw (m := m) (d := d) l F (d + 1) (by omega)
  refine h.trans (Eq.of m d (fun p q _ => ?_))
  refine Ser.psum_ext _ (fun i _ => ?_)
  rw [hl, Nat.sub_self, Nat.zero_add]
theorem aft_y (l : Nat → Int) (n p q : Nat) (h : q < n) : aft l (mon2 0 1) n p q = if p = 0 then l q else 0 := by
  unfold aft
  rw [psum_one _ q _ (fun i _ hi => by rw [pw2_y]; unfold mon2; rw [if_neg (fun e => hi e.2.symm), Int.mul_zero]), if_pos h, pw2_y]
  unfold mon2
  by_cases hp : p = 0
  · rw [if_pos ⟨hp, rfl⟩, if_pos hp, Int.mul_one]
  · rw [if_neg (fun e => hp e.1), if_neg hp, Int.mul_zero]
theorem aft_x (l : Nat → Int) (n p q : Nat) (h : p < n) : aft l (mon2 1 0) n p q = if q = 0 then l p else 0 := by
  unfold aft
  rw [psum_one _ p _ (fun i _ hi => by rw [pw2_x]; unfold mon2; rw [if_neg (fun e => hi e.1.symm), Int.mul_zero]), if_pos h, pw2_x]
  unfold mon2
  by_cases hq : q = 0
  · rw [if_pos ⟨rfl, hq⟩, if_pos hq, Int.mul_one]
  · rw [if_neg (fun e => hq e.2), if_neg hq, Int.mul_zero]

/-! the multiplicative law -/
def muF (c : Int) : Nat → Nat → Int := fun i j => if (i = 1 ∧ j = 0) ∨ (i = 0 ∧ j = 1) then 1 else if i = 1 ∧ j = 1 then c else 0
theorem mu_eq (c : Int) : pl (pl (mon2 1 0) (mon2 0 1)) (sm c (mul2 (mon2 1 0) (mon2 0 1))) = muF c := by
  funext i j
  rw [mon2_mon2]
  unfold pl sm mon2 muF
  by_cases h1 : i = 1 ∧ j = 0
  · rw [if_pos h1, if_neg (by omega), if_neg (by omega), if_pos (.inl h1)]; omega
  · by_cases h2 : i = 0 ∧ j = 1
    · rw [if_neg h1, if_pos h2, if_neg (by omega), if_pos (.inr h2)]; omega
    · rw [if_neg h1, if_neg h2, if_neg (show ¬ ((i = 1 ∧ j = 0) ∨ (i = 0 ∧ j = 1)) from fun e => e.elim h1 h2)]
      by_cases h3 : i = 1 ∧ j = 1
      · rw [if_pos (by omega), if_pos h3]; omega
      · rw [if_neg (by omega), if_neg h3]; omega
theorem mu_zero : pl (mon2 1 0) (mon2 0 1) = muF 0 := by
  rw [← mu_eq]
  funext i j
  unfold pl sm
  rw [Int.zero_mul, Int.add_zero]

/-! the law of the tangent -/
def taF (e : Int) : Nat → Nat → Int := fun i j => if i = j + 1 then e ^ j else if j = i + 1 then e ^ i else 0
theorem ta_fix (e : Int) : pl (pl (mon2 1 0) (mon2 0 1)) (mul2 (taF e) (sm e (mon2 1 1))) = taF e := by
  funext i j
  rw [mul2_sm]
  show mon2 1 0 i j + mon2 0 1 i j + e * mul2 (taF e) (mon2 1 1) i j = taF e i j
  rw [mul2_mon2]
  unfold mon2 taF
  by_cases h0 : 1 ≤ i ∧ 1 ≤ j
  · rw [if_neg (by omega), if_neg (by omega), if_pos h0]
    by_cases h1 : i = j + 1
    · rw [if_pos (by omega), if_pos h1, Int.zero_add, Int.zero_add]
      obtain ⟨j, rfl⟩ : ∃ j', j = j' + 1 := ⟨j - 1, by omega⟩
      rw [Nat.add_sub_cancel, Int.pow_succ, Int.mul_comm]
    · by_cases h2 : j = i + 1
      · rw [if_neg (by omega), if_pos (by omega), if_neg h1, if_pos h2, Int.zero_add, Int.zero_add]
        obtain ⟨i, rfl⟩ : ∃ i', i = i' + 1 := ⟨i - 1, by omega⟩
        rw [Nat.add_sub_cancel, Int.pow_succ, Int.mul_comm]
      · rw [if_neg (by omega), if_neg (by omega), if_neg h1, if_neg h2]; omega
  · rw [if_neg h0]
    by_cases h1 : i = 1 ∧ j = 0
    · rw [if_pos h1, if_neg (by omega), if_pos (by omega), h1.2, Int.pow_zero]; omega
    · by_cases h2 : i = 0 ∧ j = 1
      · rw [if_neg h1, if_pos h2, if_neg (by omega), if_pos (by omega), h2.1, Int.pow_zero]; omega
      · rw [if_neg h1, if_neg h2, if_neg (by omega), if_neg (by omega)]; omega

/-! the law of Euler -/
/-- x r(y) + y r(x) -/
def euT (r : Nat → Int) : Nat → Nat → Int := fun i j => (if i = 1 then r j else 0) + (if j = 1 then r i else 0)
/-- the sum of e^k x^2k y^2k -/
def euG (e : Int) : Nat → Nat → Int := fun i j => if i = j ∧ i % 2 = 0 then e ^ (i / 2) else 0
theorem eug_fix (e : Int) : pl (one2 1) (mul2 (euG e) (sm e (mon2 2 2))) = euG e := by
  funext i j
  rw [mul2_sm]
  show one2 1 i j + e * mul2 (euG e) (mon2 2 2) i j = euG e i j
  rw [mul2_mon2]
  unfold one2 euG
  by_cases h0 : 2 ≤ i ∧ 2 ≤ j
  · rw [if_neg (by omega), if_pos h0]
    by_cases h1 : i = j ∧ i % 2 = 0
    · rw [if_pos (by omega), if_pos h1, Int.zero_add, show i / 2 = (i - 2) / 2 + 1 by omega, Int.pow_succ, Int.mul_comm]
    · rw [if_neg (by omega), if_neg h1]; omega
  · rw [if_neg h0]
    by_cases h1 : i = 0 ∧ j = 0
    · rw [if_pos h1, if_pos (by omega), h1.1]; simp
    · rw [if_neg h1, if_neg (by omega)]; omega
theorem eu_fix (r : Nat → Int) (e : Int) : pl (euT r) (mul2 (mul2 (euT r) (euG e)) (sm e (mon2 2 2))) = mul2 (euT r) (euG e) := by
  rw [mul2_assoc]
  have h := eug_fix e
  have : mul2 (euT r) (pl (one2 1) (mul2 (euG e) (sm e (mon2 2 2)))) = mul2 (euT r) (euG e) := by rw [h]
  rw [mul2_pl, mul2_one2, one_sm] at this
  exact this
theorem eut_eq (r : Nat → Int) (d : Nat) (i j : Nat) (h : i + j ≤ d) : pl (mul2 (mon2 1 0) (aft r (mon2 0 1) (d + 1))) (mul2 (mon2 0 1) (aft r (mon2 1 0) (d + 1))) i j = euT r i j := by
  show mul2 _ _ i j + mul2 _ _ i j = _
  rw [mon2_mul2, mon2_mul2]
  unfold euT
  congr 1
  · by_cases h1 : i = 1
    · rw [if_pos (by omega), aft_y _ _ _ _ (by omega), if_pos (by omega), if_pos h1]; rfl
    · rw [if_neg h1]
      by_cases h2 : 1 ≤ i ∧ 0 ≤ j
      · rw [if_pos h2, aft_y _ _ _ _ (by omega), if_neg (by omega)]
      · rw [if_neg h2]
  · by_cases h1 : j = 1
    · rw [if_pos (by omega), aft_x _ _ _ _ (by omega), if_pos (by omega), if_pos h1]; rfl
    · rw [if_neg h1]
      by_cases h2 : 0 ≤ i ∧ 1 ≤ j
      · rw [if_pos h2, aft_x _ _ _ _ (by omega), if_neg (by omega)]
      · rw [if_neg h2]
/-- quotients by 1 + c t', where 1 - (1 + G) is taken for R -/
theorem rest_eq {m : Int} {d : Nat} (t : List (List Int)) {G : Nat → Nat → Int} (h : Eq m d (pc t) (pl (one2 1) G)) : Eq m d (pc (polT m d (pc t) [1, -1])) (sm (-1) G) := by
  have h1 := polF_tab (pc t) h [1, -1]
  rw [polF_two] at h1
  refine h1.trans (Eq.fn ?_)
  funext i j
  show -1 * (one2 1 i j + G i j) + one2 1 i j = -1 * G i j
  omega
end Pl
end Go.Proofs.YtfhdgcndiljjcaaGreatDoor

/- Plain facts on the Weierstrass series and on square roots of series: no program in sight. -/
namespace Go.Proofs.YtfhdgcndiljjcaaGreatDoor
namespace Ser

theorem cv_congr_curves {m : Int} {f f' b b' : Nat → Int} {n : Nat} (hf : f 0 = 0) (hf' : f' 0 = 0) (hb : b 0 = 0) (hb' : b' 0 = 0) (h : Eq m n f f') (k : Eq m n b b') : cv (n + 1) f b % m = cv (n + 1) f' b' % m := by
  rw [cv_succ, cv_succ, hf, hf', Int.zero_mul, Int.zero_mul, Int.zero_add, Int.zero_add, cv_comm (sh f), cv_comm (sh f')]
  exact cv_congr_curve (by rw [hb]; rfl) (by rw [hb']; rfl) k (fun i hi => h (i + 1) (by omega))
theorem cv_mon (f : Nat → Int) (k : Nat) (c : Int) (n : Nat) : cv n f (mon k c) = if k ≤ n then c * f (n - k) else 0 := by
  rw [cv_psum]
  by_cases h : k ≤ n
  · rw [Pl.psum_one _ (n - k) _ (fun i hi hne => by unfold mon; rw [if_neg (by omega), Int.mul_zero]), if_pos (by omega), if_pos h]
    unfold mon
    rw [if_pos (by omega), Int.mul_comm]
  · rw [if_neg h]
    exact psum_low _ _ (fun i _ => by unfold mon; rw [if_neg (by omega), Int.mul_zero])
/-- the right side of the equation of the Weierstrass series -/
def weiB (a3 a4 a6 : Int) (w : Nat → Int) : Nat → Int := fun n => (mon 0 a3 n + mon 1 a4 n) + w n * a6
def weiA (a1 a2 a3 a4 a6 : Int) (w : Nat → Int) : Nat → Int := fun n => (mon 1 a1 n + mon 2 a2 n) + mul w (weiB a3 a4 a6 w) n
def weiF (a1 a2 a3 a4 a6 : Int) (w : Nat → Int) : Nat → Int := fun n => mon 3 1 n + mul w (weiA a1 a2 a3 a4 a6 w) n
theorem weiA_zero (a1 a2 a3 a4 a6 : Int) {w : Nat → Int} (h : w 0 = 0) : weiA a1 a2 a3 a4 a6 w 0 = 0 := by
  show mon 1 a1 0 + mon 2 a2 0 + cv 0 w _ = 0
  rw [cv_zero, h]; simp [mon]
theorem weiF_zero (a1 a2 a3 a4 a6 : Int) {w : Nat → Int} (h : w 0 = 0) : weiF a1 a2 a3 a4 a6 w 0 = 0 := by
  show mon 3 1 0 + cv 0 w _ = 0
  rw [cv_zero, h]; simp [mon]
theorem weiB_congr {m : Int} {k : Nat} (a3 a4 a6 : Int) {w w' : Nat → Int} (h : Eq m k w w') : Eq m k (weiB a3 a4 a6 w) (weiB a3 a4 a6 w') := fun i hi => add_cong rfl (mul_cong (h i hi) rfl)
theorem weiA_congr {m : Int} {k : Nat} (a1 a2 a3 a4 a6 : Int) {w w' : Nat → Int} (h : Eq m k w w') : Eq m k (weiA a1 a2 a3 a4 a6 w) (weiA a1 a2 a3 a4 a6 w') := fun i hi => add_cong rfl (Eq.mul h (weiB_congr a3 a4 a6 h) i hi)
/-- one degree more is right -/
theorem weiF_congr {m : Int} {k : Nat} (a1 a2 a3 a4 a6 : Int) {w w' : Nat → Int} (h0 : w 0 = 0) (h0' : w' 0 = 0) (h : Eq m k w w') : Eq m (k + 1) (weiF a1 a2 a3 a4 a6 w) (weiF a1 a2 a3 a4 a6 w') := by
  intro i hi
  refine add_cong rfl ?_
  by_cases hk : i ≤ k
  · exact Eq.mul h (weiA_congr a1 a2 a3 a4 a6 h) i hk
  · obtain rfl : i = k + 1 := by omega
    exact cv_congr_curves h0 h0' (weiA_zero _ _ _ _ _ h0) (weiA_zero _ _ _ _ _ h0') h (weiA_congr a1 a2 a3 a4 a6 h)
theorem weiF_at (a1 a2 a3 a4 a6 : Int) (w : Nat → Int) (n : Nat) (hn : 3 ≤ n) :
    weiF a1 a2 a3 a4 a6 w n = mon 3 1 n + (a1 * w (n - 1) + a2 * w (n - 2) + (a3 * mul w w n + a4 * mul w w (n - 1) + a6 * mul (mul w w) w n)) := by
  have e1 : mul w (weiA a1 a2 a3 a4 a6 w) n = cv n w (mon 1 a1) + cv n w (mon 2 a2) + cv n w (mul w (weiB a3 a4 a6 w)) := by
    show mul w (fun i => (mon 1 a1 i + mon 2 a2 i) + mul w (weiB a3 a4 a6 w) i) n = _
    rw [mul_add w (fun i => mon 1 a1 i + mon 2 a2 i), mul_add w (mon 1 a1)]; rfl
  have e2 : cv n w (mul w (weiB a3 a4 a6 w)) = cv n (mul w w) (mon 0 a3) + cv n (mul w w) (mon 1 a4) + a6 * mul (mul w w) w n := by
    rw [← cv_assoc]
    show mul (mul w w) (fun i => (mon 0 a3 i + mon 1 a4 i) + w i * a6) n = _
    rw [mul_add (mul w w) (fun i => mon 0 a3 i + mon 1 a4 i), mul_add (mul w w) (mon 0 a3)]
    rw [show (fun i => w i * a6) = fun i => a6 * w i from funext fun i => Int.mul_comm _ _, mul_smul]
    rfl
  show mon 3 1 n + mul w (weiA a1 a2 a3 a4 a6 w) n = _
  rw [e1, e2, cv_mon, cv_mon, cv_mon, cv_mon, if_pos (by omega), if_pos (by omega), if_pos (by omega), if_pos (by omega), Nat.sub_zero]

/-- the program's rounds -/
def addL (m : Int) (d : Nat) (l l' : List Int) : List Int := cut m d fun n => co l n + co l' n
def mulK (m : Int) (d : Nat) (l : List Int) (k : Int) : List Int := cut m d fun n => co l n * k
def monL (m : Int) (d k : Nat) (c : Int) : List Int := cut m d (mon k c)
theorem addL_eq {m : Int} {d : Nat} {l l' : List Int} {f g : Nat → Int} (h : Eq m d (co l) f) (k : Eq m d (co l') g) : Eq m d (co (addL m d l l')) (fun n => f n + g n) := (co_cut_eq _ _ _).trans (h.add k)
theorem mulK_eq {m : Int} {d : Nat} {l : List Int} {f : Nat → Int} (h : Eq m d (co l) f) (k : Int) : Eq m d (co (mulK m d l k)) (fun n => f n * k) := (co_cut_eq _ _ _).trans (fun i hi => mul_cong (h i hi) rfl)
theorem mulL_eq {m : Int} {d : Nat} {l l' : List Int} {f g : Nat → Int} (h : Eq m d (co l) f) (k : Eq m d (co l') g) : Eq m d (co (mulL m d l l')) (mul f g) := (co_cut_eq _ _ _).trans (h.mul k)
def weiQ (m : Int) (d : Nat) (a3 a4 a6 : Int) (L : List Int) : List Int := addL m d (addL m d (monL m d 0 a3) (monL m d 1 a4)) (mulK m d L a6)
def weiS (m : Int) (d : Nat) (a1 a2 a3 a4 a6 : Int) (L : List Int) : List Int := addL m d (addL m d (monL m d 1 a1) (monL m d 2 a2)) (mulL m d L (weiQ m d a3 a4 a6 L))
def weiP (m : Int) (d : Nat) (a1 a2 a3 a4 a6 : Int) (L : List Int) : List Int := addL m d (monL m d 3 1) (mulL m d L (weiS m d a1 a2 a3 a4 a6 L))
def weiL (m : Int) (d : Nat) (a1 a2 a3 a4 a6 : Int) : Nat → List Int
  | 0 => monL m d 0 0
  | k + 1 => weiP m d a1 a2 a3 a4 a6 (weiL m d a1 a2 a3 a4 a6 k)
theorem weiP_eq (m : Int) (d : Nat) (a1 a2 a3 a4 a6 : Int) (L : List Int) : Eq m d (co (weiP m d a1 a2 a3 a4 a6 L)) (weiF a1 a2 a3 a4 a6 (co L)) := by
  have hq : Eq m d (co (weiQ m d a3 a4 a6 L)) (weiB a3 a4 a6 (co L)) := addL_eq (addL_eq (co_cut_eq _ _ _) (co_cut_eq _ _ _)) (mulK_eq (Eq.refl _ _ _) a6)
  have hs : Eq m d (co (weiS m d a1 a2 a3 a4 a6 L)) (weiA a1 a2 a3 a4 a6 (co L)) := addL_eq (addL_eq (co_cut_eq _ _ _) (co_cut_eq _ _ _)) (mulL_eq (Eq.refl _ _ _) hq)
  exact addL_eq (co_cut_eq _ _ _) (mulL_eq (Eq.refl _ _ _) hs)
theorem weiL_length (m : Int) (d : Nat) (a1 a2 a3 a4 a6 : Int) (k : Nat) : (weiL m d a1 a2 a3 a4 a6 k).length = d + 1 := by cases k <;> exact cut_length _ _ _
theorem weiL_red {m : Int} (hm : 0 < m) (d : Nat) (a1 a2 a3 a4 a6 : Int) (k : Nat) : Red m (weiL m d a1 a2 a3 a4 a6 k) := by cases k <;> exact cut_red hm _ _
theorem weiL_zero {m : Int} (hm : 0 < m) (d : Nat) (a1 a2 a3 a4 a6 : Int) (k : Nat) : co (weiL m d a1 a2 a3 a4 a6 k) 0 = 0 := by
  induction k with
  | zero =>
    show co (cut m d (mon 0 0)) 0 = 0
    rw [co_cut (Nat.zero_le _)]
    simp [mon]
  | succ k ih =>
    have h := weiP_eq m d a1 a2 a3 a4 a6 (weiL m d a1 a2 a3 a4 a6 k) 0 (Nat.zero_le _)
    rw [weiF_zero _ _ _ _ _ ih] at h
    have r := weiL_red hm d a1 a2 a3 a4 a6 (k + 1) 0
    rw [show co (weiL m d a1 a2 a3 a4 a6 (k + 1)) 0 = co (weiP m d a1 a2 a3 a4 a6 (weiL m d a1 a2 a3 a4 a6 k)) 0 from rfl] at r ⊢
    rw [Int.emod_eq_of_lt r.1 r.2] at h
    simpa using h
/-- what the model's list is when the coefficients below n have come -/
structure WeiN (m : Int) (D : Nat) (a1 a2 a3 a4 a6 : Int) (L : List Int) (n : Nat) : Prop where
  len : L.length = D + 1
  red : Red m L
  zero : ∀ i, i < 3 → co L i = 0
  last : ∀ i, n ≤ i → co L i = 0
  fix : ∀ i, i < n → co L i = weiF a1 a2 a3 a4 a6 (co L) i % m
theorem weiF_low (a1 a2 a3 a4 a6 : Int) {w : Nat → Int} (h : ∀ i, i < 3 → w i = 0) (i : Nat) (hi : i < 3) : weiF a1 a2 a3 a4 a6 w i = 0 := by
  have : cv i w (weiA a1 a2 a3 a4 a6 w) = 0 := by
    rw [cv_psum]
    exact psum_low _ _ (fun j hj => by rw [h j (by omega), Int.zero_mul])
  show mon 3 1 i + cv i w _ = 0
  rw [this]
  unfold mon
  rw [if_neg (by omega)]; rfl
theorem co_zeros0 (n i : Nat) : co (List.replicate n (0 : Int)) i = 0 := co_zeros n i
theorem WeiN.start {m : Int} (hm : 0 < m) (D : Nat) (a1 a2 a3 a4 a6 : Int) : WeiN m D a1 a2 a3 a4 a6 (List.replicate (D + 1) 0) 3 := by
  have z : ∀ i, co (List.replicate (D + 1) (0 : Int)) i = 0 := fun i => co_zeros0 _ i
  refine ⟨List.length_replicate, fun i => by rw [z]; omega, fun i _ => z i, fun i _ => z i, fun i hi => ?_⟩
  rw [weiF_low _ _ _ _ _ (fun j _ => z j) i hi, z, Int.zero_emod]
theorem WeiN.step {m : Int} (hm : 0 < m) {D : Nat} {a1 a2 a3 a4 a6 : Int} {L : List Int} {n : Nat} (h : WeiN m D a1 a2 a3 a4 a6 L n) (hn : 3 ≤ n) (hD : n ≤ D) {v : Int} (hv : v = weiF a1 a2 a3 a4 a6 (co L) n % m) : WeiN m D a1 a2 a3 a4 a6 (L.set n v) (n + 1) := by
  have hs : ∀ i, co (L.set n v) i = if i = n then v else co L i := fun i => co_set (by rw [h.len]; omega) _ i
  have he : ∀ k, k < n → Eq m k (co (L.set n v)) (co L) := fun k hk i hi => by rw [hs, if_neg (by omega)]
  have h0 : co L 0 = 0 := h.zero 0 (by omega)
  have h0' : co (L.set n v) 0 = 0 := by rw [hs, if_neg (by omega), h0]
  refine ⟨by rw [List.length_set, h.len], fun i => ?_, fun i hi => ?_, fun i hi => ?_, fun i hi => ?_⟩
  · rw [hs]
    split
    · rw [hv]; exact ⟨Int.emod_nonneg _ (by omega), Int.emod_lt_of_pos _ hm⟩
    · exact h.red i
  · rw [hs, if_neg (by omega)]; exact h.zero i hi
  · rw [hs, if_neg (by omega)]; exact h.last i (by omega)
  · rcases i with _ | i
    · rw [h0', weiF_zero _ _ _ _ _ h0', Int.zero_emod]
    · have := weiF_congr a1 a2 a3 a4 a6 h0' h0 (he i (by omega)) (i + 1) (Nat.le_refl _)
      rw [this, hs]
      by_cases hi' : i + 1 = n
      · rw [if_pos hi', hv, hi']
      · rw [if_neg hi']; exact h.fix (i + 1) (by omega)
/-- when all have come it is the program's -/
theorem WeiN.done {m : Int} (hm : 0 < m) {D : Nat} {a1 a2 a3 a4 a6 : Int} {L : List Int} {n : Nat} (h : WeiN m D a1 a2 a3 a4 a6 L n) (hn : D < n) : L = weiL m D a1 a2 a3 a4 a6 D := by
  have key : ∀ k, k ≤ D → Eq m k (co (weiL m D a1 a2 a3 a4 a6 k)) (co L) := by
    intro k
    induction k with
    | zero =>
      intro _ i hi
      obtain rfl : i = 0 := by omega
      rw [weiL_zero hm, h.zero 0 (by omega)]
    | succ k ih =>
      intro hk i hi
      rw [show co (weiL m D a1 a2 a3 a4 a6 (k + 1)) i = co (weiP m D a1 a2 a3 a4 a6 (weiL m D a1 a2 a3 a4 a6 k)) i from rfl, weiP_eq m D a1 a2 a3 a4 a6 _ i (by omega),
        weiF_congr a1 a2 a3 a4 a6 (weiL_zero hm D a1 a2 a3 a4 a6 k) (h.zero 0 (by omega)) (ih (by omega)) i hi, h.fix i (by omega), Int.emod_emod]
  exact red_unique h.len (weiL_length _ _ _ _ _ _ _ _) h.red (weiL_red hm _ _ _ _ _ _ _) (key D (Nat.le_refl _)).symm
/-- the model's next coefficient: sq and cu its square and cube up to n -/
theorem wei_val {m : Int} {a1 a2 a3 a4 a6 : Int} {L : List Int} {n : Nat} (hn : 3 ≤ n) (sq cu : Nat → Int) (hsq : Eq m n sq (mul (co L) (co L))) (hcu : Eq m n cu (mul sq (co L))) :
    (a1 * co L (n - 1) + a2 * co L (n - 2) + a3 * sq n + a4 * sq (n - 1) + a6 * cu n + mon 3 1 n) % m = weiF a1 a2 a3 a4 a6 (co L) n % m := by
  rw [weiF_at _ _ _ _ _ _ n hn]
  have e1 := hsq n (Nat.le_refl _)
  have e2 := hsq (n - 1) (by omega)
  have e3 : cu n % m = mul (mul (co L) (co L)) (co L) n % m := (hcu n (Nat.le_refl _)).trans (cv_congr n hsq (Eq.refl _ _ _))
  rw [show a1 * co L (n - 1) + a2 * co L (n - 2) + a3 * sq n + a4 * sq (n - 1) + a6 * cu n + mon 3 1 n = mon 3 1 n + (a1 * co L (n - 1) + a2 * co L (n - 2) + (a3 * sq n + a4 * sq (n - 1) + a6 * cu n)) by omega]
  exact add_cong rfl (add_cong rfl (add_cong (add_cong (mul_cong rfl e1) (mul_cong rfl e2)) (mul_cong rfl e3)))

/-! square roots -/
def rtL (m : Int) (d : Nat) (h : Int) (a : Nat → Int) : Nat → List Int
  | 0 => cut m d (mon 0 1)
  | k + 1 => (rtL m d h a k).set (k + 1) ((h * (a (k + 1) - cv (k + 1) (co (rtL m d h a k)) (co (rtL m d h a k)))) % m)
theorem rtL_length (m : Int) (d : Nat) (h : Int) (a : Nat → Int) (k : Nat) : (rtL m d h a k).length = d + 1 := by
  induction k with
  | zero => exact cut_length _ _ _
  | succ k ih => show (List.set _ _ _).length = _; rw [List.length_set, ih]
theorem rtL_red {m : Int} (hm : 0 < m) (d : Nat) (h : Int) (a : Nat → Int) (k : Nat) (hk : k ≤ d) : Red m (rtL m d h a k) := by
  induction k with
  | zero => exact cut_red hm _ _
  | succ k ih =>
    intro i
    rw [show co (rtL m d h a (k + 1)) i = co ((rtL m d h a k).set (k + 1) _) i from rfl, co_set (by rw [rtL_length]; omega)]
    split
    · exact ⟨Int.emod_nonneg _ (by omega), Int.emod_lt_of_pos _ hm⟩
    · exact ih (by omega) i
theorem rtL_at {m : Int} (m1 : 2 ≤ m) {d : Nat} (h : Int) (a : Nat → Int) (k : Nat) (hk : k ≤ d) : co (rtL m d h a k) 0 = 1 ∧ ∀ i, k < i → co (rtL m d h a k) i = 0 := by
  induction k with
  | zero =>
    refine ⟨?_, fun i hi => ?_⟩
    · show co (cut m d (mon 0 1)) 0 = 1
      rw [co_cut (Nat.zero_le _)]
      exact Int.emod_eq_of_lt (by simp [mon]) (by simp [mon]; omega)
    · show co (cut m d (mon 0 1)) i = 0
      by_cases hd : i ≤ d
      · rw [co_cut hd]; unfold mon; rw [if_neg (by omega), Int.zero_emod]
      · exact co_over (by rw [cut_length]; omega)
  | succ k ih =>
    have hs : ∀ i, co (rtL m d h a (k + 1)) i = if i = k + 1 then (h * (a (k + 1) - cv (k + 1) (co (rtL m d h a k)) (co (rtL m d h a k)))) % m else co (rtL m d h a k) i := fun i => co_set (by rw [rtL_length]; omega) _ i
    refine ⟨?_, fun i hi => ?_⟩
    · rw [hs, if_neg (by omega)]; exact (ih (by omega)).1
    · rw [hs, if_neg (by omega)]; exact (ih (by omega)).2 i (by omega)
/-- the sum of the terms between both ends -/
def midS (r : Nat → Int) (n : Nat) (k : Nat) : Int := psum (fun i => r (i + 1) * r (n - (i + 1))) k
theorem cv_mid (r : Nat → Int) (n : Nat) (hn : 1 ≤ n) (h0 : r n = 0) : cv n r r = midS r n (n - 1) := by
  rw [cv_psum]
  obtain ⟨k, rfl⟩ : ∃ k, n = k + 1 := ⟨n - 1, by omega⟩
  rw [psum_left]
  show r 0 * r (k + 1 - 0) + psum (fun i => r (i + 1) * r (k + 1 - (i + 1))) (k + 1) = _
  rw [psum]
  unfold midS
  rw [Nat.sub_zero, Nat.add_sub_cancel, h0, Int.mul_zero, Int.zero_mul, Int.zero_add, Int.add_zero]
end Ser
end Go.Proofs.YtfhdgcndiljjcaaGreatDoor

/- Plain facts on the Weierstrass law: substitution is a passage, quotients as series, the two ways to the law: no program in sight. -/
namespace Go.Proofs.YtfhdgcndiljjcaaGreatDoor
namespace Pl
open Ser (psum cv)

theorem mul2_psum' (g : Nat → Nat → Nat → Int) (F : Nat → Nat → Int) (p q n : Nat) : mul2 F (fun i j => psum (fun k => g k i j) n) p q = psum (fun k => mul2 F (g k) p q) n := by
  rw [mul2_comm, mul2_psum]
  exact Ser.psum_ext _ (fun k _ => by rw [mul2_comm])
theorem pw2_add (F : Nat → Nat → Int) (i : Nat) : ∀ j, mul2 (pw2 F i) (pw2 F j) = pw2 F (i + j) := by
  intro j
  induction j with
  | zero => show mul2 _ (one2 1) = _; rw [mul2_one2, one_sm]; rfl
  | succ j ih => show mul2 _ (mul2 (pw2 F j) F) = mul2 (pw2 F (i + j)) F; rw [← mul2_assoc, ih]
theorem pw2_lowW {F : Nat → Nat → Int} (h : F 0 0 = 0) : ∀ k p q, p + q < k → pw2 F k p q = 0 := by
  intro k
  induction k with
  | zero => intro p q h; omega
  | succ k ih =>
    intro p q hpq
    show mul2 (pw2 F k) F p q = 0
    unfold mul2
    refine Ser.psum_low _ _ (fun i hi => Ser.psum_low _ _ (fun j hj => ?_))
    by_cases hk : i + j < k
    · rw [ih i j hk, Int.zero_mul]
    · rw [show p - i = 0 by omega, show q - j = 0 by omega, h, Int.mul_zero]
/-- substitution leads products to products -/
theorem aft_mul (f g : Nat → Int) {F : Nat → Nat → Int} (h : F 0 0 = 0) (d p q : Nat) (hpq : p + q ≤ d) : mul2 (aft f F (d + 1)) (aft g F (d + 1)) p q = aft (Ser.mul f g) F (d + 1) p q := by
  have e1 : mul2 (aft f F (d + 1)) (aft g F (d + 1)) p q = psum (fun i => psum (fun j => f i * g j * pw2 F (i + j) p q) (d + 1)) (d + 1) := by
    unfold aft
    rw [mul2_psum (fun i p q => f i * pw2 F i p q)]
    refine Ser.psum_ext _ (fun i _ => ?_)
    rw [mul2_psum' (fun j p q => g j * pw2 F j p q)]
    refine Ser.psum_ext _ (fun j _ => ?_)
    have : mul2 (sm (f i) (pw2 F i)) (sm (g j) (pw2 F j)) = sm (f i * g j) (pw2 F (i + j)) := by rw [sm_mul2, mul2_sm, pw2_add, sm_sm]
    exact congrFun (congrFun this p) q
  have e2 : psum (fun i => psum (fun j => f i * g j * pw2 F (i + j) p q) (d + 1)) (d + 1) = psum (fun i => psum (fun j => f i * g j * pw2 F (i + j) p q) (d - i + 1)) (d + 1) := by
    refine Ser.psum_ext _ (fun i hi => ?_)
    exact psum_cut _ (d - i + 1) (d + 1) (by omega) (fun j h1 _ => by rw [pw2_lowW h _ _ _ (by omega), Int.mul_zero])
  rw [e1, e2, ← Ser.psum_tri d (fun i j _ => f i * g j * pw2 F (i + j) p q)]
  unfold aft
  refine Ser.psum_ext _ (fun n hn => ?_)
  rw [Ser.mul_at, Ser.cv_psum, ← Ser.psum_mul']
  refine Ser.psum_ext _ (fun i hi => ?_)
  rw [show i + (n - i) = n by omega]
theorem aft_add (f g : Nat → Int) (F : Nat → Nat → Int) (n : Nat) : aft (fun i => f i + g i) F n = pl (aft f F n) (aft g F n) := by
  funext p q
  show psum _ n = psum _ n + psum _ n
  rw [← Ser.psum_add]
  exact Ser.psum_ext _ (fun i _ => Int.add_mul _ _ _)
theorem aft_smul (c : Int) (f : Nat → Int) (F : Nat → Nat → Int) (n : Nat) : aft (fun i => c * f i) F n = sm c (aft f F n) := by
  funext p q
  show psum _ n = c * psum _ n
  rw [← Ser.psum_mul]
  exact Ser.psum_ext _ (fun i _ => Int.mul_assoc _ _ _)
theorem aft_mon (k : Nat) (c : Int) (F : Nat → Nat → Int) (n : Nat) (h : k < n) : aft (Ser.mon k c) F n = sm c (pw2 F k) := by
  funext p q
  show psum _ n = c * pw2 F k p q
  rw [psum_one _ k _ (fun i _ hi => by unfold Ser.mon; rw [if_neg hi, Int.zero_mul]), if_pos h]
  unfold Ser.mon
  rw [if_pos rfl]
theorem pw2_one (F : Nat → Nat → Int) : pw2 F 1 = F := by show mul2 (one2 1) F = F; rw [one2_mul2, one_sm]
theorem aft_t (c : Int) (F : Nat → Nat → Int) (n : Nat) (h : 1 < n) : aft (Ser.mon 1 c) F n = sm c F := by rw [aft_mon 1 c F n h, pw2_one]
theorem aft_c (c : Int) (F : Nat → Nat → Int) (n : Nat) (h : 0 < n) : aft (Ser.mon 0 c) F n = one2 c := by
  rw [aft_mon 0 c F n h]
  show sm c (one2 1) = _
  rw [sm_one2, Int.mul_one]
/-- if s b is n t up to the degree, s at U times b at U is n U -/
theorem aft_quot {m : Int} {d : Nat} {s b : Nat → Int} {U : Nat → Nat → Int} (h0 : U 0 0 = 0) (k : Nat) (c : Int) (hk : k ≤ d) (h : Ser.Eq m d (Ser.mul s b) (Ser.mon k c)) : Eq m d (mul2 (aft s U (d + 1)) (aft b U (d + 1))) (sm c (pw2 U k)) := by
  intro p q hpq
  rw [aft_mul s b h0 d p q hpq, aft_congr (m := m) (d := d) (d + 1) (fun i hi => h i (by omega)) (Eq.refl _ _ _) p q hpq, aft_mon k c U (d + 1) (by omega)]

/-! the two ways -/
/-- the quotient of two tables: whoever, times the denominator, is the numerator, is what the program's rounds give -/
theorem over_mul {m : Int} {d : Nat} {t T : List (List Int)} {R G : Nat → Nat → Int} (ht : Ok m d t) (hT : Ok m d T) (hG : G 0 0 % m = 0) (hR : Eq m d R (sm (-1) G)) (h : Eq m d (mul2 (pc T) (pl (one2 1) G)) (pc t)) : ovT m d t R d = T := by
  have hR0 : R 0 0 % m = 0 := by
    rw [hR 0 0 (Nat.zero_le _)]
    show (-1 * G 0 0) % m = 0
    rw [Int.mul_emod, hG]; simp
  refine over_fix ht hT hR0 ?_
  have e : Eq m d (pl (mul2 (pc T) (pl (one2 1) G)) (mul2 (pc T) (sm (-1) G))) (pc T) := by
    refine Eq.fn ?_
    rw [mul2_pl, mul2_one2, one_sm, mul2_sm]
    funext i j
    show pc T i j + mul2 (pc T) G i j + -1 * mul2 (pc T) G i j = pc T i j
    omega
  exact e.symm.trans ((h.pl (Eq.mul2 (Eq.refl _ _ _) hR.symm)))
/-- the sum of the signs' powers -/
def sgn (n : Nat) : Int := if n % 2 = 0 then 1 else -1
theorem sgn_inv : Ser.mul sgn (fun n => Ser.mon 0 1 n + Ser.mon 1 1 n) = Ser.mon 0 1 := by
  funext n
  rw [Ser.mul_add]
  show cv n sgn (Ser.mon 0 1) + cv n sgn (Ser.mon 1 1) = _
  rw [Ser.cv_mon, Ser.cv_mon, if_pos (Nat.zero_le _), Nat.sub_zero]
  rcases n with _ | n
  · rw [if_neg (by omega)]; rfl
  · rw [if_pos (by omega), Nat.add_sub_cancel]
    unfold sgn Ser.mon
    rw [if_neg (show ¬ (n + 1 = 0) by omega)]
    by_cases h : n % 2 = 0
    · rw [if_pos h, if_neg (by omega)]; rfl
    · rw [if_neg h, if_pos (by omega)]; rfl
/-- the quotient by 1 + G as the model has it -/
theorem over_sgn {m : Int} {d : Nat} (d1 : 1 ≤ d) {t T : List (List Int)} {R G : Nat → Nat → Int} {s : Nat → Int} (ht : Ok m d t) (hT : Ok m d T) (hG : G 0 0 = 0) (hR : Eq m d R (sm (-1) G)) (hs : ∀ i, i ≤ d → s i % m = sgn i % m)
    (h : Eq m d (pc T) (mul2 (pc t) (aft s G (d + 1)))) : ovT m d t R d = T := by
  refine over_mul ht hT (by rw [hG, Int.zero_emod]) hR ?_
  have e1 : aft (fun n => Ser.mon 0 1 n + Ser.mon 1 1 n) G (d + 1) = pl (one2 1) G := by rw [aft_add, aft_c _ _ _ (by omega), aft_t _ _ _ (by omega), one_sm]
  have e2 : Eq m d (mul2 (aft s G (d + 1)) (pl (one2 1) G)) (one2 1) := by
    rw [← e1]
    have := aft_quot (m := m) (d := d) (s := s) (b := fun n => Ser.mon 0 1 n + Ser.mon 1 1 n) hG 0 1 (Nat.zero_le _) (fun i hi => by
      refine (Ser.cv_congr (a' := sgn) i (fun j hj => hs j (by omega)) (Ser.Eq.refl m i (fun n => Ser.mon 0 1 n + Ser.mon 1 1 n))).trans ?_
      exact congrArg (· % m) (congrFun sgn_inv i))
    refine this.trans (Eq.fn ?_)
    show sm 1 (one2 1) = one2 1
    rw [one_sm]
  have e3 := (Eq.mul2 h (Eq.refl m d (pl (one2 1) G))).trans (Eq.fn (mul2_assoc _ _ _))
  refine e3.trans ((Eq.mul2 (Eq.refl m d (pc t)) e2).trans (Eq.fn ?_))
  rw [mul2_one2, one_sm]
/-- the numerator, as the program has it and as the model has it -/
theorem wel_num (l v : Nat → Nat → Int) (a1 a2 a3 a4 a6 : Int) :
    pl (polF l [0, a1, a3]) (mul2 v (polF l [a2, 2 * a4, 3 * a6])) = pl (pl (pl (pl (sm a1 l) (sm a2 v)) (sm a3 (mul2 l l))) (sm (2 * a4) (mul2 l v))) (sm (3 * a6) (mul2 (mul2 l l) v)) := by
  rw [polF_three, polF_three, mul2_pl, mul2_pl, mul2_sm, mul2_sm, mul2_one2, mul2_comm v (mul2 l l), mul2_comm v l]
  funext i j
  show a3 * mul2 l l i j + a1 * l i j + one2 0 i j + (3 * a6 * mul2 (mul2 l l) v i j + 2 * a4 * mul2 l v i j + a2 * v i j) = a1 * l i j + a2 * v i j + a3 * mul2 l l i j + 2 * a4 * mul2 l v i j + 3 * a6 * mul2 (mul2 l l) v i j
  have : one2 0 i j = 0 := by unfold one2; split <;> rfl
  rw [this]
  omega
/-- the denominator less 1 -/
theorem wel_den (l : Nat → Nat → Int) (a2 a4 a6 : Int) : polF l [1, a2, a4, a6] = pl (one2 1) (pl (pl (sm a2 l) (sm a4 (mul2 l l))) (sm a6 (mul2 (mul2 l l) l))) := by
  rw [polF_four]
  funext i j
  show a6 * mul2 (mul2 l l) l i j + a4 * mul2 l l i j + a2 * l i j + one2 1 i j = one2 1 i j + (a2 * l i j + a4 * mul2 l l i j + a6 * mul2 (mul2 l l) l i j)
  omega
end Pl
end Go.Proofs.YtfhdgcndiljjcaaGreatDoor

/- Plain facts: systems of linear equations modulo m, kept in a triangle, and their least solutions. -/
namespace Go.Proofs.YtfhdgcndiljjcaaGreatDoor
open Go.RowKit

namespace Sys
open Ser
/-- an equation's value at x; x 0 stands for 1 -/
def val (e : List Int) (x : Nat → Int) : Int := psum (fun i => co e i * x i) 11
def low (e : List Int) (k : Nat) (x : Nat → Int) : Int := psum (fun i => co e i * x i) k
def Sat (m : Int) (x : Nat → Int) (e : List Int) : Prop := val e x % m = 0
def lessE (m q : Int) (e f : List Int) : List Int := cut m 10 fun k => co e k - q * co f k
def timesE (m c : Int) (e : List Int) : List Int := cut m 10 fun k => c * co e k
/-- an equation as the program has them: eleven reduced numbers -/
structure Ok (m : Int) (e : List Int) : Prop where
  len : e.length = 11
  red : Red m e
def lastF (e : List Int) : Nat → Nat
  | 0 => 0
  | k + 1 => if co e (k + 1) = 0 then lastF e k else k + 1
def lastE (e : List Int) : Nat := lastF e 10
theorem lastF_le (e : List Int) : ∀ k, lastF e k ≤ k
  | 0 => Nat.le_refl _
  | k + 1 => by unfold lastF; split
                · have := lastF_le e k; omega
                · omega
theorem lastF_ne (e : List Int) : ∀ k, lastF e k ≠ 0 → co e (lastF e k) ≠ 0
  | 0, h => absurd rfl h
  | k + 1, h => by
    unfold lastF at h ⊢
    split
    · rename_i h0
      rw [if_pos h0] at h
      exact lastF_ne e k h
    · assumption
theorem lastF_over (e : List Int) : ∀ k j, lastF e k < j → j ≤ k → co e j = 0
  | 0, j, h1, h2 => by unfold lastF at h1; omega
  | k + 1, j, h1, h2 => by
    unfold lastF at h1
    split at h1
    · rename_i h0
      by_cases hj : j = k + 1
      · rw [hj]; exact h0
      · exact lastF_over e k j h1 (by omega)
    · omega
theorem lastE_over {m : Int} {e : List Int} (h : Ok m e) (j : Nat) (hj : lastE e < j) : co e j = 0 := by
  by_cases h10 : j ≤ 10
  · exact lastF_over e 10 j hj h10
  · exact co_over (by rw [h.len]; omega)
theorem lastE_le_of {e : List Int} {k : Nat} (h : ∀ j, k < j → co e j = 0) : lastE e ≤ k := by
  apply Classical.byContradiction
  intro hn
  have h0 : lastE e ≠ 0 := by omega
  exact lastF_ne e 10 h0 (h _ (by unfold lastE at hn; omega))
theorem Ok.cut {m : Int} (hm : 0 < m) (f : Nat → Int) : Ok m (Ser.cut m 10 f) := ⟨cut_length _ _ _, cut_red hm _ _⟩
theorem val_cut (m : Int) (f x : Nat → Int) : val (Ser.cut m 10 f) x % m = psum (fun i => f i * x i) 11 % m := by
  unfold val
  refine psum_congr 11 (fun i hi => ?_)
  rw [co_cut (by omega), Int.mul_emod, Int.emod_emod, ← Int.mul_emod]
theorem val_less (m q : Int) (e f : List Int) (x : Nat → Int) : val (lessE m q e f) x % m = (val e x - q * val f x) % m := by
  unfold lessE
  rw [val_cut]
  congr 1
  unfold val
  rw [← psum_mul, show psum (fun i => co e i * x i) 11 - psum (fun i => q * (co f i * x i)) 11 = psum (fun i => co e i * x i) 11 + (-1) * psum (fun i => q * (co f i * x i)) 11 by omega, ← psum_mul, ← psum_add]
  exact psum_ext 11 (fun i _ => by grind)
theorem val_times (m c : Int) (e : List Int) (x : Nat → Int) : val (timesE m c e) x % m = c * val e x % m := by
  unfold timesE
  rw [val_cut]
  congr 1
  unfold val
  rw [← psum_mul]
  exact psum_ext 11 (fun i _ => by grind)
theorem sat_less {m q : Int} {e f : List Int} {x : Nat → Int} (he : Sat m x e) (hf : Sat m x f) : Sat m x (lessE m q e f) := by
  unfold Sat at *
  rw [val_less, Int.sub_emod, he, Int.mul_emod, hf]
  simp
theorem sat_of_less {m q : Int} {e f : List Int} {x : Nat → Int} (he : Sat m x (lessE m q e f)) (hf : Sat m x f) : Sat m x e := by
  unfold Sat at *
  rw [val_less] at he
  have h1 : m ∣ val e x - q * val f x := Int.dvd_of_emod_eq_zero he
  have h2 : m ∣ val f x := Int.dvd_of_emod_eq_zero hf
  have h3 : m ∣ q * val f x := Int.dvd_mul_of_dvd_right h2
  have := Int.dvd_add h1 h3
  rw [show val e x - q * val f x + q * val f x = val e x by omega] at this
  exact Int.emod_eq_zero_of_dvd this
theorem sat_times {m c : Int} {e : List Int} {x : Nat → Int} (he : Sat m x e) : Sat m x (timesE m c e) := by
  unfold Sat at *
  rw [val_times, Int.mul_emod, he]
  simp
/-- Euclid's algorithm on two equations -/
def euc (m : Int) (k : Nat) : Nat → List Int → List Int → List Int × List Int
  | 0, row, e => (row, e)
  | n + 1, row, e => if co e k = 0 then (row, e) else euc m k n e (lessE m (co row k / co e k) row e)
theorem less_at {m : Int} {row e : List Int} {k : Nat} (hk : k ≤ 10) (he : Ok m e) (h0 : co e k ≠ 0) : co (lessE m (co row k / co e k) row e) k = co row k % co e k := by
  unfold lessE
  rw [co_cut hk]
  have h1 := he.red k
  have h2 := Int.emod_add_mul_ediv (co row k) (co e k)
  have h3 := Int.emod_nonneg (co row k) h0
  have h4 := Int.emod_lt_of_pos (co row k) (show 0 < co e k by omega)
  rw [show co row k - co row k / co e k * co e k = co row k % co e k by rw [Int.mul_comm (co row k / co e k)]; omega]
  exact Int.emod_eq_of_lt h3 (by omega)
structure EucOk (m : Int) (k : Nat) (row e : List Int) (r : List Int × List Int) : Prop where
  ok1 : Ok m r.1
  ok2 : Ok m r.2
  z : co r.2 k = 0
  ne : co e k ≠ 0 → co r.1 k ≠ 0
  over : (∀ j, k < j → co row j = 0) → (∀ j, k < j → co e j = 0) → (∀ j, k < j → co r.1 j = 0) ∧ ∀ j, k < j → co r.2 j = 0
  sat : ∀ x, (Sat m x row ∧ Sat m x e) ↔ (Sat m x r.1 ∧ Sat m x r.2)
theorem euc_ok {m : Int} {k : Nat} (hm : 0 < m) (hk : k ≤ 10) : ∀ (n : Nat) (row e : List Int), Ok m row → Ok m e → (co e k).toNat < n → EucOk m k row e (euc m k n row e)
  | 0, _, _, _, _, h => by omega
  | n + 1, row, e, hr, he, h => by
    unfold euc
    by_cases h0 : co e k = 0
    · rw [if_pos h0]
      exact ⟨hr, he, h0, fun h => absurd h0 h, fun a b => ⟨a, b⟩, fun x => Iff.rfl⟩
    · rw [if_neg h0]
      have h1 := he.red k
      have hat := less_at (row := row) hk he h0
      have h4 := Int.emod_lt_of_pos (co row k) (show 0 < co e k by omega)
      have h5 := Int.emod_nonneg (co row k) h0
      have ih := euc_ok hm hk n e (lessE m (co row k / co e k) row e) he (Ok.cut hm _) (by rw [hat]; omega)
      refine ⟨ih.ok1, ih.ok2, ih.z, fun _ => ?_, fun a b => ih.over b (fun j hj => ?_), fun x => ?_⟩
      · by_cases hz : co (lessE m (co row k / co e k) row e) k = 0
        · cases n with
          | zero => unfold euc; exact h0
          | succ n => unfold euc; rw [if_pos hz]; exact h0
        · exact ih.ne hz
      · by_cases h10 : j ≤ 10
        · unfold lessE
          rw [co_cut h10, a j hj, b j hj]; simp
        · exact co_over (by unfold lessE; rw [cut_length]; omega)
      · rw [← ih.sat x]
        exact ⟨fun ⟨a, b⟩ => ⟨b, sat_less a b⟩, fun ⟨a, b⟩ => ⟨sat_of_less b a, a⟩⟩
def upd (rows : Nat → List Int) (k : Nat) (r : List Int) : Nat → List Int := fun j => if j = k then r else rows j
/-- a system with one equation more: rows below or at L alone are touched -/
def addS (m : Int) : Nat → (Nat → List Int) → List Int → Option (Nat → List Int)
  | 0, rows, e => if co e 0 = 0 then some rows else none
  | L + 1, rows, e =>
    if lastE e = L + 1 then
      match addS m L (upd rows (L + 1) (euc m (L + 1) 20000 (rows (L + 1)) e).1) (timesE m (m / gcdI m (co (euc m (L + 1) 20000 (rows (L + 1)) e).1 (L + 1))) (euc m (L + 1) 20000 (rows (L + 1)) e).1) with
      | none => none
      | some r2 => addS m L r2 (euc m (L + 1) 20000 (rows (L + 1)) e).2
    else addS m L rows e
/-- what fits the rows below k can be carried on to k -/
def Clo (m : Int) (rows : Nat → List Int) (k : Nat) : Prop :=
  ∀ x : Nat → Int, x 0 = 1 → (∀ j, 0 < j → j < k → Sat m x (rows j)) → m / gcdI m (co (rows k) k) * low (rows k) k x % m = 0
structure Tri (m : Int) (rows : Nat → List Int) : Prop where
  ok : ∀ k, Ok m (rows k)
  tri : ∀ k, 0 < k → ∀ j, k < j → co (rows k) j = 0
theorem low_val {e : List Int} {k : Nat} (hk : k ≤ 10) (h : ∀ j, k < j → co e j = 0) (x : Nat → Int) : val e x = low e k x + co e k * x k := by
  unfold val low
  rw [Pl.psum_cut (fun i => co e i * x i) (k + 1) 11 (by omega) (fun i hi _ => by simp [h i (by omega)])]
  rfl
structure AddOk (m : Int) (L : Nat) (rows : Nat → List Int) (e : List Int) (r : Nat → List Int) : Prop where
  tri : Tri m r
  over : ∀ k, L < k → r k = rows k
  sat : ∀ x, x 0 = 1 → ((∀ j, 0 < j → j ≤ L → Sat m x (r j)) ↔ ((∀ j, 0 < j → j ≤ L → Sat m x (rows j)) ∧ Sat m x e))
  clo : (∀ k, 0 < k → k ≤ L → Clo m rows k) → ∀ k, 0 < k → k ≤ L → Clo m r k
theorem times_zero {m c g : Int} (hg : 1 ≤ g) (h1 : g ∣ m) (h2 : g ∣ c) : m / g * c % m = 0 := by
  obtain ⟨a, rfl⟩ := h1
  obtain ⟨b, rfl⟩ := h2
  rw [Int.mul_ediv_cancel_left _ (by omega), show a * (g * b) = g * a * b by grind]
  exact Int.mul_emod_right _ _
theorem gcd_facts {m : Int} (hm : 2 ≤ m) (c : Int) : 1 ≤ gcdI m c ∧ gcdI m c ∣ m ∧ gcdI m c ∣ c := by
  refine ⟨?_, ?_, ?_⟩
  · have : 0 < Nat.gcd m.natAbs c.natAbs := Nat.gcd_pos_of_pos_left _ (by omega)
    unfold gcdI; omega
  · unfold gcdI; exact Int.ofNat_dvd_left.2 (Nat.gcd_dvd_left _ _)
  · unfold gcdI; exact Int.ofNat_dvd_left.2 (Nat.gcd_dvd_right _ _)
theorem Tri.upd {m : Int} {rows : Nat → List Int} (h : Tri m rows) (k : Nat) {r : List Int} (hr : Ok m r) (h0 : ∀ j, k < j → co r j = 0) : Tri m (upd rows k r) := by
  refine ⟨fun j => ?_, fun j hj i hi => ?_⟩
  · unfold Sys.upd; split
    · exact hr
    · exact h.ok j
  · unfold Sys.upd; split
    · rename_i e; subst e; exact h0 i hi
    · exact h.tri j hj i hi
theorem upd_at (rows : Nat → List Int) (k : Nat) (r : List Int) : upd rows k r k = r := by unfold upd; rw [if_pos rfl]
theorem upd_ne (rows : Nat → List Int) {k j : Nat} (r : List Int) (h : j ≠ k) : upd rows k r j = rows j := by unfold upd; rw [if_neg h]
theorem Clo.congr {m : Int} {r r' : Nat → List Int} {k : Nat} (h : ∀ j, 0 < j → j ≤ k → r' j = r j) (h0 : 0 < k) (hc : Clo m r k) : Clo m r' k := by
  intro x hx hs
  rw [h k h0 (Nat.le_refl _)]
  exact hc x hx (fun j hj hjk => by rw [← h j hj (by omega)]; exact hs j hj hjk)
theorem addS_ok {m : Int} (m1 : 2 ≤ m) (m2 : m ≤ 10000) : ∀ (L : Nat) (rows : Nat → List Int) (e : List Int), Tri m rows → Ok m e → lastE e ≤ L → L ≤ 10 →
    (∀ r, addS m L rows e = some r → AddOk m L rows e r) ∧ (addS m L rows e = none → ∀ x : Nat → Int, x 0 = 1 → ¬ ((∀ j, 0 < j → j ≤ L → Sat m x (rows j)) ∧ Sat m x e))
  | 0, rows, e, hT, he, hl, _ => by
    have hz : ∀ x : Nat → Int, x 0 = 1 → val e x = co e 0 := fun x hx => by
      rw [low_val (k := 0) (by omega) (fun j hj => lastE_over he j (by omega)), hx]
      show (0 : Int) + co e 0 * 1 = co e 0
      omega
    have hr := he.red 0
    unfold addS
    by_cases h0 : co e 0 = 0
    · rw [if_pos h0]
      refine ⟨fun r h => ?_, fun h => (by cases h)⟩
      injection h with h
      subst h
      exact ⟨hT, fun _ _ => rfl, fun x hx => ⟨fun _ => ⟨fun j hj hj2 => absurd hj2 (by omega), by unfold Sat; rw [hz x hx, h0]; exact Int.zero_emod m⟩, fun h => h.1⟩, fun h => h⟩
    · rw [if_neg h0]
      refine ⟨fun r h => (by cases h), fun _ x hx h => h0 ?_⟩
      have hs := h.2
      unfold Sat at hs
      rw [hz x hx, Int.emod_eq_of_lt hr.1 hr.2] at hs
      exact hs
  | L + 1, rows, e, hT, he, hl, h10 => by
    unfold addS
    by_cases hlast : lastE e = L + 1
    · rw [if_pos hlast]
      have hred := he.red (L + 1)
      have E := euc_ok (m := m) (k := L + 1) (by omega) h10 20000 (rows (L + 1)) e (hT.ok _) he (by omega)
      generalize euc m (L + 1) 20000 (rows (L + 1)) e = P at E ⊢
      obtain ⟨row, e'⟩ := P
      obtain ⟨o1, o2, z, -, ov, sat⟩ := E
      dsimp only at o1 o2 z ov sat ⊢
      obtain ⟨v1, v2⟩ := ov (fun j hj => hT.tri (L + 1) (by omega) j hj) (fun j hj => lastE_over he j (by omega))
      obtain ⟨g1, g2, g3⟩ := gcd_facts m1 (co row (L + 1))
      have hz := times_zero g1 g2 g3
      have hTo : Ok m (timesE m (m / gcdI m (co row (L + 1))) row) := Ok.cut (by omega) _
      have hTl : lastE (timesE m (m / gcdI m (co row (L + 1))) row) ≤ L := lastE_le_of (fun j hj => by
        by_cases hj10 : j ≤ 10
        · unfold timesE
          rw [co_cut hj10]
          by_cases hjk : j = L + 1
          · rw [hjk]; exact hz
          · rw [v1 j (by omega)]; simp
        · exact co_over (by rw [hTo.len]; omega))
      have hel : lastE e' ≤ L := lastE_le_of (fun j hj => by
        by_cases hjk : j = L + 1
        · rw [hjk]; exact z
        · exact v2 j (by omega))
      have hvT : ∀ x, val (timesE m (m / gcdI m (co row (L + 1))) row) x % m = m / gcdI m (co row (L + 1)) * low row (L + 1) x % m := fun x => by
        rw [val_times, low_val h10 v1 x, Int.mul_add, Int.add_emod, show m / gcdI m (co row (L + 1)) * (co row (L + 1) * x (L + 1)) = m / gcdI m (co row (L + 1)) * co row (L + 1) * x (L + 1) by grind, Int.mul_emod (m / gcdI m (co row (L + 1)) * co row (L + 1)), hz]
        simp
      obtain ⟨s1, n1⟩ := addS_ok m1 m2 L (upd rows (L + 1) row) (timesE m (m / gcdI m (co row (L + 1))) row) (hT.upd (L + 1) o1 v1) hTo hTl (by omega)
      generalize timesE m (m / gcdI m (co row (L + 1))) row = T at *
      have hlow : ∀ x, (∀ j, 0 < j → j ≤ L → Sat m x (rows j)) → ∀ j, 0 < j → j ≤ L → Sat m x (upd rows (L + 1) row j) := fun x h j h0 hj => by rw [upd_ne _ _ (by omega)]; exact h j h0 hj
      have hlow' : ∀ x, (∀ j, 0 < j → j ≤ L → Sat m x (upd rows (L + 1) row j)) → ∀ j, 0 < j → j ≤ L → Sat m x (rows j) := fun x h j h0 hj => by have := h j h0 hj; rwa [upd_ne _ _ (by omega)] at this
      have hsT : ∀ x, Sat m x row → (∀ j, 0 < j → j ≤ L → Sat m x (rows j)) → Sat m x row := fun x h _ => h
      cases h1 : addS m L (upd rows (L + 1) row) T with
      | none =>
        refine ⟨fun r h => (by cases h), fun _ x hx h => ?_⟩
        have hre := (sat x).1 ⟨h.1 (L + 1) (by omega) (Nat.le_refl _), h.2⟩
        refine n1 h1 x hx ⟨hlow x (fun j h0 hj => h.1 j h0 (by omega)), ?_⟩
        unfold Sat
        rw [hvT x]
        have hv := hre.1
        unfold Sat at hv
        rw [low_val h10 v1 x] at hv
        have : m / gcdI m (co row (L + 1)) * (low row (L + 1) x + co row (L + 1) * x (L + 1)) % m = 0 := by rw [Int.mul_emod, hv]; simp
        rw [Int.mul_add, Int.add_emod, show m / gcdI m (co row (L + 1)) * (co row (L + 1) * x (L + 1)) = m / gcdI m (co row (L + 1)) * co row (L + 1) * x (L + 1) by grind, Int.mul_emod (m / gcdI m (co row (L + 1)) * co row (L + 1)), hz] at this
        simpa using this
      | some r2 =>
        dsimp only
        have A1 := s1 r2 h1
        have hTsat : ∀ x, Sat m x row → Sat m x T := fun x h => by
          unfold Sat at h ⊢
          rw [hvT x]
          rw [low_val h10 v1 x] at h
          have : m / gcdI m (co row (L + 1)) * (low row (L + 1) x + co row (L + 1) * x (L + 1)) % m = 0 := by rw [Int.mul_emod, h]; simp
          rw [Int.mul_add, Int.add_emod, show m / gcdI m (co row (L + 1)) * (co row (L + 1) * x (L + 1)) = m / gcdI m (co row (L + 1)) * co row (L + 1) * x (L + 1) by grind, Int.mul_emod (m / gcdI m (co row (L + 1)) * co row (L + 1)), hz] at this
          simpa using this
        obtain ⟨s2, n2⟩ := addS_ok m1 m2 L r2 e' A1.tri o2 hel (by omega)
        constructor
        · intro r3 h2
          have A2 := s2 r3 h2
          have hK : r3 (L + 1) = row := by rw [A2.over _ (by omega), A1.over _ (by omega), upd_at]
          refine ⟨A2.tri, fun k hk => ?_, fun x hx => ⟨fun h => ?_, fun h => ?_⟩, fun hc k h0 hk => ?_⟩
          · rw [A2.over k (by omega), A1.over k (by omega), upd_ne _ _ (by omega)]
          · have a := (A2.sat x hx).1 (fun j h0 hj => h j h0 (by omega))
            have b := (A1.sat x hx).1 a.1
            have c := h (L + 1) (by omega) (Nat.le_refl _)
            rw [hK] at c
            have d := (sat x).2 ⟨c, a.2⟩
            refine ⟨fun j h0 hj => ?_, d.2⟩
            by_cases hjk : j = L + 1
            · rw [hjk]; exact d.1
            · exact hlow' x b.1 j h0 (by omega)
          · have d := (sat x).1 ⟨h.1 (L + 1) (by omega) (Nat.le_refl _), h.2⟩
            have b := (A1.sat x hx).2 ⟨hlow x (fun j h0 hj => h.1 j h0 (by omega)), hTsat x d.1⟩
            have a := (A2.sat x hx).2 ⟨b, d.2⟩
            intro j h0 hj
            by_cases hjk : j = L + 1
            · rw [hjk, hK]; exact d.1
            · exact a j h0 (by omega)
          · by_cases hkL : k = L + 1
            · subst hkL
              intro x hx hs
              rw [hK]
              have a := (A2.sat x hx).1 (fun j h0 hj => hs j h0 (by omega))
              have b := (A1.sat x hx).1 a.1
              have := b.2
              unfold Sat at this
              rw [hvT x] at this
              exact this
            · exact A2.clo (A1.clo (fun q q0 hq => Clo.congr (fun j _ hj => upd_ne _ _ (by omega)) q0 (hc q q0 (by omega)))) k h0 (by omega)
        · intro h2 x hx h
          have d := (sat x).1 ⟨h.1 (L + 1) (by omega) (Nat.le_refl _), h.2⟩
          have b := (A1.sat x hx).2 ⟨hlow x (fun j h0 hj => h.1 j h0 (by omega)), hTsat x d.1⟩
          exact n2 h2 x hx ⟨b, d.2⟩
    · rw [if_neg hlast]
      obtain ⟨s1, n1⟩ := addS_ok m1 m2 L rows e hT he (by omega) (by omega)
      refine ⟨fun r h => ?_, fun h x hx hh => n1 h x hx ⟨fun j h0 hj => hh.1 j h0 (by omega), hh.2⟩⟩
      have A := s1 r h
      have hK : r (L + 1) = rows (L + 1) := A.over _ (by omega)
      refine ⟨A.tri, fun k hk => A.over k (by omega), fun x hx => ⟨fun h => ?_, fun h => ?_⟩, fun hc k h0 hk => ?_⟩
      · have a := (A.sat x hx).1 (fun j h0 hj => h j h0 (by omega))
        refine ⟨fun j h0 hj => ?_, a.2⟩
        by_cases hjk : j = L + 1
        · subst hjk
          rw [← hK]
          exact h (L + 1) h0 hj
        · exact a.1 j h0 (by omega)
      · have a := (A.sat x hx).2 ⟨fun j h0 hj => h.1 j h0 (by omega), h.2⟩
        intro j h0 hj
        by_cases hjk : j = L + 1
        · subst hjk
          rw [hK]
          exact h.1 (L + 1) h0 hj
        · exact a j h0 (by omega)
      · by_cases hkL : k = L + 1
        · subst hkL
          intro x hx hs
          rw [hK]
          exact hc (L + 1) h0 hk x hx (fun j h0 hj => ((A.sat x hx).1 (fun q q0 hq => hs q q0 (by omega))).1 j h0 (by omega))
        · exact A.clo (fun q q0 hq => hc q q0 (by omega)) k h0 (by omega)
end Sys
end Go.Proofs.YtfhdgcndiljjcaaGreatDoor

/- Plain number theory: the least solution of a linear equation. No program in sight. -/
namespace Go.Proofs.YtfhdgcndiljjcaaGreatDoor
namespace Num

theorem sol_none {m a b g : Int} (h1 : g ∣ a) (h2 : g ∣ m) (hb : ¬ g ∣ b) (y : Int) : ¬ a * y % m = b := by
  intro h
  apply hb
  have h3 := Int.emod_add_mul_ediv (a * y) m
  rw [h] at h3
  obtain ⟨p, rfl⟩ := h1
  obtain ⟨q, rfl⟩ := h2
  exact ⟨p * y - q * (g * p * y / (g * q)), by grind⟩

theorem sol_some {m a b g x : Int} (hg : 0 < g) (hm : 0 < m) (h1 : g ∣ a) (h2 : g ∣ m) (hx : m ∣ a * x - g) (hb0 : 0 ≤ b) (hb1 : b < m) (hb : g ∣ b) :
    0 < m / g ∧ 0 ≤ b / g * x % (m / g) ∧ b / g * x % (m / g) < m / g ∧ m / g ≤ m ∧ a * (b / g * x % (m / g)) % m = b ∧ (∀ y, 0 ≤ y → y < b / g * x % (m / g) → ¬ a * y % m = b) := by
  obtain ⟨a', rfl⟩ := h1
  obtain ⟨m', rfl⟩ := h2
  obtain ⟨b', rfl⟩ := hb
  rw [Int.mul_ediv_cancel_left _ (by omega), Int.mul_ediv_cancel_left _ (by omega)]
  have hm' : 0 < m' := by
    apply Classical.byContradiction
    intro h
    have := Int.mul_nonpos_of_nonneg_of_nonpos (show 0 ≤ g by omega) (show m' ≤ 0 by omega)
    omega
  have hle : m' ≤ g * m' := by
    have := Int.mul_le_mul_of_nonneg_right (show 1 ≤ g by omega) (show 0 ≤ m' by omega)
    omega
  have r1 := Int.emod_nonneg (b' * x) (show m' ≠ 0 by omega)
  have r2 := Int.emod_lt_of_pos (b' * x) hm'
  have r3 := Int.emod_add_mul_ediv (b' * x) m'
  obtain ⟨u, hu⟩ := hx
  have hu' : a' * x - 1 = m' * u := by
    have : g * (a' * x - 1) = g * (m' * u) := by grind
    exact Int.eq_of_mul_eq_mul_left (by omega) this
  generalize b' * x % m' = y0 at *
  generalize b' * x / m' = q at *
  refine ⟨hm', r1, r2, hle, ?_, fun y hy0 hy1 hy => ?_⟩
  · have e : g * a' * y0 = g * b' + g * m' * (b' * u - a' * q) := by
      have : a' * y0 = b' + m' * (b' * u - a' * q) := by grind
      grind
    rw [e, Int.add_mul_emod_self_left, Int.emod_eq_of_lt hb0 hb1]
  · have h3 := Int.emod_add_mul_ediv (g * a' * y) (g * m')
    rw [hy] at h3
    generalize g * a' * y / (g * m') = v at *
    have h4 : b' + m' * v = a' * y := by
      have : g * (b' + m' * v) = g * (a' * y) := by grind
      exact Int.eq_of_mul_eq_mul_left (by omega) this
    have h5 : y0 - y = m' * (u * y - v * x - q) := by grind
    have h6 : m' ∣ y0 - y := ⟨_, h5⟩
    have := Int.le_of_dvd (by omega) h6
    omega

end Num
end Go.Proofs.YtfhdgcndiljjcaaGreatDoor

/- Contracts of SolveModulo, of the program and of the model. -/
namespace Go.Proofs.YtfhdgcndiljjcaaGreatDoor
open Go.RowKit Go.WideShapes Go.ChangeShapes Go.ChangeAt

/-- the least solution, and the code -/
def solM (m a b : Int) : Int × Int :=
  if codeN m [a, b] = 0 then (if gcdI a m ∣ b then (b / gcdI a m * (egI m a).2 % (m / gcdI a m), 0) else (0, 4)) else (0, codeN m [a, b])

theorem gcdI_facts {m a : Int} (h1 : 2 ≤ m) (h2 : m ≤ 10000) : 1 ≤ gcdI a m ∧ gcdI a m ≤ m ∧ gcdI a m ∣ a ∧ gcdI a m ∣ m := by
  have hd : gcdI a m ∣ m := by
    unfold gcdI; exact Int.ofNat_dvd_left.2 (Nat.gcd_dvd_right _ _)
  refine ⟨?_, Int.le_of_dvd (by omega) hd, ?_, hd⟩
  · have : 0 < Nat.gcd a.natAbs m.natAbs := Nat.gcd_pos_of_pos_right _ (by omega)
    unfold gcdI; omega
  · unfold gcdI; exact Int.ofNat_dvd_left.2 (Nat.gcd_dvd_left _ _)

end Go.Proofs.YtfhdgcndiljjcaaGreatDoor

/- Plain facts: the least solution of a triangular system, number by number. -/
namespace Go.Proofs.YtfhdgcndiljjcaaGreatDoor
open Go.RowKit

namespace Sys
open Ser
/-- the least number with c times it equal to b, and whether there is one -/
theorem sol_facts {m c b : Int} (m1 : 2 ≤ m) (m2 : m ≤ 10000) (c0 : 0 ≤ c) (c1 : c < m) (b0 : 0 ≤ b) (b1 : b < m) :
    (gcdI m c ∣ b → (solM m c b).2 = 0 ∧ 0 ≤ (solM m c b).1 ∧ (solM m c b).1 < m ∧ c * (solM m c b).1 % m = b ∧ ∀ y, 0 ≤ y → y < (solM m c b).1 → ¬ c * y % m = b) ∧
    (¬ gcdI m c ∣ b → (solM m c b).2 = 4 ∧ ∀ y, ¬ c * y % m = b) := by
  have hg : gcdI c m = gcdI m c := by unfold gcdI; rw [Nat.gcd_comm]
  obtain ⟨g1, g2, g3, g4⟩ := gcdI_facts (a := c) m1 m2
  obtain ⟨-, e2, -, -⟩ := eg_fact m c c0 c1
  have h0 : codeN m [c, b] = 0 := (codeN_two m c b).2 ⟨m1, m2, c0, c1, b0, b1⟩
  rw [← hg]
  constructor
  · intro hd
    obtain ⟨s1, s2, s3, s4, s5, s6⟩ := Num.sol_some (by omega) (by omega) g3 g4 e2 b0 b1 hd
    unfold solM
    rw [if_pos h0, if_pos hd]
    exact ⟨rfl, s2, by dsimp only; omega, s5, s6⟩
  · intro hd
    unfold solM
    rw [if_pos h0, if_neg hd]
    exact ⟨rfl, fun y => Num.sol_none g3 g4 hd y⟩
def want (m : Int) (e : List Int) (k : Nat) (x : Nat → Int) : Int := -(low e k x) % m
def pick (m : Int) (e : List Int) (k : Nat) (x : Nat → Int) : Int := (solM m (co e k) (want m e k x)).1
/-- the numbers found up to k -/
def grd (m : Int) (rows : Nat → List Int) : Nat → Nat → Int
  | 0 => fun i => if i = 0 then 1 else 0
  | k + 1 => fun i => if i = k + 1 then pick m (rows (k + 1)) (k + 1) (grd m rows k) else grd m rows k i
theorem grd_keep (m : Int) (rows : Nat → List Int) {k i : Nat} (h : i ≤ k) : grd m rows (k + 1) i = grd m rows k i := if_neg (by omega)
theorem grd_zero (m : Int) (rows : Nat → List Int) : ∀ k, grd m rows k 0 = 1
  | 0 => rfl
  | k + 1 => (grd_keep m rows (Nat.zero_le k)).trans (grd_zero m rows k)
theorem grd_over (m : Int) (rows : Nat → List Int) : ∀ k i, k < i → grd m rows k i = 0
  | 0, i, h => if_neg (by omega)
  | k + 1, i, h => (show grd m rows (k + 1) i = grd m rows k i from if_neg (by omega)).trans (grd_over m rows k i (by omega))
theorem grd_at (m : Int) (rows : Nat → List Int) (k : Nat) : grd m rows (k + 1) (k + 1) = pick m (rows (k + 1)) (k + 1) (grd m rows k) := if_pos rfl
theorem low_congr {e : List Int} {k : Nat} {x y : Nat → Int} (h : ∀ i, i < k → x i = y i) : low e k x = low e k y := psum_ext k (fun i hi => by rw [h i hi])
theorem want_bd {m : Int} (hm : 0 < m) (e : List Int) (k : Nat) (x : Nat → Int) : 0 ≤ want m e k x ∧ want m e k x < m := ⟨Int.emod_nonneg _ (by omega), Int.emod_lt_of_pos _ hm⟩
theorem sat_iff {m : Int} {e : List Int} {k : Nat} (hk : k ≤ 10) (h : ∀ j, k < j → co e j = 0) (x : Nat → Int) : Sat m x e ↔ co e k * x k % m = want m e k x := by
  unfold Sat want
  rw [low_val hk h x]
  constructor
  · intro hs
    have h1 : m ∣ low e k x + co e k * x k := Int.dvd_of_emod_eq_zero hs
    obtain ⟨t, ht⟩ := h1
    rw [show co e k * x k = -low e k x + m * t by omega, Int.add_mul_emod_self_left]
  · intro hs
    rw [Int.add_emod, hs, ← Int.add_emod, show low e k x + -low e k x = 0 by omega]
    exact Int.zero_emod m
theorem clo_dvd {m c l : Int} (m1 : 2 ≤ m) (h : m / gcdI m c * l % m = 0) : gcdI m c ∣ l := by
  obtain ⟨g1, ⟨q, hq⟩, -⟩ := gcd_facts m1 c
  obtain ⟨G, hG⟩ : ∃ G, gcdI m c = G := ⟨_, rfl⟩
  rw [hG] at h hq g1 ⊢
  subst hq
  rw [Int.mul_ediv_cancel_left _ (by omega)] at h
  obtain ⟨t, ht⟩ := Int.dvd_of_emod_eq_zero h
  have hq0 : q ≠ 0 := by rintro rfl; omega
  exact ⟨t, Int.eq_of_mul_eq_mul_left hq0 (by rw [ht]; grind)⟩
theorem dvd_want {m c l : Int} (h1 : gcdI m c ∣ m) (h : gcdI m c ∣ l) : gcdI m c ∣ -l % m := by
  have h2 := Int.emod_add_mul_ediv (-l) m
  have h3 : gcdI m c ∣ m * (-l / m) := Int.dvd_trans h1 (Int.dvd_mul_right _ _)
  rw [show -l % m = -l - m * (-l / m) by omega]
  exact Int.dvd_sub (Int.dvd_neg.2 h) h3
structure Least (m : Int) (S : (Nat → Int) → Prop) (x : Nat → Int) : Prop where
  one : x 0 = 1
  bd : ∀ k, 0 < k → k ≤ 10 → 0 ≤ x k ∧ x k < m
  sat : S x
  least : ∀ y : Nat → Int, y 0 = 1 → S y → ∀ k, 0 < k → k ≤ 10 → (∀ j, j < k → y j = x j) → 0 ≤ y k → x k ≤ y k
/-- the numbers found fit, and are the least ones -/
theorem grd_ok {m : Int} (m1 : 2 ≤ m) (m2 : m ≤ 10000) {rows : Nat → List Int} (hT : Tri m rows) (hC : ∀ k, 0 < k → k ≤ 10 → Clo m rows k) :
    ∀ k, k ≤ 10 → (∀ j, 0 < j → j ≤ k → 0 ≤ grd m rows k j ∧ grd m rows k j < m ∧ Sat m (grd m rows k) (rows j) ∧ (solM m (co (rows j) j) (want m (rows j) j (grd m rows k))).2 = 0)
  | 0, _ => fun j h0 hj => absurd hj (by omega)
  | k + 1, hk => by
    have ih := grd_ok m1 m2 hT hC k (by omega)
    have hc := hC (k + 1) (by omega) hk (grd m rows k) (grd_zero m rows k) (fun j h0 hj => (ih j h0 (by omega)).2.2.1)
    have hr := (hT.ok (k + 1)).red (k + 1)
    obtain ⟨g1, g2, g3⟩ := gcd_facts m1 (co (rows (k + 1)) (k + 1))
    have hd : gcdI m (co (rows (k + 1)) (k + 1)) ∣ want m (rows (k + 1)) (k + 1) (grd m rows k) := dvd_want g2 (clo_dvd m1 hc)
    obtain ⟨w1, w2⟩ := want_bd (m := m) (by omega) (rows (k + 1)) (k + 1) (grd m rows k)
    obtain ⟨s0, s1, s2, s3, -⟩ := (sol_facts m1 m2 hr.1 hr.2 w1 w2).1 hd
    have hlow : ∀ j, j ≤ k + 1 → low (rows j) j (grd m rows (k + 1)) = low (rows j) j (grd m rows k) := fun j hj => low_congr (fun i hi => grd_keep m rows (by omega))
    intro j h0 hj
    by_cases hjk : j = k + 1
    · subst hjk
      rw [grd_at]
      refine ⟨s1, s2, ?_, ?_⟩
      · rw [sat_iff hk (hT.tri _ h0), grd_at]
        unfold want at s3 ⊢
        rw [hlow _ (Nat.le_refl _)]
        exact s3
      · unfold want at s0 ⊢
        rw [hlow _ (Nat.le_refl _)]
        exact s0
    · obtain ⟨i1, i2, i3, i4⟩ := ih j h0 (by omega)
      rw [grd_keep m rows (by omega)]
      refine ⟨i1, i2, ?_, ?_⟩
      · rw [sat_iff (by omega) (hT.tri _ h0)] at i3 ⊢
        rw [grd_keep m rows (by omega)]
        unfold want at i3 ⊢
        rw [hlow _ (by omega)]
        exact i3
      · unfold want at i4 ⊢
        rw [hlow _ (by omega)]
        exact i4
theorem grd_least {m : Int} (m1 : 2 ≤ m) (m2 : m ≤ 10000) {rows : Nat → List Int} (hT : Tri m rows) (hC : ∀ k, 0 < k → k ≤ 10 → Clo m rows k) :
    Least m (fun x => ∀ j, 0 < j → j ≤ 10 → Sat m x (rows j)) (grd m rows 10) := by
  have h10 := grd_ok m1 m2 hT hC 10 (Nat.le_refl _)
  refine ⟨grd_zero m rows 10, fun k h0 hk => ⟨(h10 k h0 hk).1, (h10 k h0 hk).2.1⟩, fun j h0 hj => (h10 j h0 hj).2.2.1, fun y hy hS k h0 hk he h => ?_⟩
  have hs := hS k h0 hk
  rw [sat_iff hk (hT.tri _ h0)] at hs
  have hr := (hT.ok k).red k
  obtain ⟨w1, w2⟩ := want_bd (m := m) (by omega) (rows k) k y
  have hw : want m (rows k) k y = want m (rows k) k (grd m rows 10) := by unfold want; rw [low_congr he]
  apply Classical.byContradiction
  intro hlt
  have hd : gcdI m (co (rows k) k) ∣ want m (rows k) k y := by
    apply Classical.byContradiction
    intro hn
    exact ((sol_facts m1 m2 hr.1 hr.2 w1 w2).2 hn).2 (y k) hs
  have hx : grd m rows 10 k = (solM m (co (rows k) k) (want m (rows k) k y)).1 := by
    have key : ∀ n, k ≤ n → n ≤ 10 → grd m rows n k = grd m rows k k := by
      intro n hn _
      obtain ⟨q, rfl⟩ : ∃ q, n = k + q := ⟨n - k, by omega⟩
      induction q with
      | zero => rfl
      | succ q ih => rw [← Nat.add_assoc, grd_keep m rows (by omega)]; exact ih (by omega) (by omega)
    have key2 : ∀ i, i < k → grd m rows 10 i = grd m rows (k - 1) i := by
      intro i hi
      have : ∀ q, k - 1 + q ≤ 10 → grd m rows (k - 1 + q) i = grd m rows (k - 1) i := by
        intro q
        induction q with
        | zero => intro _; rfl
        | succ q ih => intro h; rw [← Nat.add_assoc, grd_keep m rows (by omega)]; exact ih (by omega)
      have h2 := this (10 - (k - 1)) (by omega)
      rw [show k - 1 + (10 - (k - 1)) = 10 by omega] at h2
      exact h2
    rw [key 10 hk (Nat.le_refl _)]
    obtain ⟨q, rfl⟩ : ∃ q, k = q + 1 := ⟨k - 1, by omega⟩
    rw [grd_at, hw]
    unfold pick want
    rw [low_congr (x := grd m rows 10) (y := grd m rows q) (fun i hi => key2 i hi)]
  obtain ⟨-, -, -, -, s4⟩ := (sol_facts m1 m2 hr.1 hr.2 w1 w2).1 hd
  exact s4 (y k) h (by rw [← hx]; omega) hs
/-- least solutions of one and the same are equal -/
theorem Least.unique {m : Int} {S : (Nat → Int) → Prop} {x y : Nat → Int} (hx : Least m S x) (hy : Least m S y) : ∀ k, k ≤ 10 → x k = y k := by
  intro k
  induction k using Nat.strongRecOn with
  | _ k ih =>
    intro hk
    by_cases h0 : k = 0
    · rw [h0, hx.one, hy.one]
    · have a := hx.least y hy.one hy.sat k (by omega) hk (fun j hj => (ih j hj (by omega)).symm) (hy.bd k (by omega) hk).1
      have b := hy.least x hx.one hx.sat k (by omega) hk (fun j hj => ih j hj (by omega)) (hx.bd k (by omega) hk).1
      omega
theorem Least.congr {m : Int} {S S' : (Nat → Int) → Prop} {x : Nat → Int} (h : ∀ y : Nat → Int, y 0 = 1 → (S y ↔ S' y)) (hx : Least m S x) : Least m S' x :=
  ⟨hx.one, hx.bd, (h x hx.one).1 hx.sat, fun y hy hS k h0 hk he => hx.least y hy ((h y hy).2 hS) k h0 hk he⟩
/-- all equations of a list put into an empty system -/
def addAll (m : Int) (rows : Nat → List Int) : List (List Int) → Option (Nat → List Int)
  | [] => some rows
  | e :: es => match addS m 10 rows e with
    | none => none
    | some r => addAll m r es
def none0 : Nat → List Int := fun _ => List.replicate 11 0
theorem tri0 {m : Int} (hm : 0 < m) : Tri m none0 := ⟨fun _ => ⟨by unfold none0; rw [List.length_replicate], fun i => by unfold none0; rw [co_zeros]; omega⟩, fun _ _ _ _ => by unfold none0; rw [co_zeros]⟩
theorem sat0 (m : Int) (x : Nat → Int) (k : Nat) : Sat m x (none0 k) := by
  unfold Sat val none0
  rw [show psum (fun i => co (List.replicate 11 0) i * x i) 11 = psum (fun _ => 0) 11 from psum_ext 11 (fun i _ => by rw [co_zeros]; omega), psum_zero]
  exact Int.zero_emod m
theorem clo0 (m : Int) (k : Nat) : Clo m none0 k := by
  intro x _ _
  rw [show low (none0 k) k x = 0 by
    unfold low none0
    rw [show psum (fun i => co (List.replicate 11 0) i * x i) k = psum (fun _ => 0) k from psum_ext k (fun i _ => by rw [co_zeros]; omega), psum_zero]]
  simp
theorem addAll_ok {m : Int} (m1 : 2 ≤ m) (m2 : m ≤ 10000) : ∀ (es : List (List Int)) (rows : Nat → List Int), Tri m rows → (∀ k, 0 < k → k ≤ 10 → Clo m rows k) → (∀ e ∈ es, Ok m e) →
    (∀ r, addAll m rows es = some r → Tri m r ∧ (∀ k, 0 < k → k ≤ 10 → Clo m r k) ∧ ∀ x : Nat → Int, x 0 = 1 → ((∀ j, 0 < j → j ≤ 10 → Sat m x (r j)) ↔ ((∀ j, 0 < j → j ≤ 10 → Sat m x (rows j)) ∧ ∀ e ∈ es, Sat m x e))) ∧
    (addAll m rows es = none → ∀ x : Nat → Int, x 0 = 1 → ¬ ((∀ j, 0 < j → j ≤ 10 → Sat m x (rows j)) ∧ ∀ e ∈ es, Sat m x e))
  | [], rows, hT, hC, _ => by
    unfold addAll
    refine ⟨fun r h => ?_, fun h => (by cases h)⟩
    injection h with h
    subst h
    exact ⟨hT, hC, fun x _ => ⟨fun h => ⟨h, fun e he => by cases he⟩, fun h => h.1⟩⟩
  | e :: es, rows, hT, hC, hO => by
    have hO' := fun f hf => hO f (List.mem_cons_of_mem _ hf)
    obtain ⟨s1, n1⟩ := addS_ok m1 m2 10 rows e hT (hO e (List.mem_cons_self)) (lastF_le e 10) (Nat.le_refl _)
    unfold addAll
    cases h1 : addS m 10 rows e with
    | none =>
      exact ⟨fun r h => (by cases h), fun _ x hx h => n1 h1 x hx ⟨h.1, h.2 e (List.mem_cons_self)⟩⟩
    | some r1 =>
      have A := s1 r1 h1
      obtain ⟨s2, n2⟩ := addAll_ok m1 m2 es r1 A.tri (A.clo hC) hO'
      dsimp only
      refine ⟨fun r h => ?_, fun h x hx hh => n2 h x hx ⟨(A.sat x hx).2 ⟨hh.1, hh.2 e (List.mem_cons_self)⟩, fun f hf => hh.2 f (List.mem_cons_of_mem _ hf)⟩⟩
      obtain ⟨t1, t2, t3⟩ := s2 r h
      refine ⟨t1, t2, fun x hx => ?_⟩
      rw [t3 x hx, A.sat x hx]
      constructor
      · rintro ⟨⟨a, b⟩, c⟩
        refine ⟨a, fun f hf => ?_⟩
        rcases List.mem_cons.1 hf with rfl | hf
        · exact b
        · exact c f hf
      · rintro ⟨a, b⟩
        exact ⟨⟨a, b e (List.mem_cons_self)⟩, fun f hf => b f (List.mem_cons_of_mem _ hf)⟩
/-- the model of leastSolution: the numbers at 1 to 10, if there are any -/
def leastS (m : Int) (es : List (List Int)) : Option (Nat → Int) := (addAll m none0 es).map fun r => grd m r 10
theorem leastS_some {m : Int} (m1 : 2 ≤ m) (m2 : m ≤ 10000) {es : List (List Int)} (hO : ∀ e ∈ es, Ok m e) {x : Nat → Int} (h : leastS m es = some x) : Least m (fun y => ∀ e ∈ es, Sat m y e) x := by
  unfold leastS at h
  cases h1 : addAll m none0 es with
  | none => rw [h1] at h; cases h
  | some r =>
    rw [h1] at h
    injection h with h
    subst h
    obtain ⟨t1, t2, t3⟩ := (addAll_ok m1 m2 es none0 (tri0 (by omega)) (fun k _ _ => clo0 m k) hO).1 r h1
    exact (grd_least m1 m2 t1 t2).congr (fun y hy => by
      rw [t3 y hy]
      exact ⟨fun h => h.2, fun h => ⟨fun j _ _ => sat0 m y j, h⟩⟩)
theorem leastS_none {m : Int} (m1 : 2 ≤ m) (m2 : m ≤ 10000) {es : List (List Int)} (hO : ∀ e ∈ es, Ok m e) (h : leastS m es = none) (y : Nat → Int) (hy : y 0 = 1) : ¬ ∀ e ∈ es, Sat m y e := by
  unfold leastS at h
  cases h1 : addAll m none0 es with
  | none => exact fun hh => (addAll_ok m1 m2 es none0 (tri0 (by omega)) (fun k _ _ => clo0 m k) hO).2 h1 y hy ⟨fun j _ _ => sat0 m y j, hh⟩
  | some r => rw [h1] at h; cases h
end Sys
end Go.Proofs.YtfhdgcndiljjcaaGreatDoor

/- Plain number theory: numbers of choices. No program in sight. -/
namespace Go.Proofs.YtfhdgcndiljjcaaGreatDoor
namespace Num

/-- the number of ways to choose k of n things -/
def bin : Nat → Nat → Nat
  | _, 0 => 1
  | 0, _ + 1 => 0
  | n + 1, k + 1 => bin n k + bin n (k + 1)
theorem bin_zero (n : Nat) : bin n 0 = 1 := by cases n <;> rfl
theorem bin_succ (n k : Nat) : bin (n + 1) (k + 1) = bin n k + bin n (k + 1) := rfl
theorem bin_mul (n : Nat) : ∀ k, (k + 1) * bin n (k + 1) + k * bin n k = n * bin n k := by
  induction n with
  | zero =>
    intro k
    cases k <;> simp [bin]
  | succ n ih =>
    intro k
    cases k with
    | zero =>
      have h := ih 0
      rw [bin_zero] at h ⊢
      rw [bin_succ, bin_zero]
      omega
    | succ k =>
      have h1 := ih k
      have h2 := ih (k + 1)
      rw [bin_succ, bin_succ]
      generalize bin n k = b0 at *
      generalize bin n (k + 1) = b1 at *
      generalize bin n (k + 1 + 1) = b2 at *
      grind
theorem bin_over (n : Nat) : ∀ k, n < k → bin n k = 0 := by
  induction n with
  | zero => intro k h; cases k with
    | zero => omega
    | succ k => rfl
  | succ n ih => intro k h; cases k with
    | zero => omega
    | succ k => rw [bin_succ, ih k (by omega), ih (k + 1) (by omega)]
theorem bin_self (n : Nat) : bin n n = 1 := by
  induction n with
  | zero => rfl
  | succ n ih => rw [bin_succ, ih, bin_over n (n + 1) (by omega)]
theorem bin_pos (n : Nat) : ∀ k, k ≤ n → 0 < bin n k := by
  induction n with
  | zero => intro k h; obtain rfl : k = 0 := by omega
            exact Nat.one_pos
  | succ n ih => intro k h; cases k with
    | zero => rw [bin_zero]; omega
    | succ k => rw [bin_succ]; have := ih k (by omega); omega
theorem bin_mono (n k : Nat) : bin n k ≤ bin (n + 1) k := by
  cases k with
  | zero => rw [bin_zero, bin_zero]; omega
  | succ k => rw [bin_succ]; omega
theorem bin_mono' (n k : Nat) : ∀ d, bin n k ≤ bin (n + d) k
  | 0 => Nat.le_refl _
  | d + 1 => Nat.le_trans (bin_mono' n k d) (bin_mono (n + d) k)

/-- a row of the triangle, quickly -/
def rowL : Nat → List Nat
  | 0 => [1]
  | n + 1 => List.zipWith (· + ·) (0 :: rowL n) (rowL n ++ [0])
theorem rowL_length : ∀ n, (rowL n).length = n + 1
  | 0 => rfl
  | n + 1 => by simp [rowL, rowL_length n]
theorem rowL_get : ∀ n k, k ≤ n → (rowL n)[k]? = some (bin n k)
  | 0, k, h => by obtain rfl : k = 0 := by omega
                  rfl
  | n + 1, k, h => by
    have hl := rowL_length n
    rw [rowL, List.getElem?_zipWith]
    cases k with
    | zero =>
      have h0 := rowL_get n 0 (by omega)
      rw [List.getElem?_append_left (by omega), h0, bin_zero, bin_zero]
      rfl
    | succ k =>
      rw [List.getElem?_cons_succ, rowL_get n k (by omega)]
      by_cases hk : k + 1 ≤ n
      · rw [List.getElem?_append_left (by omega), rowL_get n (k + 1) hk, bin_succ]
      · obtain rfl : k = n := by omega
        rw [List.getElem?_append_right (by omega), hl, Nat.sub_self, bin_succ, bin_over k (k + 1) (by omega)]
        rfl
theorem row60 : (rowL 60).all (fun x => decide (x ≤ 118264581564861424)) = true := by decide +kernel
theorem bin_le (n k : Nat) (hn : n ≤ 60) : bin n k ≤ 118264581564861424 := by
  by_cases hk : k ≤ 60
  · have h1 := bin_mono' n k (60 - n)
    rw [show n + (60 - n) = 60 by omega] at h1
    have h2 := rowL_get 60 k hk
    have h3 := List.all_eq_true.1 row60 _ (List.mem_of_getElem? h2)
    have h4 := of_decide_eq_true h3
    omega
  · rw [bin_over n k (by omega)]; omega
/-- a step of the product -/
theorem bin_next {n k : Nat} (h : k < n) : bin n k * (n - k) = bin n (k + 1) * (k + 1) := by
  have h1 := bin_mul n k
  have h2 : n * bin n k = (n - k) * bin n k + k * bin n k := by rw [← Nat.add_mul]; congr 1; omega
  rw [Nat.mul_comm (bin n k), Nat.mul_comm (bin n (k + 1))]
  omega
theorem bin_step {n k : Nat} (h : k < n) : bin n k * (n - k) / (k + 1) = bin n (k + 1) := by
  rw [bin_next h, Nat.mul_div_cancel _ (by omega)]
theorem bin_prod {n k : Nat} (hn : n ≤ 60) : bin n k * (n - k) ≤ 118264581564861424 * 60 := Nat.mul_le_mul (bin_le n k hn) (by omega)

end Num
end Go.Proofs.YtfhdgcndiljjcaaGreatDoor

/- Contracts of the two binomial functions. -/
namespace Go.Proofs.YtfhdgcndiljjcaaGreatDoor
open Go.RowKit Go.WideShapes Go.ChangeShapes Go.ChangeAt

/-- the number of ways to choose k of n things -/
def binI (n k : Int) : Int := (Num.bin n.toNat k.toNat : Nat)
theorem binI_bd {n k : Int} (hn : n ≤ 60) : 0 ≤ binI n k ∧ binI n k ≤ 118264581564861424 := by
  have := Num.bin_le n.toNat k.toNat (by omega)
  unfold binI; omega

/-- the beginning of a row of the triangle -/
def rowI (n j : Nat) : List Int := (List.range j).map fun i => ((Num.bin n i : Nat) : Int)
theorem rowI_length (n j : Nat) : (rowI n j).length = j := by simp [rowI]
theorem rowI_succ (n j : Nat) : rowI n (j + 1) = rowI n j ++ [((Num.bin n j : Nat) : Int)] := by simp [rowI, List.range_succ]
theorem rowI_one (n : Nat) : rowI n 1 = [1] := by simp [rowI, Num.bin_zero]
theorem rowI_get (n j i : Nat) (h : i < j) : (rowI n j)[i]?.getD 0 = ((Num.bin n i : Nat) : Int) := by simp [rowI, h]

end Go.Proofs.YtfhdgcndiljjcaaGreatDoor

/- Contracts of greatestDivisor and CommonDivisor, of the program and of the model. -/
namespace Go.Proofs.YtfhdgcndiljjcaaGreatDoor
open Go.RowKit Go.WideShapes Go.ChangeShapes Go.ChangeAt

end Go.Proofs.YtfhdgcndiljjcaaGreatDoor

/- Contracts of BinomialNumber and BinomialDivisor, of the program and of the model. -/
namespace Go.Proofs.YtfhdgcndiljjcaaGreatDoor
open Go.RowKit Go.WideShapes Go.ChangeShapes Go.ChangeAt


/-- the greatest common divisor of the first numbers of choices -/
def lz (n : Int) : Nat → Int
  | 0 => 0
  | k + 1 => gcdI (lz n k) (binI n (k + 1 : Nat))
theorem gcdI_le (a : Int) {b : Int} (hb : 0 < b) : 0 ≤ gcdI a b ∧ gcdI a b ≤ b := by
  have := Nat.le_of_dvd (show 0 < b.natAbs by omega) (Nat.gcd_dvd_right a.natAbs b.natAbs)
  unfold gcdI; omega
theorem lz_bd {n : Int} (h2 : n ≤ 60) : ∀ k : Nat, (k : Int) ≤ n → 0 ≤ lz n k ∧ lz n k ≤ 118264581564861424
  | 0, _ => by simp [lz]
  | k + 1, h => by
    have hp : 0 < binI n (k + 1 : Nat) := by
      have := Num.bin_pos n.toNat (k + 1) (by omega)
      unfold binI; simp only [Int.toNat_natCast]; omega
    have h3 := gcdI_le (lz n k) hp
    have h4 := binI_bd (k := (k + 1 : Nat)) h2
    rw [lz]; omega

end Go.Proofs.YtfhdgcndiljjcaaGreatDoor

/- Plain facts on the layers of Lazard's cocycles. -/
namespace Go.Proofs.YtfhdgcndiljjcaaGreatDoor
open Go.RowKit

/-- the coefficient of C(n) at x^i y^(n - i) -/
def layF (n i : Nat) : Int := if 0 < i ∧ i < n then (binI (n : Int) (i : Int)).tdiv (lz (n : Int) (n - 1)) else 0
/-- a layer as far as the program has written it: below k -/
def layP (n k : Nat) : List Int := (List.range (n + 1)).map fun i => if i < k then layF n i else 0
def layL (n : Nat) : List Int := (List.range (n + 1)).map (layF n)
theorem layL_length (n : Nat) : (layL n).length = n + 1 := by simp [layL]
theorem layP_length (n k : Nat) : (layP n k).length = n + 1 := by simp [layP]
theorem layP_co {n k i : Nat} (h : i ≤ n) : Ser.co (layP n k) i = if i < k then layF n i else 0 := by
  unfold Ser.co layP
  rw [List.getElem?_map, List.getElem?_range (by omega)]; rfl
theorem layL_co {n i : Nat} (h : i ≤ n) : Ser.co (layL n) i = layF n i := by
  unfold Ser.co layL
  rw [List.getElem?_map, List.getElem?_range (by omega)]; rfl
theorem layP_one (n : Nat) : layP n 1 = List.replicate (n + 1) 0 := by
  refine Ser.list_ext (by rw [layP_length, List.length_replicate]) (fun i hi => ?_)
  rw [layP_length] at hi
  rw [layP_co (by omega), Ser.co_zeros]
  by_cases h : i < 1
  · rw [if_pos h]; unfold layF; rw [if_neg (by omega)]
  · rw [if_neg h]
theorem layP_end (n : Nat) : layP n n = layL n := by
  refine Ser.list_ext (by rw [layP_length, layL_length]) (fun i hi => ?_)
  rw [layP_length] at hi
  rw [layP_co (by omega), layL_co (by omega)]
  by_cases h : i < n
  · rw [if_pos h]
  · rw [if_neg h]; unfold layF; rw [if_neg (by omega)]
theorem layP_step {n k : Nat} (h : k ≤ n) : (layP n k).set k (layF n k) = layP n (k + 1) := by
  refine Ser.list_ext (by rw [List.length_set, layP_length, layP_length]) (fun i hi => ?_)
  rw [List.length_set, layP_length] at hi
  rw [Ser.co_set (by rw [layP_length]; omega), layP_co (by omega), layP_co (by omega)]
  by_cases e : i = k
  · rw [if_pos e, if_pos (by omega), e]
  · rw [if_neg e]
    by_cases c : i < k
    · rw [if_pos c, if_pos (by omega)]
    · rw [if_neg c, if_neg (by omega)]
theorem layF_mid {n k : Nat} (h1 : 0 < k) (h2 : k < n) : layF n k = (binI (n : Int) (k : Int)).tdiv (lz (n : Int) (n - 1)) := by
  unfold layF; rw [if_pos ⟨h1, h2⟩]
theorem lz_pos {n : Int} : ∀ k : Nat, 0 < k → (k : Int) ≤ n → 0 < lz n k
  | 0, h, _ => absurd h (by omega)
  | k + 1, _, h => by
    have hp : 0 < binI n (k + 1 : Nat) := by
      have := Num.bin_pos n.toNat (k + 1) (by omega)
      unfold binI; simp only [Int.toNat_natCast]; omega
    rw [lz]
    unfold gcdI
    have := Nat.gcd_pos_of_pos_right (lz n k).natAbs (show 0 < (binI n (k + 1 : Nat)).natAbs by omega)
    omega
theorem layF_small : ∀ n : Fin 11, ∀ i : Fin 11, 0 ≤ layF n i ∧ layF n i ≤ 252 := by decide +kernel
theorem layF_bd {n i : Nat} (h : n ≤ 10) : 0 ≤ layF n i ∧ layF n i ≤ 252 := by
  by_cases hi : i ≤ 10
  · exact layF_small ⟨n, by omega⟩ ⟨i, by omega⟩
  · unfold layF; rw [if_neg (by omega)]; omega
/-- a layer as a table: 0 below the degree -/
def ofLay (d : Nat) (f : Nat → Int) : Nat → Nat → Int := fun i j => if i + j < d then 0 else f i
/-- the model's table, its rows below k written -/
def lazQ (n k : Nat) : Nat → Nat → Int := fun i j => if i < k then ofLay n (layF n) i j else 0
theorem lazQ_one (m : Int) (n : Nat) : Pl.tab m n (lazQ n 1) = Pl.tab m n fun _ _ => 0 := Pl.tab_congr (Pl.Eq.of m n (fun i j _ => by
  unfold lazQ ofLay layF
  by_cases h : i < 1
  · rw [if_pos h]; split
    · rfl
    · rw [if_neg (by omega)]
  · rw [if_neg h]))
theorem lazQ_end (m : Int) (n : Nat) : Pl.tab m n (lazQ n n) = Pl.tab m n (ofLay n (layF n)) := Pl.tab_congr (Pl.Eq.of m n (fun i j _ => by
  unfold lazQ
  by_cases h : i < n
  · rw [if_pos h]
  · rw [if_neg h]; unfold ofLay layF; split
    · rfl
    · rw [if_neg (by omega)]))
theorem lazQ_step {m : Int} {n k : Nat} (h2 : k < n) : (Pl.tab m n (lazQ n k)).set k ((Pl.rw' (Pl.tab m n (lazQ n k)) k).set (n - k) (layF n k % m)) = Pl.tab m n (lazQ n (k + 1)) := by
  refine Pl.tab_put (by omega) ?_ (fun i j hij hne => ?_)
  · unfold lazQ ofLay
    rw [if_pos (by omega), if_neg (by omega)]
  · unfold lazQ ofLay
    by_cases hi : i < k
    · rw [if_pos hi, if_pos (by omega)]
    · rw [if_neg hi]
      by_cases he : i < k + 1
      · rw [if_pos he, if_pos (by omega)]
      · rw [if_neg he]
/-- the table of C(n) -/
def lazT (m : Int) (n : Nat) : List (List Int) := Pl.tab m n (ofLay n (layF n))
/-- the model of LazardCocycle -/
def lazP (m n : Int) : Int × List (List Int) × Int :=
  if isM m = true then (if inB n 2 10 = true then (m, lazT m n.toNat, 0) else (0, [], 2)) else (0, [], 1)
/-- the number of laws of degree k + 1, if it is not too great -/
def cntO (m : Int) : Nat → Option Int
  | 0 => some 1
  | k + 1 => match cntO m k with
    | none => none
    | some c => if 1000000000000000000 / m < c then none else some (c * m)
theorem cntO_bd {m : Int} (m1 : 2 ≤ m) : ∀ k c, cntO m k = some c → 1 ≤ c ∧ c ≤ 1000000000000000000
  | 0, c, h => by simp [cntO] at h; omega
  | k + 1, c, h => by
    unfold cntO at h
    cases hk : cntO m k with
    | none => rw [hk] at h; simp at h
    | some b =>
      rw [hk] at h
      obtain ⟨b1, b2⟩ := cntO_bd m1 k b hk
      by_cases hb : 1000000000000000000 / m < b
      · simp [hb] at h
      · simp [hb] at h
        have h3 : b * m ≤ 1000000000000000000 := Int.le_trans (Int.mul_le_mul_of_nonneg_right (show b ≤ 1000000000000000000 / m by omega) (by omega)) (Int.ediv_mul_le _ (by omega))
        have h4 : 1 * 1 ≤ b * m := Int.mul_le_mul (by omega) (by omega) (by omega) (by omega)
        omega
theorem cntO_none {m : Int} {k : Nat} (h : cntO m k = none) (n : Nat) (hn : k ≤ n) : cntO m n = none := by
  obtain ⟨q, rfl⟩ : ∃ q, n = k + q := ⟨n - k, by omega⟩
  clear hn
  induction q with
  | zero => exact h
  | succ q ih => rw [← Nat.add_assoc]; unfold cntO; rw [ih]
def cntM (m d : Int) : Int × Int :=
  if isM m = true then (if inB d 1 10 = true then (match cntO m (d.toNat - 1) with
    | some c => (c, 0)
    | none => (0, 3)) else (0, 2)) else (0, 1)
end Go.Proofs.YtfhdgcndiljjcaaGreatDoor

/- Plain facts: what fulfils the equations of cocycles in one degree is a multiple of Lazard's cocycle (degrees 2 to 10, by integer certificates that the kernel checks). -/
namespace Go.Proofs.YtfhdgcndiljjcaaGreatDoor
open Go.RowKit

namespace Coc
/-- a linear form in p(1), p(2), .. -/
def lin : List Int → Nat → (Nat → Int) → Int
  | [], _, _ => 0
  | c :: r, i, p => c * p i + lin r (i + 1) p
def unit (n i : Nat) (c : Int) : List Int := (List.range n).map fun j => if j = i then c else 0
def add (a b : List Int) : List Int := List.zipWith (· + ·) a b
def smul (c : Int) (a : List Int) : List Int := a.map (c * ·)
theorem lin_add (p : Nat → Int) : ∀ (a b : List Int) (i : Nat), a.length = b.length → lin (add a b) i p = lin a i p + lin b i p
  | [], [], _, _ => rfl
  | x :: a, y :: b, i, h => by
    show (x + y) * p i + lin (add a b) (i + 1) p = x * p i + lin a (i + 1) p + (y * p i + lin b (i + 1) p)
    rw [lin_add p a b (i + 1) (by simpa using h), Int.add_mul]
    omega
  | [], _ :: _, _, h => by simp at h
  | _ :: _, [], _, h => by simp at h
theorem lin_smul (p : Nat → Int) (c : Int) : ∀ (a : List Int) (i : Nat), lin (smul c a) i p = c * lin a i p
  | [], _ => by show (0 : Int) = c * 0; omega
  | x :: a, i => by
    show (c * x) * p i + lin (smul c a) (i + 1) p = c * (x * p i + lin a (i + 1) p)
    rw [lin_smul p c a (i + 1), Int.mul_add, Int.mul_assoc]
/-- the equations: symmetry, and cocycles' -/
def symF (n i : Nat) : List Int := add (unit (n - 1) (i - 1) 1) (unit (n - 1) (n - i - 1) (-1))
def cocF (n a b : Nat) : List Int := add (unit (n - 1) (a + b - 1) (Num.bin (a + b) a : Nat)) (unit (n - 1) (a - 1) (-(Num.bin (n - a) b : Nat)))
def pairs (n : Nat) : List (Nat × Nat) := (List.range n).flatMap fun a => (List.range n).filterMap fun b => if 0 < a ∧ 0 < b ∧ a + b < n then some (a, b) else none
def syms (n : Nat) : List Nat := (List.range n).filter fun i => decide (0 < i ∧ 2 * i < n)
def forms (n : Nat) : List (List Int) := (syms n).map (symF n) ++ (pairs n).map (fun ab => cocF n ab.1 ab.2)
def comb (n : Nat) : List Int → List (List Int) → List Int
  | c :: K, f :: F => add (smul c f) (comb n K F)
  | _, _ => List.replicate n 0
theorem lin_unit (p : Nat → Int) (n i : Nat) (c : Int) (h : i < n) : lin (unit n i c) 1 p = c * p (i + 1) := by
  have key : ∀ (k s : Nat), lin ((List.range' s k).map fun j => if j = i then c else 0) (s + 1) p = if s ≤ i ∧ i < s + k then c * p (i + 1) else 0 := by
    intro k
    induction k with
    | zero => intro s; rw [if_neg (by omega)]; rfl
    | succ k ih =>
      intro s
      rw [List.range'_succ]
      show (if s = i then c else 0) * p (s + 1) + lin ((List.range' (s + 1) k).map fun j => if j = i then c else 0) (s + 1 + 1) p = _
      rw [ih (s + 1)]
      by_cases hs : s = i
      · rw [if_pos hs, if_neg (by omega), if_pos (by omega), hs]; omega
      · rw [if_neg hs]
        by_cases hi : s + 1 ≤ i ∧ i < s + 1 + k
        · rw [if_pos hi, if_pos (by omega)]; omega
        · rw [if_neg hi, if_neg (by omega)]; omega
  have := key n 0
  unfold unit
  rw [List.range_eq_range', this, if_pos (by omega)]
theorem unit_length (n i : Nat) (c : Int) : (unit n i c).length = n := by simp [unit]
theorem add_length {a b : List Int} {n : Nat} (ha : a.length = n) (hb : b.length = n) : (add a b).length = n := by simp [add, ha, hb]
theorem comb_length (n : Nat) : ∀ (K : List Int) (F : List (List Int)), (∀ f ∈ F, f.length = n) → (comb n K F).length = n
  | [], _, _ => by simp [comb]
  | _ :: _, [], _ => by simp [comb]
  | c :: K, f :: F, h => by
    unfold comb
    exact add_length (by simp [smul]; exact h f (List.mem_cons_self)) (comb_length n K F (fun g hg => h g (List.mem_cons_of_mem _ hg)))
theorem lin_zeros (p : Nat → Int) : ∀ (n i : Nat), lin (List.replicate n 0) i p = 0
  | 0, _ => rfl
  | n + 1, i => by
    rw [List.replicate_succ]
    show 0 * p i + lin (List.replicate n 0) (i + 1) p = 0
    rw [lin_zeros p n (i + 1)]; omega
theorem comb_zero (m : Int) (p : Nat → Int) (n : Nat) : ∀ (K : List Int) (F : List (List Int)), (∀ f ∈ F, f.length = n ∧ lin f 1 p % m = 0) → lin (comb n K F) 1 p % m = 0
  | [], _, _ => by unfold comb; rw [lin_zeros]; exact Int.zero_emod m
  | _ :: _, [], _ => by unfold comb; rw [lin_zeros]; exact Int.zero_emod m
  | c :: K, f :: F, h => by
    have ih := comb_zero m p n K F (fun g hg => h g (List.mem_cons_of_mem _ hg))
    obtain ⟨h1, h2⟩ := h f (List.mem_cons_self)
    unfold comb
    rw [lin_add p _ _ 1 (by rw [comb_length n K F (fun g hg => (h g (List.mem_cons_of_mem _ hg)).1)]; simp [smul, h1]), lin_smul, Int.add_emod, ih, Int.mul_emod, h2]
    simp
def uOf : Nat → List Int
  | 2 => [1]
  | 3 => [1, 0]
  | 4 => [-1, 1, 0]
  | 5 => [1, 0, 0, 0]
  | 6 => [-14, 7, -1, 0, 0]
  | 7 => [1, 0, 0, 0, 0, 0]
  | 8 => [51, -17, 0, 1, 0, 0, 0]
  | 9 => [-9, 0, 1, 0, 0, 0, 0, 0]
  | 10 => [-404, 101, 0, 0, -2, 0, 0, 0, 0]
  | _ => []
def certOf : Nat → List (List Int)
  | 2 => [[]]
  | 3 => [[0, 0], [-1, 0]]
  | 4 => [[3, 0, 0, 1], [3, 0, 0, 1], [2, 0, 0, 1]]
  | 5 => [[0, 0, 0, 0, 0, 0, 0, 0], [-2, -2, 0, 0, 0, 0, -1, 1], [-2, -3, 0, 0, 0, 0, -1, 1], [-1, 0, 0, 0, 0, 0, 0, 0]]
  | 6 => [[85, -42, 0, 0, 0, 0, 0, 0, 0, -2, 0, 17], [210, -104, 0, 0, 0, 0, 0, 0, 0, -5, 0, 42], [280, -140, 0, 0, 0, 0, 0, 0, 0, -7, 0, 56], [210, -105, 0, 0, 0, 0, 0, 0, 0, -5, 0, 42], [84, -42, 0, 0, 0, 0, 0, 0, 0, -2, 0, 17]]
  | 7 => [[0, 0, 0, 0, 0, 0, 0, 0, 0, 0, 0, 0, 0, 0, 0, 0, 0, 0], [-3, 1, 0, 0, 0, 0, 0, 0, 0, 0, 0, 0, 0, 0, 0, 1, -1, 2], [-5, 0, -3, 0, 0, 0, 0, 0, 0, 0, 0, 0, 0, 0, -1, -4, 5, -10], [-5, 0, -4, 0, 0, 0, 0, 0, 0, 0, 0, 0, 0, 0, -1, -4, 5, -10], [-3, 0, 0, 0, 0, 0, 0, 0, 0, 0, 0, 0, 0, 0, 0, 1, -1, 2], [-1, 0, 0, 0, 0, 0, 0, 0, 0, 0, 0, 0, 0, 0, 0, 0, 0, 0]]
  | 8 => [[-203, 68, -100, 0, 0, 0, 0, 0, 0, 0, 0, 0, 0, 0, 0, 0, -10, 0, -2, 2, 0, 30, 0, -29], [-714, 239, -350, 0, 0, 0, 0, 0, 0, 0, 0, 0, 0, 0, 0, 0, -35, 0, -7, 7, 0, 105, 0, -102], [-1428, 476, -709, 0, 0, 0, 0, 0, 0, 0, 0, 0, 0, 0, 0, 0, -71, 0, -14, 14, 0, 213, 0, -204], [-1785, 595, -850, 0, 0, 0, 0, 0, 0, 0, 0, 0, 0, 0, 0, 0, -85, 0, -17, 17, 0, 255, 0, -255], [-1428, 476, -710, 0, 0, 0, 0, 0, 0, 0, 0, 0, 0, 0, 0, 0, -71, 0, -14, 14, 0, 213, 0, -204], [-714, 238, -350, 0, 0, 0, 0, 0, 0, 0, 0, 0, 0, 0, 0, 0, -35, 0, -7, 7, 0, 105, 0, -102], [-204, 68, -100, 0, 0, 0, 0, 0, 0, 0, 0, 0, 0, 0, 0, 0, -10, 0, -2, 2, 0, 30, 0, -29]]
  | 9 => [[28, 0, -3, 0, 0, 0, 0, 0, 0, 0, 0, 0, 0, 0, 0, 0, 0, 0, 0, 0, 0, 0, 0, 0, 0, 0, 0, 0, 0, -6, 7, -21], [108, 1, -12, 0, 0, 0, 0, 0, 0, 0, 0, 0, 0, 0, 0, 0, 0, 0, 0, 0, 0, 0, 0, 0, 0, 0, 0, 0, 0, -23, 27, -81], [252, 0, -27, 0, 0, 0, 0, 0, 0, 0, 0, 0, 0, 0, 0, 0, 0, 0, 0, 0, 0, 0, 0, 0, 0, 0, 0, 0, 0, -54, 63, -189], [378, 0, -42, -4, 0, 0, 0, 0, 0, 0, 0, 0, 0, 0, 0, 0, 0, 0, 0, 0, 0, 0, 0, 0, 0, -1, 1, 0, 0, -96, 112, -336], [378, 0, -42, -5, 0, 0, 0, 0, 0, 0, 0, 0, 0, 0, 0, 0, 0, 0, 0, 0, 0, 0, 0, 0, 0, -1, 1, 0, 0, -96, 112, -336], [252, 0, -28, 0, 0, 0, 0, 0, 0, 0, 0, 0, 0, 0, 0, 0, 0, 0, 0, 0, 0, 0, 0, 0, 0, 0, 0, 0, 0, -54, 63, -189], [108, 0, -12, 0, 0, 0, 0, 0, 0, 0, 0, 0, 0, 0, 0, 0, 0, 0, 0, 0, 0, 0, 0, 0, 0, 0, 0, 0, 0, -23, 27, -81], [27, 0, -3, 0, 0, 0, 0, 0, 0, 0, 0, 0, 0, 0, 0, 0, 0, 0, 0, 0, 0, 0, 0, 0, 0, 0, 0, 0, 0, -6, 7, -21]]
  | 10 => [[4041, -2690, 0, 0, 0, 0, 0, 0, 0, 0, 0, 0, 0, 0, 0, -24, 0, 0, 0, 0, 0, 0, 0, 0, 0, 0, 0, 0, 0, 0, -4, 0, 0, 0, 576, 0, -672, 1344, 0, 6721], [18180, -12104, 0, 0, 0, 0, 0, 0, 0, 0, 0, 0, 0, 0, 0, -108, 0, 0, 0, 0, 0, 0, 0, 0, 0, 0, 0, 0, 0, 0, -18, 0, 0, 0, 2592, 0, -3024, 6048, 0, 30244], [48480, -32280, 1, 0, 0, 0, 0, 0, 0, 0, 0, 0, 0, 0, 0, -288, 0, 0, 0, 0, 0, 0, 0, 0, 0, 0, 0, 0, 0, 0, -48, 0, 0, 0, 6913, 0, -8065, 16130, 0, 80660], [84840, -56560, 0, 1, 0, 0, 0, 0, 0, 0, 0, 0, 0, 0, 0, -505, 0, 0, 0, 0, 0, 0, 0, 0, 0, 0, 0, 0, 0, 0, -84, 0, 0, 0, 12120, 0, -14140, 28280, 0, 141400], [101808, -67872, 0, 0, 0, 0, 0, 0, 0, 0, 0, 0, 0, 0, 0, -606, 0, 0, 0, 0, 0, 0, 0, 0, 0, 0, 0, 0, 0, 0, -101, 0, 0, 0, 14544, 0, -16968, 33936, 0, 169680], [84840, -56560, 0, 0, 0, 0, 0, 0, 0, 0, 0, 0, 0, 0, 0, -505, 0, 0, 0, 0, 0, 0, 0, 0, 0, 0, 0, 0, 0, 0, -84, 0, 0, 0, 12120, 0, -14140, 28280, 0, 141400], [48480, -32280, 0, 0, 0, 0, 0, 0, 0, 0, 0, 0, 0, 0, 0, -288, 0, 0, 0, 0, 0, 0, 0, 0, 0, 0, 0, 0, 0, 0, -48, 0, 0, 0, 6913, 0, -8065, 16130, 0, 80660], [18180, -12105, 0, 0, 0, 0, 0, 0, 0, 0, 0, 0, 0, 0, 0, -108, 0, 0, 0, 0, 0, 0, 0, 0, 0, 0, 0, 0, 0, 0, -18, 0, 0, 0, 2592, 0, -3024, 6048, 0, 30244], [4040, -2690, 0, 0, 0, 0, 0, 0, 0, 0, 0, 0, 0, 0, 0, -24, 0, 0, 0, 0, 0, 0, 0, 0, 0, 0, 0, 0, 0, 0, -4, 0, 0, 0, 576, 0, -672, 1344, 0, 6721]]
  | _ => []
/-- the number that the certificate of i makes: p(i + 1) less C(n) times the sum of u -/
def goal (n i : Nat) : List Int := add (unit (n - 1) i 1) (smul (-(layF n (i + 1))) (uOf n))
def checked (n : Nat) : Bool := (List.range (n - 1)).all fun i => decide (comb (n - 1) ((certOf n)[i]?.getD []) (forms n) = goal n i)
theorem checked_all : ∀ n : Fin 9, checked (n.val + 2) = true := by decide +kernel
theorem uOf_length : ∀ n : Fin 9, (uOf (n.val + 2)).length = n.val + 1 := by decide
/-- Lazard's lemma in the degrees 2 to 10 -/
theorem comparison {m : Int} {n : Nat} {p : Nat → Int} (n1 : 2 ≤ n) (n2 : n ≤ 10) (hs : ∀ i, 0 < i → i < n → (p i - p (n - i)) % m = 0)
    (hc : ∀ a b, 0 < a → 0 < b → a + b < n → (((Num.bin (a + b) a : Nat) : Int) * p (a + b) - ((Num.bin (n - a) b : Nat) : Int) * p a) % m = 0) :
    ∃ c, ∀ i, 0 < i → i < n → (p i - c * layF n i) % m = 0 := by
  refine ⟨lin (uOf n) 1 p, fun i h0 hi => ?_⟩
  obtain ⟨k, rfl⟩ : ∃ k, i = k + 1 := ⟨i - 1, by omega⟩
  have hck := checked_all ⟨n - 2, by omega⟩
  have hul := uOf_length ⟨n - 2, by omega⟩
  simp only [show n - 2 + 2 = n by omega] at hck hul
  have hck2 := List.all_eq_true.1 hck k (List.mem_range.2 (by omega))
  have hk := of_decide_eq_true hck2
  have hz := comb_zero m p (n - 1) ((certOf n)[k]?.getD []) (forms n) (fun f hf => by
    unfold forms at hf
    rcases List.mem_append.1 hf with h | h
    · obtain ⟨q, hq, rfl⟩ := List.mem_map.1 h
      unfold syms at hq
      rw [List.mem_filter, List.mem_range, decide_eq_true_eq] at hq
      refine ⟨add_length (unit_length _ _ _) (unit_length _ _ _), ?_⟩
      unfold symF
      rw [lin_add p _ _ 1 (by rw [unit_length, unit_length]), lin_unit p _ _ _ (by omega), lin_unit p _ _ _ (by omega)]
      rw [show q - 1 + 1 = q by omega, show n - q - 1 + 1 = n - q by omega]
      have := hs q hq.2.1 hq.1
      rw [show 1 * p q + -1 * p (n - q) = p q - p (n - q) by omega]
      exact this
    · obtain ⟨⟨a, b⟩, hq, rfl⟩ := List.mem_map.1 h
      unfold pairs at hq
      obtain ⟨a', ha, hq⟩ := List.mem_flatMap.1 hq
      obtain ⟨b', hb, hq⟩ := List.mem_filterMap.1 hq
      by_cases hab : 0 < a' ∧ 0 < b' ∧ a' + b' < n
      · rw [if_pos hab] at hq
        obtain ⟨rfl, rfl⟩ : a' = a ∧ b' = b := by simpa using hq
        refine ⟨add_length (unit_length _ _ _) (unit_length _ _ _), ?_⟩
        dsimp only
        unfold cocF
        rw [lin_add p _ _ 1 (by rw [unit_length, unit_length]), lin_unit p _ _ _ (by omega), lin_unit p _ _ _ (by omega)]
        rw [show a' + b' - 1 + 1 = a' + b' by omega, show a' - 1 + 1 = a' by omega]
        have := hc a' b' hab.1 hab.2.1 hab.2.2
        rw [Int.neg_mul, ← Int.sub_eq_add_neg]
        exact this
      · rw [if_neg hab] at hq; simp at hq)
  rw [hk] at hz
  unfold goal at hz
  rw [lin_add p _ _ 1 (by simp [unit, smul, hul]; omega), lin_unit p _ _ _ (by omega), lin_smul] at hz
  rw [show lin (uOf n) 1 p * layF n (k + 1) = layF n (k + 1) * lin (uOf n) 1 p from Int.mul_comm _ _]
  rw [Int.one_mul, Int.neg_mul, ← Int.sub_eq_add_neg] at hz
  exact hz
end Coc
end Go.Proofs.YtfhdgcndiljjcaaGreatDoor

/- Plain facts: the factor of a layer, and which layers are cocycles. -/
namespace Go.Proofs.YtfhdgcndiljjcaaGreatDoor
open Go.RowKit

namespace Cyc
/-- the equation of the coefficient i, for the factor as number 1 -/
def eqF (m : Int) (l : List Int) (n i : Nat) : List Int := Sys.timesE m 1 (-(Ser.co l i) :: layF n i :: List.replicate 9 0)
def eqsF (m : Int) (l : List Int) (n : Nat) : List (List Int) := (List.range (n + 1)).map (eqF m l n)
def facO (m : Int) (l : List Int) (n : Nat) : Option (Nat → Int) := Sys.leastS m (eqsF m l n)
/-- c times C(n) is the layer -/
def Fits (m : Int) (l : List Int) (n : Nat) (c : Int) : Prop := ∀ i, i ≤ n → (c * layF n i - Ser.co l i) % m = 0
theorem val_F (a b : Int) (y : Nat → Int) (hy : y 0 = 1) : Sys.val (a :: b :: List.replicate 9 0) y = a + y 1 * b := by
  unfold Sys.val
  simp [Ser.psum, Ser.co, List.replicate, hy, Int.mul_comm]
theorem sat_F {m : Int} {l : List Int} {n : Nat} (y : Nat → Int) (hy : y 0 = 1) : (∀ e ∈ eqsF m l n, Sys.Sat m y e) ↔ Fits m l n (y 1) := by
  have key : ∀ i, Sys.Sat m y (eqF m l n i) ↔ (y 1 * layF n i - Ser.co l i) % m = 0 := fun i => by
    unfold Sys.Sat eqF
    rw [Sys.val_times, val_F _ _ y hy, Int.one_mul, show -(Ser.co l i) + y 1 * layF n i = y 1 * layF n i - Ser.co l i by omega]
  unfold eqsF Fits
  constructor
  · intro h i hi
    exact (key i).1 (h _ (List.mem_map.2 ⟨i, List.mem_range.2 (by omega), rfl⟩))
  · intro h e he
    obtain ⟨i, hi, rfl⟩ := List.mem_map.1 he
    rw [List.mem_range] at hi
    exact (key i).2 (h i (by omega))
theorem eqsF_ok {m : Int} (hm : 0 < m) (l : List Int) (n : Nat) : ∀ e ∈ eqsF m l n, Sys.Ok m e := fun e he => by
  unfold eqsF at he
  obtain ⟨i, hi, rfl⟩ := List.mem_map.1 he
  unfold eqF Sys.timesE
  exact Sys.Ok.cut hm _
theorem facO_some {m : Int} (m1 : 2 ≤ m) (m2 : m ≤ 10000) {l : List Int} {n : Nat} {X : Nat → Int} (h : facO m l n = some X) :
    0 ≤ X 1 ∧ X 1 < m ∧ Fits m l n (X 1) ∧ ∀ c, 0 ≤ c → Fits m l n c → X 1 ≤ c := by
  have hL := Sys.leastS_some m1 m2 (eqsF_ok (by omega) l n) h
  obtain ⟨b1, b2⟩ := hL.bd 1 (by omega) (by omega)
  refine ⟨b1, b2, (sat_F X hL.one).1 hL.sat, fun c hc hf => ?_⟩
  have hy : (fun j => if j = 0 then (1 : Int) else if j = 1 then c else 0) 0 = 1 := rfl
  have := hL.least (fun j => if j = 0 then 1 else if j = 1 then c else 0) hy ((sat_F _ hy).2 hf) 1 (by omega) (by omega) (fun j hj => by
    obtain rfl : j = 0 := by omega
    rw [hL.one]; rfl) hc
  exact this
theorem facO_none {m : Int} (m1 : 2 ≤ m) (m2 : m ≤ 10000) {l : List Int} {n : Nat} (h : facO m l n = none) (c : Int) : ¬ Fits m l n c := fun hf => by
  have hy : (fun j => if j = 0 then (1 : Int) else if j = 1 then c else 0) 0 = 1 := rfl
  exact Sys.leastS_none m1 m2 (eqsF_ok (by omega) l n) h (fun j => if j = 0 then (1 : Int) else if j = 1 then c else 0) hy ((sat_F (fun j => if j = 0 then (1 : Int) else if j = 1 then c else 0) hy).2 hf)
/-- the factor, 0 if there is none -/
def facM (m : Int) (l : List Int) (n : Nat) : Int := match facO m l n with
  | some X => X 1
  | none => 0
theorem facM_first {m : Int} (m1 : 2 ≤ m) (m2 : m ≤ 10000) {l : List Int} {n : Nat} {c : Int} (hc : 0 ≤ c) (hf : Fits m l n c) (hn : ∀ c', 0 ≤ c' → c' < c → ¬ Fits m l n c') : facM m l n = c := by
  unfold facM
  cases h : facO m l n with
  | none => exact absurd hf (facO_none m1 m2 h c)
  | some X =>
    obtain ⟨b1, b2, b3, b4⟩ := facO_some m1 m2 h
    have h1 := b4 c hc hf
    have h2 : ¬ X 1 < c := fun hlt => hn _ b1 hlt b3
    show X 1 = c
    omega
theorem facM_never {m : Int} (m1 : 2 ≤ m) (m2 : m ≤ 10000) {l : List Int} {n : Nat} (hn : ∀ c', 0 ≤ c' → c' < m → ¬ Fits m l n c') : facM m l n = 0 := by
  unfold facM
  cases h : facO m l n with
  | none => rfl
  | some X =>
    obtain ⟨b1, b2, b3, b4⟩ := facO_some m1 m2 h
    exact absurd b3 (hn _ b1 b2)
/-- the equations of cocycles in the degree d -/
def lowZ (t : List (List Int)) (d : Nat) : Bool := (List.range d).all fun n => (List.range (n + 1)).all fun i => decide (Pl.pc t i (n - i) = 0)
def symZ (t : List (List Int)) (d : Nat) : Bool := (List.range (d + 1)).all fun i => decide (Pl.pc t i (d - i) = Pl.pc t (d - i) i) && (!(decide (i = 0) || decide (i = d)) || decide (Pl.pc t i (d - i) = 0))
def cocN (m : Int) (t : List (List Int)) (d a b : Nat) : Int := binI ((a : Int) + b) a % m * Pl.pc t (a + b) (d - (a + b)) - binI ((d : Int) - a) b % m * Pl.pc t a (d - a)
def cocZ (m : Int) (t : List (List Int)) (d : Nat) : Bool := (List.range d).all fun a => (List.range d).all fun b => !(decide (0 < a ∧ 0 < b ∧ a + b < d)) || decide (cocN m t d a b % m = 0)
def isC (m : Int) (t : List (List Int)) (d : Nat) : Bool := decide (2 ≤ d) && lowZ t d && symZ t d && cocZ m t d
theorem lowZ_iff {t : List (List Int)} {d : Nat} : lowZ t d = true ↔ ∀ n i, n < d → i ≤ n → Pl.pc t i (n - i) = 0 := by
  unfold lowZ
  simp only [List.all_eq_true, List.mem_range, decide_eq_true_eq]
  exact ⟨fun h n i hn hi => h n hn i (by omega), fun h n hn i hi => h n i hn (by omega)⟩
theorem symZ_iff {t : List (List Int)} {d : Nat} : symZ t d = true ↔ ∀ i, i ≤ d → Pl.pc t i (d - i) = Pl.pc t (d - i) i ∧ ((i = 0 ∨ i = d) → Pl.pc t i (d - i) = 0) := by
  unfold symZ
  simp only [List.all_eq_true, List.mem_range, Bool.and_eq_true, Bool.or_eq_true, Bool.not_eq_true', Bool.or_eq_false_iff, decide_eq_true_eq, decide_eq_false_iff_not]
  exact ⟨fun h i hi => ⟨(h i (by omega)).1, fun hx => (h i (by omega)).2.elim (fun h2 => absurd hx (by omega)) id⟩,
    fun h i hi => ⟨(h i (by omega)).1, (Decidable.em (i = 0 ∨ i = d)).elim (fun hx => .inr ((h i (by omega)).2 hx)) (fun hx => .inl (by omega))⟩⟩
theorem cocZ_iff {m : Int} {t : List (List Int)} {d : Nat} : cocZ m t d = true ↔ ∀ a b, 0 < a → 0 < b → a + b < d → cocN m t d a b % m = 0 := by
  unfold cocZ
  simp only [List.all_eq_true, List.mem_range, Bool.or_eq_true, Bool.not_eq_true', decide_eq_true_eq, decide_eq_false_iff_not]
  exact ⟨fun h a b ha hb hab => (h a (by omega) b (by omega)).elim (fun h2 => absurd ⟨ha, hb, hab⟩ h2) id,
    fun h a ha b hb => (Decidable.em (0 < a ∧ 0 < b ∧ a + b < d)).elim (fun hx => .inr (h a b hx.1 hx.2.1 hx.2.2)) (fun hx => .inl hx)⟩
theorem layF_coc : ∀ n : Fin 11, ∀ a : Fin 11, ∀ b : Fin 11, 2 ≤ n.val → 0 < a.val → 0 < b.val → a.val + b.val < n.val → ((Num.bin (a.val + b.val) a.val : Nat) : Int) * layF n.val (a.val + b.val) - ((Num.bin (n.val - a.val) b.val : Nat) : Int) * layF n.val a.val = 0 := by decide +kernel
theorem layF_sym : ∀ n : Fin 11, ∀ a : Fin 11, a.val ≤ n.val → layF n.val a.val = layF n.val (n.val - a.val) := by decide +kernel
theorem cocN_emod (m : Int) (t : List (List Int)) (d a b : Nat) (h : a + b < d) : cocN m t d a b % m = (((Num.bin (a + b) a : Nat) : Int) * Pl.pc t (a + b) (d - (a + b)) - ((Num.bin (d - a) b : Nat) : Int) * Pl.pc t a (d - a)) % m := by
  unfold cocN binI
  rw [show ((a : Int) + b).toNat = a + b by omega, show ((d : Int) - a).toNat = d - a by omega, show (a : Int).toNat = a by omega, show (b : Int).toNat = b by omega]
  rw [Int.sub_emod, Int.mul_emod, Int.emod_emod, ← Int.mul_emod, Int.mul_emod (((Num.bin (d - a) b : Nat) : Int) % m), Int.emod_emod, ← Int.mul_emod, ← Int.sub_emod]
/-- Lazard: a plane of one degree is a cocycle exactly if it is a multiple of C(d) -/
theorem isC_iff {m : Int} (m1 : 2 ≤ m) (m2 : m ≤ 10000) {t : List (List Int)} {d : Nat} (ok : Pl.Ok m d t) (d1 : 2 ≤ d) (d2 : d ≤ 10) {l : List Int} (hl : ∀ i, i ≤ d → Ser.co l i = Pl.pc t i (d - i)) :
    (symZ t d = true ∧ cocZ m t d = true) ↔ (facO m l d).isSome = true := by
  constructor
  · rintro ⟨hs, hc⟩
    rw [symZ_iff] at hs
    rw [cocZ_iff] at hc
    obtain ⟨c, h⟩ := Coc.comparison (m := m) (n := d) (p := fun i => Pl.pc t i (d - i)) d1 d2 (fun i h0 h1 => by
      have := (hs i (by omega)).1
      show (Pl.pc t i (d - i) - Pl.pc t (d - i) (d - (d - i))) % m = 0
      rw [show d - (d - i) = i by omega, this, Int.sub_self]; rfl) (fun a b ha hb hab => by
      rw [← cocN_emod m t d a b hab]; exact hc a b ha hb hab)
    have hf : Fits m l d c := fun i hi => by
      rw [hl i hi]
      by_cases hx : 0 < i ∧ i < d
      · have := h i hx.1 hx.2
        have e : c * layF d i - Pl.pc t i (d - i) = -(Pl.pc t i (d - i) - c * layF d i) := by omega
        rw [e]
        exact Int.emod_eq_zero_of_dvd (Int.dvd_neg.2 (Int.dvd_of_emod_eq_zero this))
      · rw [(hs i hi).2 (by omega)]
        unfold layF
        rw [if_neg hx, Int.mul_zero]; rfl
    cases hx : facO m l d with
    | none => exact absurd hf (facO_none m1 m2 hx c)
    | some X => rfl
  · intro h
    obtain ⟨X, hX⟩ := Option.isSome_iff_exists.1 h
    obtain ⟨b1, b2, hf, -⟩ := facO_some m1 m2 hX
    have hp : ∀ i, i ≤ d → Pl.pc t i (d - i) = X 1 * layF d i % m := fun i hi => by
      have h1 := hf i hi
      rw [hl i hi] at h1
      have r := ok.pc i (d - i)
      have h2 : X 1 * layF d i % m = Pl.pc t i (d - i) % m := Int.emod_eq_emod_iff_emod_sub_eq_zero.2 h1
      rw [h2, Int.emod_eq_of_lt r.1 r.2]
    constructor
    · rw [symZ_iff]
      intro i hi
      have e := layF_sym ⟨d, by omega⟩ ⟨i, by omega⟩ hi
      have h2 := hp (d - i) (by omega)
      rw [show d - (d - i) = i by omega] at h2
      refine ⟨by rw [hp i hi, h2, e], fun hx => ?_⟩
      rw [hp i hi]
      unfold layF
      rw [if_neg (by omega), Int.mul_zero]; rfl
    · rw [cocZ_iff]
      intro a b ha hb hab
      rw [cocN_emod m t d a b hab, hp (a + b) (by omega), hp a (by omega)]
      have e := layF_coc ⟨d, by omega⟩ ⟨a, by omega⟩ ⟨b, by omega⟩ d1 ha hb hab
      rw [Int.sub_emod, Int.mul_emod, Int.emod_emod, ← Int.mul_emod, Int.mul_emod _ (X 1 * layF d a % m), Int.emod_emod, ← Int.mul_emod, ← Int.sub_emod]
      have e2 : ((Num.bin (a + b) a : Nat) : Int) * (X 1 * layF d (a + b)) - ((Num.bin (d - a) b : Nat) : Int) * (X 1 * layF d a) = X 1 * (((Num.bin (a + b) a : Nat) : Int) * layF d (a + b) - ((Num.bin (d - a) b : Nat) : Int) * layF d a) := by
        rw [Int.mul_sub]; simp only [Int.mul_left_comm (X 1)]
      rw [e2, e, Int.mul_zero]; rfl
end Cyc
end Go.Proofs.YtfhdgcndiljjcaaGreatDoor

/- Plain facts: the gap of two laws that are equal below a degree fulfils the equations of cocycles there. -/
namespace Go.Proofs.YtfhdgcndiljjcaaGreatDoor
open Go.RowKit

namespace Pl
open Ser
theorem psum_at (f : Nat → Int) (j : Nat) : ∀ N, j < N → (∀ i, i < N → i ≠ j → f i = 0) → psum f N = f j
  | 0, h, _ => absurd h (by omega)
  | N + 1, h, hz => by
    show psum f N + f N = f j
    by_cases e : j = N
    · subst e
      rw [psum_low f j (fun i hi => hz i (by omega) (by omega))]; omega
    · rw [psum_at f j N (by omega) (fun i hi => hz i (by omega)), hz N (by omega) (by omega)]; omega
theorem psum_nil (f : Nat → Int) (N : Nat) (h : ∀ i, i < N → f i = 0) : psum f N = 0 := psum_low f N h
/-- the linear part of a law -/
structure Lin (F : Nat → Nat → Int) : Prop where
  zero : F 0 0 = 0
  x : F 1 0 = 1
  y : F 0 1 = 1
theorem pw2_low {F : Nat → Nat → Int} (h : Lin F) : ∀ n i j, i + j < n → pw2 F n i j = 0
  | 0, i, j, hij => absurd hij (by omega)
  | n + 1, i, j, hij => by
    show mul2 (pw2 F n) F i j = 0
    unfold mul2
    refine psum_nil _ _ (fun k hk => psum_nil _ _ (fun l hl => ?_))
    by_cases e : k + l < n
    · rw [pw2_low h n k l e, Int.zero_mul]
    · obtain rfl : k = i := by omega
      obtain rfl : l = j := by omega
      rw [Nat.sub_self, Nat.sub_self, h.zero, Int.mul_zero]
theorem pw2_lead {F : Nat → Nat → Int} (h : Lin F) : ∀ n i j, i + j = n → pw2 F n i j = ((Num.bin n i : Nat) : Int)
  | 0, i, j, hij => by
    obtain rfl : i = 0 := by omega
    obtain rfl : j = 0 := by omega
    rfl
  | n + 1, i, j, hij => by
    show mul2 (pw2 F n) F i j = _
    unfold mul2
    have hrow : ∀ k, k < i + 1 → psum (fun l => pw2 F n k l * F (i - k) (j - l)) (j + 1) = if k = i then (if 0 < j then ((Num.bin n i : Nat) : Int) else 0) else if k + 1 = i then ((Num.bin n k : Nat) : Int) else 0 := by
      intro k hk
      by_cases e : k = i
      · subst e
        rw [if_pos rfl]
        by_cases hj : 0 < j
        · rw [if_pos hj, psum_at _ (j - 1) _ (by omega) (fun l hl hne => ?_)]
          · rw [pw2_lead h n k (j - 1) (by omega), Nat.sub_self, show j - (j - 1) = 1 by omega, h.y, Int.mul_one]
          · by_cases e2 : k + l < n
            · rw [pw2_low h n k l e2, Int.zero_mul]
            · obtain rfl : l = j := by omega
              rw [Nat.sub_self, Nat.sub_self, h.zero, Int.mul_zero]
        · rw [if_neg hj]
          obtain rfl : j = 0 := by omega
          refine psum_nil _ _ (fun l hl => ?_)
          obtain rfl : l = 0 := by omega
          rw [Nat.sub_self, Nat.sub_self, h.zero, Int.mul_zero]
      · rw [if_neg e]
        by_cases e1 : k + 1 = i
        · rw [if_pos e1, psum_at _ j _ (by omega) (fun l hl hne => ?_)]
          · rw [pw2_lead h n k j (by omega), Nat.sub_self, show i - k = 1 by omega, h.x, Int.mul_one]
          · rw [pw2_low h n k l (by omega), Int.zero_mul]
        · rw [if_neg e1]
          exact psum_nil _ _ (fun l hl => by rw [pw2_low h n k l (by omega), Int.zero_mul])
    rw [psum_ext (i + 1) hrow]
    show psum _ i + _ = _
    dsimp only
    rw [if_pos rfl]
    cases i with
    | zero =>
      show (0 : Int) + _ = _
      rw [if_pos (by omega), Num.bin_zero, Num.bin_zero]; rfl
    | succ i =>
      rw [psum_at _ i _ (by omega) (fun k hk hne => by rw [if_neg (by omega), if_neg (by omega)]), if_neg (by omega), if_pos rfl]
      by_cases hj : 0 < j
      · rw [if_pos hj, Num.bin_succ]; omega
      · rw [if_neg hj]
        obtain rfl : j = 0 := by omega
        obtain rfl : n = i := by omega
        have := Num.bin_over n (n + 1) (by omega)
        rw [Num.bin_succ, this]; omega
theorem pw2_same {F G : Nat → Nat → Int} {d : Nat} (h : ∀ i j, i + j < d → F i j = G i j) : ∀ n i j, i + j < d → pw2 F n i j = pw2 G n i j
  | 0, _, _, _ => rfl
  | n + 1, i, j, hij => by
    show mul2 (pw2 F n) F i j = mul2 (pw2 G n) G i j
    unfold mul2
    exact psum_ext _ (fun k hk => psum_ext _ (fun l hl => by rw [pw2_same h n k l (by omega), h (i - k) (j - l) (by omega)]))
/-- the brackets of two laws that are equal below d -/
theorem gap_br {m : Int} {d : Nat} {F G : Nat → Nat → Int} (hF : Lin F) (hG : Lin G) (h : ∀ i j, i + j < d → F i j = G i j) (a b c : Nat) (hc : 0 < c) (habc : a + b + c = d) :
    brS m d G a b c - brS m d F a b c = (G (a + b) c - F (a + b) c) * (((Num.bin (a + b) a : Nat) : Int) % m) := by
  have hp : ∀ (H : Nat → Nat → Int) i, pc (pwT m d H i) a b = pw2 H i a b % m := fun H i => by rw [pwT_tab, pc_tab (by omega)]
  unfold brS
  rw [show d + 1 - c = a + b + 1 by omega]
  show psum _ (a + b) + _ - (psum _ (a + b) + _) = _
  rw [psum_ext (a + b) (f := fun i => G i c * pc (pwT m d G i) a b) (g := fun i => F i c * pc (pwT m d F i) a b) (fun i hi => by
    try dsimp only
    rw [hp, hp, pw2_same h i a b (by omega), h i c (by omega)])]
  dsimp only
  rw [hp, hp, pw2_lead hF _ _ _ rfl, pw2_lead hG _ _ _ rfl, Int.sub_mul]; omega
theorem fauT_none {m : Int} {d : Nat} {F : Nat → Nat → Int} (h : fauT m d F = none) (a b c : Nat) (habc : a + b + c ≤ d) : br m d F a b c = br m d F c b a := by
  have h1 := srch_none _ _ h a (by omega) (by omega)
  have h2 := srch_none _ _ h1 b (by omega) (by omega)
  have h3 := srch_none _ _ h2 c (by omega) (by omega)
  unfold fau2c at h3
  by_cases e : br m d F a b c = br m d F c b a
  · exact e
  · rw [if_neg e] at h3; cases h3
theorem bin_turn : ∀ n : Fin 11, ∀ k : Fin 11, k.val ≤ n.val → Num.bin n.val k.val = Num.bin n.val (n.val - k.val) := by decide +kernel
/-- the gap is a cocycle -/
theorem gap_coc {m : Int} {d : Nat} {F G : Nat → Nat → Int} (hd : d ≤ 10) (hF : Lin F) (hG : Lin G) (h : ∀ i j, i + j < d → F i j = G i j) (sF : Sym d F) (sG : Sym d G) (tF : fauT m d F = none) (tG : fauT m d G = none) (a b : Nat) (h0 : 0 < a) (h1 : 0 < b) (h2 : a + b < d) :
    (((Num.bin (a + b) a : Nat) : Int) * (G (a + b) (d - (a + b)) - F (a + b) (d - (a + b))) - ((Num.bin (d - a) b : Nat) : Int) * (G a (d - a) - F a (d - a))) % m = 0 := by
  obtain ⟨c, hc⟩ : ∃ c, c = d - (a + b) := ⟨_, rfl⟩
  have e1 := gap_br (m := m) hF hG h a b c (by omega) (by omega)
  have e2 := gap_br (m := m) hF hG h c b a (by omega) (by omega)
  have b1 := fauT_none tF a b c (by omega)
  have b2 := fauT_none tG a b c (by omega)
  unfold br at b1 b2
  have hcong : (brS m d G a b c - brS m d F a b c) % m = (brS m d G c b a - brS m d F c b a) % m := by
    rw [Int.sub_emod, b1, b2, ← Int.sub_emod]
  rw [e1, e2, Int.mul_emod, Int.emod_emod, ← Int.mul_emod, Int.mul_emod (G (c + b) a - F (c + b) a), Int.emod_emod, ← Int.mul_emod] at hcong
  have e3 : c + b = d - a := by omega
  have e4 := bin_turn ⟨d - a, by omega⟩ ⟨b, by omega⟩ (by show b ≤ d - a; omega)
  simp only [show d - a - b = c by omega] at e4
  rw [e3, sF (d - a) a (by omega), sG (d - a) a (by omega), ← e4] at hcong
  rw [← hc]
  rw [Int.mul_comm _ (G (a + b) c - F (a + b) c), Int.mul_comm _ (G a (d - a) - F a (d - a)), Int.sub_emod, hcong, ← Int.sub_emod, Int.sub_self]; rfl
end Pl
end Go.Proofs.YtfhdgcndiljjcaaGreatDoor

