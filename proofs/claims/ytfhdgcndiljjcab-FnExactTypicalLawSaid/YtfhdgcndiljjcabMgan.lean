/- Texts of contracts, joined. -/
import Derived.Test.YtfhdgcndiljjcabMgae
import Derived.Test.YtfhdgcndiljjcabMgam
import Derived.Test.YtfhdgcndiljjcabMgag
import Derived.Test.YtfhdgcndiljjcabMgai
import Derived.Test.YtfhdgcndiljjcabMgad
/- Plain: the model's typical law is the whole one, modulo m. -/
namespace Go.Proofs.Ytfhdgcndiljjcab
open Go.RowKit
theorem emod_downP {m M x y : Int} (h : x % M = y % M) (hd : m ∣ M) : x % m = y % m := by
  rw [← Int.emod_emod_of_dvd x hd, h, Int.emod_emod_of_dvd y hd]
namespace Pl

theorem pwF_mulx (F : Nat → Nat → Int) (a : Nat) : ∀ b, pwF (pwF F a) b = pwF F (a * b)
  | 0 => rfl
  | b + 1 => by
    show mul2 (pwF (pwF F a) b) (pwF F a) = _
    rw [pwF_mulx F a b, ← Tyc.pwF_add, Nat.mul_succ]
theorem sm_add (c e : Int) (a : Nat → Nat → Int) : pl (sm c a) (sm e a) = sm (c + e) a := by funext i j; exact (Int.add_mul _ _ _).symm
/-- a power of what differs by a multiple of M, modulo the square of M -/
theorem pow_step (M : Int) (d : Nat) (b h : Nat → Nat → Int) : ∀ n, Eq (M * M) d (pwF (pl b (sm M h)) (n + 1)) (pl (pwF b (n + 1)) (sm (((n + 1 : Nat) : Int) * M) (mul2 (pwF b n) h))) := by
  intro n
  induction n with
  | zero =>
    rw [pwF_one, pwF_one]
    show Eq _ _ _ (pl b (sm _ (mul2 (one2 1) h)))
    rw [one2_mul2, one_sm, show ((0 + 1 : Nat) : Int) * M = M by simp]
    exact Eq.refl _ _ _
  | succ n ih =>
    refine (Eq.mul2 ih (Eq.refl _ _ (pl b (sm M h)))).trans ?_
    have e1 : mul2 (pl (pwF b (n + 1)) (sm (((n + 1 : Nat) : Int) * M) (mul2 (pwF b n) h))) (pl b (sm M h))
        = pl (pl (pwF b (n + 2)) (sm (((n + 2 : Nat) : Int) * M) (mul2 (pwF b (n + 1)) h))) (sm (M * M) (sm ((n + 1 : Nat) : Int) (mul2 (mul2 (pwF b n) h) h))) := by
      rw [mul2_pl, pl_mul2, pl_mul2, sm_mul2, mul2_sm, sm_mul2, mul2_sm]
      have e2 : mul2 (mul2 (pwF b n) h) b = mul2 (pwF b (n + 1)) h := by
        show _ = mul2 (mul2 (pwF b n) b) h
        rw [mul2_assoc, mul2_comm h b, ← mul2_assoc]
      rw [e2]
      funext i j
      show (pwF b (n + 2) i j + ((n + 1 : Nat) : Int) * M * mul2 (pwF b (n + 1)) h i j) + (M * mul2 (pwF b (n + 1)) h i j + ((n + 1 : Nat) : Int) * M * (M * mul2 (mul2 (pwF b n) h) h i j)) = (pwF b (n + 2) i j + ((n + 2 : Nat) : Int) * M * mul2 (pwF b (n + 1)) h i j) + M * M * (((n + 1 : Nat) : Int) * mul2 (mul2 (pwF b n) h) h i j)
      rw [show ((n + 2 : Nat) : Int) = ((n + 1 : Nat) : Int) + 1 by omega]
      grind
    rw [e1]
    intro i j _
    show (_ + M * M * _) % (M * M) = _
    rw [Int.add_mul_emod_self_left]
/-- congruent modulo M, a multiple of p: the powers with exponent p are congruent modulo M p -/
theorem pow_lift {M : Int} {d p : Nat} {a b : Nat → Nat → Int} (hp : 1 ≤ p) (hd : (p : Int) ∣ M) (h : Eq M d a b) : Eq (M * p) d (pwF a p) (pwF b p) := by
  have h1 : Tyc.Up d a (pl b (sm M fun i j => (a i j - b i j) / M)) := fun i j hij => by
    show a i j = b i j + M * ((a i j - b i j) / M)
    rw [Int.mul_ediv_cancel' (Int.dvd_of_emod_eq_zero (Int.emod_eq_emod_iff_emod_sub_eq_zero.1 (h i j hij)))]; omega
  have h2 : ∀ q, Tyc.Up d (pwF a q) (pwF (pl b (sm M fun i j => (a i j - b i j) / M)) q) := by
    intro q
    induction q with
    | zero => exact fun _ _ _ => rfl
    | succ q ih => exact Tyc.Up.mul ih h1
  obtain ⟨n, rfl⟩ : ∃ n, p = n + 1 := ⟨p - 1, by omega⟩
  intro i j hij
  rw [h2 (n + 1) i j hij]
  have h3 := pow_step M d b (fun i j => (a i j - b i j) / M) n i j hij
  have h4 := emod_downP h3 (show M * ((n + 1 : Nat) : Int) ∣ M * M from Int.mul_dvd_mul_left M hd)
  rw [h4]
  show (pwF b (n + 1) i j + ((n + 1 : Nat) : Int) * M * _) % _ = _
  rw [Int.mul_comm ((n + 1 : Nat) : Int) M, Int.add_mul_emod_self_left]
theorem pow_lifts {M : Int} {d p : Nat} {a b : Nat → Nat → Int} (hp : 1 ≤ p) (hd : (p : Int) ∣ M) (h : Eq M d a b) : ∀ e, Eq (M * ((p ^ e : Nat) : Int)) d (pwF a (p ^ e)) (pwF b (p ^ e)) := by
  intro e
  induction e with
  | zero =>
    rw [Nat.pow_zero, pwF_one, pwF_one]
    rw [show M * ((1 : Nat) : Int) = M by simp]
    exact h
  | succ e ih =>
    have := pow_lift (M := M * ((p ^ e : Nat) : Int)) hp (Int.dvd_trans hd ⟨_, rfl⟩) ih
    rw [pwF_mulx, pwF_mulx, ← Nat.pow_succ, Int.mul_assoc, ← Int.natCast_mul, ← Nat.pow_succ] at this
    exact this
/-- the coefficients of degree n of powers from the second on need those below n alone -/
theorem pwF_below {F G : Nat → Nat → Int} {n : Nat} (h0 : F 0 0 = 0) (g0 : G 0 0 = 0) (h : ∀ i j, i + j < n → F i j = G i j) : ∀ q i j, i + j ≤ n → 2 ≤ q → pwF F q i j = pwF G q i j := by
  have hb : ∀ q i j, i + j < n → pwF F q i j = pwF G q i j := by
    intro q
    induction q with
    | zero => intro i j _; rfl
    | succ q ih =>
      intro i j hij
      exact mul2_ext_at i j (fun k l hk hl => by rw [ih k l (by omega), h (i - k) (j - l) (by omega)])
  intro q i j hij hq
  obtain ⟨r, rfl⟩ : ∃ r, q = r + 1 := ⟨q - 1, by omega⟩
  refine mul2_ext_at i j (fun k l hk hl => ?_)
  by_cases h1 : k + l = 0
  · obtain ⟨rfl, rfl⟩ : k = 0 ∧ l = 0 := by omega
    rw [pwF_low h0 r 0 0 (by omega), pwF_low g0 r 0 0 (by omega), Int.zero_mul, Int.zero_mul]
  · by_cases h2 : k + l < n
    · rw [hb r k l h2, h (i - k) (j - l) (by omega)]
    · rw [show i - k = 0 by omega, show j - l = 0 by omega, h0, g0, Int.mul_zero, Int.mul_zero]
end Pl

namespace Tyc
/-- at the sides and in degree 1 the law is x + y -/
theorem side_get : ∀ p ∈ [2, 3, 5, 7], ∀ j ∈ List.range 11, (get (FLp p) 0 j).map (fun x => (x.c, x.a, x.b, x.e)) = (if j = 1 then [(1, 0, 0, 0)] else []) ∧ (get (FLp p) j 0).map (fun x => (x.c, x.a, x.b, x.e)) = (if j = 1 then [(1, 0, 0, 0)] else []) := by decide +kernel
theorem pev_one {P : Po} (v : Nat → Int) (h : P.map (fun x => (x.c, x.a, x.b, x.e)) = [(1, 0, 0, 0)]) : pev v P = 1 := by
  match P, h with
  | [⟨c, a, b, e⟩], h =>
    simp only [List.map_cons, List.map_nil, List.cons.injEq, Prod.mk.injEq, and_true] at h
    obtain ⟨rfl, rfl, rfl, rfl⟩ := h
    show 1 * (v 0 ^ 0 * (v 1 ^ 0 * v 2 ^ 0)) + 0 = 1
    rw [Int.pow_zero, Int.pow_zero, Int.pow_zero]; rfl
theorem pev_none {P : Po} (v : Nat → Int) (h : P.map (fun x => (x.c, x.a, x.b, x.e)) = []) : pev v P = 0 := by
  rw [List.map_eq_nil_iff] at h
  rw [h]; rfl
theorem fam_side {p : Nat} (hp : p = 2 ∨ p = 3 ∨ p = 5 ∨ p = 7) (v : Nat → Int) {i j : Nat} (h : i = 0 ∨ j = 0) (h2 : i + j ≤ 10) : fam p v i j = Pl.xyF i j := by
  have key := fun k (hk : k ≤ 10) => side_get p (in4 hp) k (List.mem_range.2 (by omega))
  unfold fam evT
  rcases h with rfl | rfl
  · obtain ⟨h1, -⟩ := key j (by omega)
    unfold Pl.xyF
    by_cases hj : j = 1
    · rw [if_pos hj] at h1
      rw [pev_one v h1, hj]; rfl
    · rw [if_neg hj] at h1
      rw [pev_none v h1, if_neg (by omega), if_neg (by omega)]; rfl
  · obtain ⟨-, h1⟩ := key i (by omega)
    unfold Pl.xyF
    by_cases hi : i = 1
    · rw [if_pos hi] at h1
      rw [pev_one v h1, hi]; rfl
    · rw [if_neg hi] at h1
      rw [pev_none v h1, if_neg (by omega), if_neg (by omega)]; rfl
end Tyc
namespace Pl
/-- cut below the degree n -/
def below (n : Nat) (F : Nat → Nat → Int) : Nat → Nat → Int := fun i j => if i + j < n then F i j else 0
theorem psum_split (f : Nat → Int) : ∀ k, Ser.psum f (k + 1) = f 0 + Ser.psum (fun i => f (i + 1)) k
  | 0 => by show 0 + f 0 = f 0 + 0; omega
  | k + 1 => by
    rw [Ser.psum, psum_split f k, Ser.psum]; omega
theorem need_le : ∀ p ∈ [2, 3, 5, 7], ∀ D ∈ List.range 11, needN p D ≤ Tyc.n10 p ∧ D < p ^ (needN p D + 1) := by decide
/-- the sum of what is below the degree n is what is due there -/
theorem rest_fam {p D : Nat} (hp : p = 2 ∨ p = 3 ∨ p = 5 ∨ p = 7) (hD : D ≤ 10) (v : Nat → Int) {i j : Nat} (h1 : 1 ≤ i) (h2 : 1 ≤ j) (h3 : i + j ≤ D) :
    restF p (needN p D) (Nmr.num p v) (below (i + j) (Tyc.fam p v)) (needN p D + 1) i j = -(((p ^ needN p D : Nat) : Int) * Tyc.fam p v i j) := by
  have hz := Tyc.hazewinkel hp v h1 h2 (by omega)
  obtain ⟨hN, hDp⟩ := need_le p (in4 hp) D (List.mem_range.2 (by omega))
  obtain ⟨N, hNN⟩ : ∃ N, needN p D = N := ⟨_, rfl⟩
  rw [hNN] at hN hDp ⊢
  have hf0 : Tyc.fam p v 0 0 = 0 := Tyc.fam_side hp v (.inl rfl) (by omega)
  obtain ⟨F, hF⟩ : ∃ F, Tyc.fam p v = F := ⟨_, rfl⟩
  rw [hF] at hz hf0 ⊢
  obtain ⟨A, hA⟩ : ∃ A, Nmr.num p v = A := ⟨_, rfl⟩
  have hA0 : A 0 = 1 := by rw [← hA]; rfl
  rw [hA] at hz ⊢
  -- all of it with F
  have hS : Ser.psum (fun e => (p : Int) ^ (N - e) * A e * pwF F (p ^ e) i j) (N + 1) = 0 := by
    have e1 : Ser.psum (fun e => (p : Int) ^ (Tyc.n10 p - e) * A e * pwF F (p ^ e) i j) (Tyc.n10 p + 1) = Ser.psum (fun e => (p : Int) ^ (Tyc.n10 p - e) * A e * pwF F (p ^ e) i j) (N + 1) :=
      psum_cut _ _ _ (by omega) (fun e he1 he2 => by
        have : p ^ (N + 1) ≤ p ^ e := Nat.pow_le_pow_right (by omega) he1
        rw [pwF_low hf0 _ _ _ (by omega), Int.mul_zero])
    rw [e1] at hz
    have e2 : Ser.psum (fun e => (p : Int) ^ (Tyc.n10 p - e) * A e * pwF F (p ^ e) i j) (N + 1) = (p : Int) ^ (Tyc.n10 p - N) * Ser.psum (fun e => (p : Int) ^ (N - e) * A e * pwF F (p ^ e) i j) (N + 1) := by
      rw [← Ser.psum_mul]
      refine Ser.psum_ext _ (fun e he => ?_)
      rw [show Tyc.n10 p - e = (Tyc.n10 p - N) + (N - e) by omega, Int.pow_add, Int.mul_assoc, Int.mul_assoc, Int.mul_assoc]
    rw [e2] at hz
    rcases Int.mul_eq_zero.1 hz with h | h
    · exact absurd h (Int.pow_ne_zero (by omega))
    · exact h
  unfold restF
  rw [psum_split] at hS ⊢
  have hg0 : below (i + j) F 0 0 = 0 := by unfold below; rw [if_pos (by omega)]; exact hf0
  have hb : ∀ a b, a + b < i + j → below (i + j) F a b = F a b := fun a b h => if_pos h
  have e3 : Ser.psum (fun e => (p : Int) ^ (N - (e + 1)) * A (e + 1) * sub2 (pwF (below (i + j) F) (p ^ (e + 1))) (p ^ (e + 1)) i j) N = Ser.psum (fun e => (p : Int) ^ (N - (e + 1)) * A (e + 1) * pwF F (p ^ (e + 1)) i j) N :=
    Ser.psum_ext _ (fun e he => by
      have hq : 2 ≤ p ^ (e + 1) := by
        have : p ^ 1 ≤ p ^ (e + 1) := Nat.pow_le_pow_right (by omega) (by omega)
        rw [Nat.pow_one] at this; omega
      rw [sub2_in _ _ _ _ h1 h2, pwF_below hg0 hf0 hb _ i j (Nat.le_refl _) hq])
  rw [e3]
  rw [Nat.sub_zero, hA0, Nat.pow_zero, sub2_in _ _ _ _ h1 h2, pwF_one]
  rw [Nat.sub_zero, hA0, Nat.pow_zero, pwF_one] at hS
  have e4 : below (i + j) F i j = 0 := if_neg (by omega)
  rw [e4, Int.mul_zero, Int.natCast_pow]
  rw [Int.mul_one] at hS
  omega
end Pl

namespace Pl
theorem lwF_high (p N : Nat) (top W : Int) (A : Nat → Int) : ∀ k i j, k + 1 < i + j → lwF p N top W A k i j = 0
  | 0, i, j, h => by
    show xyF i j = 0
    unfold xyF
    rw [if_neg (by omega), if_neg (by omega)]; rfl
  | k + 1, i, j, h => by
    show (if i + j = k + 2 ∧ 1 ≤ i ∧ 1 ≤ j then _ else lwF p N top W A k i j) = 0
    rw [if_neg (by omega)]
    exact lwF_high p N top W A k i j (by omega)
theorem mul_lift {K q a x y : Int} (h : x % K = y % K) : (q * a * x) % (K * q) = (q * a * y) % (K * q) := by
  obtain ⟨u, hu⟩ := Int.dvd_of_emod_eq_zero (Int.emod_eq_emod_iff_emod_sub_eq_zero.1 h)
  have e : q * a * x = q * a * y + K * q * (a * u) := by
    have : x = y + K * u := by omega
    rw [this]; grind
  rw [e, Int.add_mul_emod_self_left]
theorem lwF_fam {p D : Nat} {m : Int} (hp : p = 2 ∨ p = 3 ∨ p = 5 ∨ p = 7) (m1 : 2 ≤ m) (hD : D ≤ 10) (v : Nat → Int) : ∀ k, k + 1 ≤ D → ∀ i j, i + j ≤ k + 1 →
    lwF p (needN p D) ((p ^ needN p D : Nat) : Int) (tyW p m D) (Nmr.num p v) k i j % (m * (p : Int)) = Tyc.fam p v i j % (m * (p : Int)) := by
  intro k
  induction k with
  | zero =>
    intro _ i j hij
    show xyF i j % _ = _
    rw [Tyc.fam_side hp v (by omega) (by omega)]
  | succ k ih =>
    intro hk i j hij
    have ih := ih (by omega)
    have hrf := fun h1 h2 h3 => rest_fam (D := D) hp hD v (i := i) (j := j) h1 h2 h3
    have hside := fun h h2 => Tyc.fam_side hp v (i := i) (j := j) h h2
    obtain ⟨N, hN⟩ : ∃ N, needN p D = N := ⟨_, rfl⟩
    have hW : tyW p m D = ((p ^ N : Nat) : Int) * (m * (p : Int)) := by
      unfold tyW; rw [hN, Int.mul_comm m, Int.mul_assoc]
    rw [hN] at ih hrf ⊢
    obtain ⟨W, hWW⟩ : ∃ W, tyW p m D = W := ⟨_, rfl⟩
    rw [hWW] at ih hW ⊢
    obtain ⟨A, hA⟩ : ∃ A, Nmr.num p v = A := ⟨_, rfl⟩
    rw [hA] at ih hrf ⊢
    obtain ⟨F, hF⟩ : ∃ F, Tyc.fam p v = F := ⟨_, rfl⟩
    rw [hF] at ih hrf hside ⊢
    have hT : 0 < ((p ^ N : Nat) : Int) := by have := Nat.pow_pos (n := N) (show 0 < p by omega); omega
    have hM : 0 < m * (p : Int) := Int.mul_pos (by omega) (by omega)
    show (if i + j = k + 2 ∧ 1 ≤ i ∧ 1 ≤ j then dueF p N ((p ^ N : Nat) : Int) W A (lwF p N ((p ^ N : Nat) : Int) W A k) i j else lwF p N ((p ^ N : Nat) : Int) W A k i j) % _ = _
    by_cases hc : i + j = k + 2 ∧ 1 ≤ i ∧ 1 ≤ j
    · rw [if_pos hc]
      have hEq : Eq (m * (p : Int)) (i + j) (lwF p N ((p ^ N : Nat) : Int) W A k) (below (i + j) F) := fun a b hab => by
        unfold below
        by_cases hlt : a + b < i + j
        · rw [if_pos hlt]; exact ih a b (by omega)
        · rw [if_neg hlt, lwF_high p N _ W A k a b (by omega)]
      have hlift := pow_lifts (show 1 ≤ p by omega) (show (p : Int) ∣ m * (p : Int) from ⟨m, Int.mul_comm _ _⟩) hEq
      have hR : restF p N A (lwF p N ((p ^ N : Nat) : Int) W A k) (N + 1) i j % W = restF p N A (below (i + j) F) (N + 1) i j % W :=
        psum_cong _ (fun e he => by
          rw [sub2_in _ _ _ _ hc.2.1 hc.2.2, sub2_in _ _ _ _ hc.2.1 hc.2.2]
          have h1 := mul_lift (q := (p : Int) ^ (N - e)) (a := A e) (hlift e i j (Nat.le_refl _))
          have h2 : m * (p : Int) * ((p ^ e : Nat) : Int) * (p : Int) ^ (N - e) = W := by
            rw [hW, Int.mul_assoc (m * (p : Int)), Int.natCast_pow, Int.natCast_pow, ← Int.pow_add, show e + (N - e) = N by omega, Int.mul_comm]
          rw [h2] at h1
          exact h1)
      unfold dueF
      rw [hR, hrf hc.2.1 hc.2.2 (by omega)]
      have hs := div_shift (r := 0) (z := -(F i j)) hT hM hW
      rw [Int.zero_add, Int.zero_emod, Int.zero_ediv, Int.zero_add, Int.mul_neg] at hs
      obtain ⟨Q, hQ⟩ : ∃ Q, -(((p ^ N : Nat) : Int) * F i j) % W / ((p ^ N : Nat) : Int) = Q := ⟨_, rfl⟩
      rw [hQ] at hs ⊢
      rw [Int.emod_emod_of_dvd _ (show m * (p : Int) ∣ W from ⟨((p ^ N : Nat) : Int), by rw [hW, Int.mul_comm]⟩)]
      have := Ser.mul_cong (m := m * (p : Int)) (x := -1) (y := -1) rfl hs
      rw [Int.neg_mul, Int.one_mul, Int.neg_mul, Int.one_mul, Int.neg_neg] at this
      exact this
    · rw [if_neg hc]
      by_cases h2 : i + j ≤ k + 1
      · exact ih i j h2
      · rw [lwF_side _ _ _ _ _ _ _ _ (by omega), hside (by omega) (by omega)]
end Pl
/-- the model's typical law is the whole one modulo m -/
theorem lawT_fam {p D : Nat} {m : Int} (hp : p = 2 ∨ p = 3 ∨ p = 5 ∨ p = 7) (m1 : 2 ≤ m) (d1 : 1 ≤ D) (hD : D ≤ 10) (v : Nat → Int) : lawT p m D v = Pl.tab m D (Tyc.fam p v) :=
  Pl.tab_congr (fun i j hij => emod_downP (Pl.lwF_fam hp m1 hD v (D - 1) (by omega) i j (by omega)) ⟨(p : Int), rfl⟩)

end Go.Proofs.Ytfhdgcndiljjcab

/- Plain, for TypicalLaw: the degrees in which the typical law has terms. -/
namespace Go.Proofs.Ytfhdgcndiljjcab
namespace Tyc

/-- the law's table is empty outside the degrees n for which p - 1 divides n - 1 -/
def suppOk (p : Nat) : Bool := (List.range 11).all fun i => (List.range 11).all fun j => !(decide (i + j ≤ 10 ∧ (i + j) % (p - 1) ≠ 1 % (p - 1))) || (get (FLp p) i j).isEmpty
theorem supp_all : ∀ p ∈ [2, 3, 5, 7], suppOk p = true := by decide
theorem fam_supp {p : Nat} (hp : p = 2 ∨ p = 3 ∨ p = 5 ∨ p = 7) (v : Nat → Int) {i j : Nat} (h : i + j ≤ 10) (hn : (i + j) % (p - 1) ≠ 1 % (p - 1)) : fam p v i j = 0 := by
  have h1 := supp_all p (by simp; exact hp)
  unfold suppOk at h1
  have h2 := (List.all_eq_true.1 ((List.all_eq_true.1 h1) i (List.mem_range.2 (by omega)))) j (List.mem_range.2 (by omega))
  rw [decide_eq_true (show i + j ≤ 10 ∧ (i + j) % (p - 1) ≠ 1 % (p - 1) from ⟨h, hn⟩)] at h2
  have h3 : get (FLp p) i j = [] := by simpa using h2
  unfold fam evT
  rw [h3]
  rfl
/-- b is a with the terms of degree q + r t times P^t, and a has no others -/
def Hom (r : Nat) (P : Int) (n q : Nat) (a b : Nat → Nat → Int) : Prop := ∀ i j, i + j ≤ n → (a i j = 0 ∧ b i j = 0) ∨ ∃ t, i + j = q + r * t ∧ b i j = a i j * P ^ t
theorem psum_nil {f : Nat → Int} (n : Nat) (h : ∀ i, i < n → f i = 0) : Ser.psum f n = 0 := (Ser.psum_ext n h).trans (Ser.psum_zero n)
theorem Hom.mul {r : Nat} {P : Int} {n q q' : Nat} {a b a' b' : Nat → Nat → Int} (hr : 1 ≤ r) (h : Hom r P n q a b) (k : Hom r P n q' a' b') : Hom r P n (q + q') (Pl.mul2 a a') (Pl.mul2 b b') := by
  intro i j hij
  by_cases ht : ∃ t, i + j = q + q' + r * t
  · obtain ⟨t, ht⟩ := ht
    refine .inr ⟨t, ht, ?_⟩
    unfold Pl.mul2
    rw [← Ser.psum_mul']
    refine Ser.psum_ext _ (fun x hx => ?_)
    rw [← Ser.psum_mul']
    refine Ser.psum_ext _ (fun y hy => ?_)
    rcases h x y (by omega) with ⟨e1, e2⟩ | ⟨t1, e1, e2⟩
    · rw [e1, e2, Int.zero_mul, Int.zero_mul, Int.zero_mul]
    · rcases k (i - x) (j - y) (by omega) with ⟨f1, f2⟩ | ⟨t2, f1, f2⟩
      · rw [f1, f2, Int.mul_zero, Int.mul_zero, Int.zero_mul]
      · have hs : t = t1 + t2 := by
          have : r * t = r * (t1 + t2) := by rw [Nat.mul_add]; omega
          exact Nat.eq_of_mul_eq_mul_left (by omega) this
        rw [e2, f2, hs, Int.pow_add]
        grind
  · have key : ∀ x y, x ≤ i → y ≤ j → (a x y = 0 ∧ b x y = 0) ∨ (a' (i - x) (j - y) = 0 ∧ b' (i - x) (j - y) = 0) := by
      intro x y hx hy
      rcases h x y (by omega) with e | ⟨t1, e1, -⟩
      · exact .inl e
      · rcases k (i - x) (j - y) (by omega) with f | ⟨t2, f1, -⟩
        · exact .inr f
        · exact absurd ⟨t1 + t2, by rw [Nat.mul_add]; omega⟩ ht
    refine .inl ⟨?_, ?_⟩
    · refine psum_nil _ (fun x hx => psum_nil _ (fun y hy => ?_))
      rcases key x y (by omega) (by omega) with e | e
      · rw [e.1, Int.zero_mul]
      · rw [e.1, Int.mul_zero]
    · refine psum_nil _ (fun x hx => psum_nil _ (fun y hy => ?_))
      rcases key x y (by omega) (by omega) with e | e
      · rw [e.2, Int.zero_mul]
      · rw [e.2, Int.mul_zero]
theorem Hom.pw {r : Nat} {P : Int} {n : Nat} {F G : Nat → Nat → Int} (hr : 1 ≤ r) (h : Hom r P n 1 F G) : ∀ q, Hom r P n q (Pl.pwF F q) (Pl.pwF G q)
  | 0 => by
    intro i j _
    show (Pl.one2 1 i j = 0 ∧ Pl.one2 1 i j = 0) ∨ ∃ t, i + j = 0 + r * t ∧ Pl.one2 1 i j = Pl.one2 1 i j * P ^ t
    by_cases h0 : i = 0 ∧ j = 0
    · exact .inr ⟨0, by omega, by rw [Int.pow_zero, Int.mul_one]⟩
    · unfold Pl.one2
      rw [if_neg h0]
      exact .inl ⟨rfl, rfl⟩
  | q + 1 => Hom.mul hr (Hom.pw hr h q) h
theorem fam_00 {p : Nat} (hp : p = 2 ∨ p = 3 ∨ p = 5 ∨ p = 7) (v : Nat → Int) : fam p v 0 0 = 0 := by
  have h : get (FLp p) 0 0 = [] := by rcases hp with rfl | rfl | rfl | rfl <;> rfl
  unfold fam evT
  rw [h]
  rfl
/-- the whole law, stretched -/
def famS (p : Nat) (v : Nat → Int) : Nat → Nat → Int := fun i j => fam p v i j * (p : Int) ^ ((i + j - 1) / (p - 1))
theorem fam_hom {p : Nat} (hp : p = 2 ∨ p = 3 ∨ p = 5 ∨ p = 7) (v : Nat → Int) : Hom (p - 1) p 10 1 (fam p v) (famS p v) := by
  intro i j hij
  unfold famS
  by_cases h0 : i + j = 0
  · obtain ⟨rfl, rfl⟩ : i = 0 ∧ j = 0 := by omega
    rw [fam_00 hp]
    exact .inl ⟨rfl, Int.zero_mul _⟩
  · by_cases hn : (i + j) % (p - 1) = 1 % (p - 1)
    · refine .inr ⟨(i + j - 1) / (p - 1), ?_, rfl⟩
      rcases hp with rfl | rfl | rfl | rfl <;> omega
    · rw [fam_supp hp v hij hn]
      exact .inl ⟨rfl, Int.zero_mul _⟩
/-- the stretched weight of p^e -/
def wtS (p e : Nat) : Nat := p ^ ((p ^ e - 1) / (p - 1)) / p ^ e
theorem wtS_mul : ∀ p ∈ [2, 3, 5, 7], ∀ e ∈ List.range 4, e ≤ n10 p → wtS p e * p ^ e = p ^ ((p ^ e - 1) / (p - 1)) ∧ p ^ e = 1 + (p - 1) * ((p ^ e - 1) / (p - 1)) := by decide
theorem n10_le : ∀ p ∈ [2, 3, 5, 7], n10 p ≤ 3 := by decide
/-- Hazewinkel's theorem, stretched: whole coefficients -/
theorem stretched {p : Nat} (hp : p = 2 ∨ p = 3 ∨ p = 5 ∨ p = 7) (v : Nat → Int) {i j : Nat} (h1 : 1 ≤ i) (h2 : 1 ≤ j) (h3 : i + j ≤ 10) :
    Ser.psum (fun e => Nmr.num p v e * (wtS p e : Int) * Pl.pwF (famS p v) (p ^ e) i j) (n10 p + 1) = 0 := by
  have hin : p ∈ [2, 3, 5, 7] := by simp; exact hp
  have hr : 1 ≤ p - 1 := by omega
  have hH := Hom.pw hr (fam_hom hp v)
  have hp0 : (p : Int) ^ n10 p ≠ 0 := Int.pow_ne_zero (by omega)
  have key : ∀ e, e < n10 p + 1 → Nmr.num p v e * (wtS p e : Int) * Pl.pwF (famS p v) (p ^ e) i j * (p : Int) ^ n10 p = (p : Int) ^ ((i + j - 1) / (p - 1)) * ((p : Int) ^ (n10 p - e) * Nmr.num p v e * Pl.pwF (fam p v) (p ^ e) i j) := by
    intro e he
    have hn := n10_le p hin
    obtain ⟨w1, w2⟩ := wtS_mul p hin e (List.mem_range.2 (by omega)) (by omega)
    obtain ⟨u, hu⟩ : ∃ u, (p ^ e - 1) / (p - 1) = u := ⟨_, rfl⟩
    rw [hu] at w1 w2
    have w3 : (wtS p e : Int) * (p : Int) ^ e = (p : Int) ^ u := by exact_mod_cast w1
    have w4 : (p : Int) ^ n10 p = (p : Int) ^ (n10 p - e) * (p : Int) ^ e := by rw [← Int.pow_add]; congr 1; omega
    rcases hH (p ^ e) i j h3 with ⟨e1, e2⟩ | ⟨t, e1, e2⟩
    · rw [e1, e2]
      simp
    · have hs : (i + j - 1) / (p - 1) = t + u := by
        have : i + j - 1 = (p - 1) * (t + u) := by rw [Nat.mul_add]; omega
        rw [this, Nat.mul_div_cancel_left _ (by omega)]
      rw [e2, hs, Int.pow_add, w4, ← w3]
      grind
  have hz := hazewinkel hp v h1 h2 h3
  have h4 : Ser.psum (fun e => Nmr.num p v e * (wtS p e : Int) * Pl.pwF (famS p v) (p ^ e) i j) (n10 p + 1) * (p : Int) ^ n10 p = 0 := by
    rw [← Ser.psum_mul', Ser.psum_ext _ key, Ser.psum_mul, hz, Int.mul_zero]
  rcases Int.mul_eq_zero.1 h4 with h | h
  · exact h
  · exact absurd h hp0
theorem div_back {F m s t : Int} (hs : 0 < s) : (F * s) % (m * (s * t)) / s % m = F % m := by
  rw [show m * (s * t) = s * (m * t) by grind, Int.mul_comm F s, Int.mul_emod_mul_of_pos _ _ hs, Int.mul_ediv_cancel_left _ (by omega)]
  exact Int.emod_emod_of_dvd _ ⟨t, rfl⟩
/-- the stretched number, divided: the law's own number modulo m -/
theorem famS_back {p : Nat} (hp : p = 2 ∨ p = 3 ∨ p = 5 ∨ p = 7) (v : Nat → Int) (m : Int) {d i j : Nat} (h : i + j ≤ d) :
    famS p v i j % (m * ((p ^ ((d - 1) / (p - 1)) : Nat) : Int)) / ((p ^ ((i + j - 1) / (p - 1)) : Nat) : Int) % m = fam p v i j % m := by
  have hle : (i + j - 1) / (p - 1) ≤ (d - 1) / (p - 1) := Nat.div_le_div_right (by omega)
  have h0 : 0 < (p : Int) ^ ((i + j - 1) / (p - 1)) := Int.pow_pos (by omega)
  have hd : ((p ^ ((d - 1) / (p - 1)) : Nat) : Int) = (p : Int) ^ ((i + j - 1) / (p - 1)) * (p : Int) ^ ((d - 1) / (p - 1) - (i + j - 1) / (p - 1)) := by
    rw [← Int.pow_add, Int.natCast_pow]; congr 1; omega
  rw [hd, Int.natCast_pow]
  exact div_back h0
end Tyc
end Go.Proofs.Ytfhdgcndiljjcab

/- Plain facts on the Weierstrass series and on square roots of series: no program in sight. -/
namespace Go.Proofs.Ytfhdgcndiljjcab
namespace Ser

theorem cv_congr_curves {m : Int} {f f' b b' : Nat → Int} {n : Nat} (hf : f 0 = 0) (hf' : f' 0 = 0) (hb : b 0 = 0) (hb' : b' 0 = 0) (h : Eq m n f f') (k : Eq m n b b') : cv (n + 1) f b % m = cv (n + 1) f' b' % m := by
  rw [cv_succ, cv_succ, hf, hf', Int.zero_mul, Int.zero_mul, Int.zero_add, Int.zero_add, cv_comm (sh f), cv_comm (sh f')]
  exact cv_congr_curve (by rw [hb]; rfl) (by rw [hb']; rfl) k (fun i hi => h (i + 1) (by omega))
theorem cv_mon (f : Nat → Int) (k : Nat) (c : Int) (n : Nat) : cv n f (mon k c) = if k ≤ n then c * f (n - k) else 0 := by
  rw [cv_psum]
  by_cases h : k ≤ n
  · rw [Pl.psum_one _ (n - k) _ (fun i hi hne => by unfold mon; rw [if_neg (by omega), Int.mul_zero]), if_pos (by omega), if_pos h]
    unfold mon
    rw [if_pos (by omega), Int.mul_comm]
  · rw [if_neg h]
    exact psum_low _ _ (fun i _ => by unfold mon; rw [if_neg (by omega), Int.mul_zero])
/-- the right side of the equation of the Weierstrass series -/
def weiB (a3 a4 a6 : Int) (w : Nat → Int) : Nat → Int := fun n => (mon 0 a3 n + mon 1 a4 n) + w n * a6
def weiA (a1 a2 a3 a4 a6 : Int) (w : Nat → Int) : Nat → Int := fun n => (mon 1 a1 n + mon 2 a2 n) + mul w (weiB a3 a4 a6 w) n
def weiF (a1 a2 a3 a4 a6 : Int) (w : Nat → Int) : Nat → Int := fun n => mon 3 1 n + mul w (weiA a1 a2 a3 a4 a6 w) n
theorem weiA_zero (a1 a2 a3 a4 a6 : Int) {w : Nat → Int} (h : w 0 = 0) : weiA a1 a2 a3 a4 a6 w 0 = 0 := by
  show mon 1 a1 0 + mon 2 a2 0 + cv 0 w _ = 0
  rw [cv_zero, h]; simp [mon]
theorem weiF_zero (a1 a2 a3 a4 a6 : Int) {w : Nat → Int} (h : w 0 = 0) : weiF a1 a2 a3 a4 a6 w 0 = 0 := by
  show mon 3 1 0 + cv 0 w _ = 0
  rw [cv_zero, h]; simp [mon]
theorem weiB_congr {m : Int} {k : Nat} (a3 a4 a6 : Int) {w w' : Nat → Int} (h : Eq m k w w') : Eq m k (weiB a3 a4 a6 w) (weiB a3 a4 a6 w') := fun i hi => add_cong rfl (mul_cong (h i hi) rfl)
theorem weiA_congr {m : Int} {k : Nat} (a1 a2 a3 a4 a6 : Int) {w w' : Nat → Int} (h : Eq m k w w') : Eq m k (weiA a1 a2 a3 a4 a6 w) (weiA a1 a2 a3 a4 a6 w') := fun i hi => add_cong rfl (Eq.mul h (weiB_congr a3 a4 a6 h) i hi)
/-- one degree more is right -/
theorem weiF_congr {m : Int} {k : Nat} (a1 a2 a3 a4 a6 : Int) {w w' : Nat → Int} (h0 : w 0 = 0) (h0' : w' 0 = 0) (h : Eq m k w w') : Eq m (k + 1) (weiF a1 a2 a3 a4 a6 w) (weiF a1 a2 a3 a4 a6 w') := by
  intro i hi
  refine add_cong rfl ?_
  by_cases hk : i ≤ k
  · exact Eq.mul h (weiA_congr a1 a2 a3 a4 a6 h) i hk
  · obtain rfl : i = k + 1 := by omega
    exact cv_congr_curves h0 h0' (weiA_zero _ _ _ _ _ h0) (weiA_zero _ _ _ _ _ h0') h (weiA_congr a1 a2 a3 a4 a6 h)
theorem weiF_at (a1 a2 a3 a4 a6 : Int) (w : Nat → Int) (n : Nat) (hn : 3 ≤ n) :
    weiF a1 a2 a3 a4 a6 w n = mon 3 1 n + (a1 * w (n - 1) + a2 * w (n - 2) + (a3 * mul w w n + a4 * mul w w (n - 1) + a6 * mul (mul w w) w n)) := by
  have e1 : mul w (weiA a1 a2 a3 a4 a6 w) n = cv n w (mon 1 a1) + cv n w (mon 2 a2) + cv n w (mul w (weiB a3 a4 a6 w)) := by
    show mul w (fun i => (mon 1 a1 i + mon 2 a2 i) + mul w (weiB a3 a4 a6 w) i) n = _
    rw [mul_add w (fun i => mon 1 a1 i + mon 2 a2 i), mul_add w (mon 1 a1)]; rfl
  have e2 : cv n w (mul w (weiB a3 a4 a6 w)) = cv n (mul w w) (mon 0 a3) + cv n (mul w w) (mon 1 a4) + a6 * mul (mul w w) w n := by
    rw [← cv_assoc]
    show mul (mul w w) (fun i => (mon 0 a3 i + mon 1 a4 i) + w i * a6) n = _
    rw [mul_add (mul w w) (fun i => mon 0 a3 i + mon 1 a4 i), mul_add (mul w w) (mon 0 a3)]
    rw [show (fun i => w i * a6) = fun i => a6 * w i from funext fun i => Int.mul_comm _ _, mul_smul]
    rfl
  show mon 3 1 n + mul w (weiA a1 a2 a3 a4 a6 w) n = _
  rw [e1, e2, cv_mon, cv_mon, cv_mon, cv_mon, if_pos (by omega), if_pos (by omega), if_pos (by omega), if_pos (by omega), Nat.sub_zero]

/-- the program's rounds -/
def addL (m : Int) (d : Nat) (l l' : List Int) : List Int := cut m d fun n => co l n + co l' n
def mulK (m : Int) (d : Nat) (l : List Int) (k : Int) : List Int := cut m d fun n => co l n * k
def monL (m : Int) (d k : Nat) (c : Int) : List Int := cut m d (mon k c)
theorem addL_eq {m : Int} {d : Nat} {l l' : List Int} {f g : Nat → Int} (h : Eq m d (co l) f) (k : Eq m d (co l') g) : Eq m d (co (addL m d l l')) (fun n => f n + g n) := (co_cut_eq _ _ _).trans (h.add k)
theorem mulK_eq {m : Int} {d : Nat} {l : List Int} {f : Nat → Int} (h : Eq m d (co l) f) (k : Int) : Eq m d (co (mulK m d l k)) (fun n => f n * k) := (co_cut_eq _ _ _).trans (fun i hi => mul_cong (h i hi) rfl)
theorem mulL_eq {m : Int} {d : Nat} {l l' : List Int} {f g : Nat → Int} (h : Eq m d (co l) f) (k : Eq m d (co l') g) : Eq m d (co (mulL m d l l')) (mul f g) := (co_cut_eq _ _ _).trans (h.mul k)
def weiQ (m : Int) (d : Nat) (a3 a4 a6 : Int) (L : List Int) : List Int := addL m d (addL m d (monL m d 0 a3) (monL m d 1 a4)) (mulK m d L a6)
def weiS (m : Int) (d : Nat) (a1 a2 a3 a4 a6 : Int) (L : List Int) : List Int := addL m d (addL m d (monL m d 1 a1) (monL m d 2 a2)) (mulL m d L (weiQ m d a3 a4 a6 L))
def weiP (m : Int) (d : Nat) (a1 a2 a3 a4 a6 : Int) (L : List Int) : List Int := addL m d (monL m d 3 1) (mulL m d L (weiS m d a1 a2 a3 a4 a6 L))
def weiL (m : Int) (d : Nat) (a1 a2 a3 a4 a6 : Int) : Nat → List Int
  | 0 => monL m d 0 0
  | k + 1 => weiP m d a1 a2 a3 a4 a6 (weiL m d a1 a2 a3 a4 a6 k)
theorem weiP_eq (m : Int) (d : Nat) (a1 a2 a3 a4 a6 : Int) (L : List Int) : Eq m d (co (weiP m d a1 a2 a3 a4 a6 L)) (weiF a1 a2 a3 a4 a6 (co L)) := by
  have hq : Eq m d (co (weiQ m d a3 a4 a6 L)) (weiB a3 a4 a6 (co L)) := addL_eq (addL_eq (co_cut_eq _ _ _) (co_cut_eq _ _ _)) (mulK_eq (Eq.refl _ _ _) a6)
  have hs : Eq m d (co (weiS m d a1 a2 a3 a4 a6 L)) (weiA a1 a2 a3 a4 a6 (co L)) := addL_eq (addL_eq (co_cut_eq _ _ _) (co_cut_eq _ _ _)) (mulL_eq (Eq.refl _ _ _) hq)
  exact addL_eq (co_cut_eq _ _ _) (mulL_eq (Eq.refl _ _ _) hs)
theorem weiL_length (m : Int) (d : Nat) (a1 a2 a3 a4 a6 : Int) (k : Nat) : (weiL m d a1 a2 a3 a4 a6 k).length = d + 1 := by cases k <;> exact cut_length _ _ _
theorem weiL_red {m : Int} (hm : 0 < m) (d : Nat) (a1 a2 a3 a4 a6 : Int) (k : Nat) : Red m (weiL m d a1 a2 a3 a4 a6 k) := by cases k <;> exact cut_red hm _ _
theorem weiL_zero {m : Int} (hm : 0 < m) (d : Nat) (a1 a2 a3 a4 a6 : Int) (k : Nat) : co (weiL m d a1 a2 a3 a4 a6 k) 0 = 0 := by
  induction k with
  | zero =>
    show co (cut m d (mon 0 0)) 0 = 0
    rw [co_cut (Nat.zero_le _)]
    simp [mon]
  | succ k ih =>
    have h := weiP_eq m d a1 a2 a3 a4 a6 (weiL m d a1 a2 a3 a4 a6 k) 0 (Nat.zero_le _)
    rw [weiF_zero _ _ _ _ _ ih] at h
    have r := weiL_red hm d a1 a2 a3 a4 a6 (k + 1) 0
    rw [show co (weiL m d a1 a2 a3 a4 a6 (k + 1)) 0 = co (weiP m d a1 a2 a3 a4 a6 (weiL m d a1 a2 a3 a4 a6 k)) 0 from rfl] at r ⊢
    rw [Int.emod_eq_of_lt r.1 r.2] at h
    simpa using h
/-- what the model's list is when the coefficients below n have come -/
structure WeiN (m : Int) (D : Nat) (a1 a2 a3 a4 a6 : Int) (L : List Int) (n : Nat) : Prop where
  len : L.length = D + 1
  red : Red m L
  zero : ∀ i, i < 3 → co L i = 0
  last : ∀ i, n ≤ i → co L i = 0
  fix : ∀ i, i < n → co L i = weiF a1 a2 a3 a4 a6 (co L) i % m
theorem weiF_low (a1 a2 a3 a4 a6 : Int) {w : Nat → Int} (h : ∀ i, i < 3 → w i = 0) (i : Nat) (hi : i < 3) : weiF a1 a2 a3 a4 a6 w i = 0 := by
  have : cv i w (weiA a1 a2 a3 a4 a6 w) = 0 := by
    rw [cv_psum]
    exact psum_low _ _ (fun j hj => by rw [h j (by omega), Int.zero_mul])
  show mon 3 1 i + cv i w _ = 0
  rw [this]
  unfold mon
  rw [if_neg (by omega)]; rfl
theorem co_zeros0 (n i : Nat) : co (List.replicate n (0 : Int)) i = 0 := co_zeros n i
theorem WeiN.start {m : Int} (hm : 0 < m) (D : Nat) (a1 a2 a3 a4 a6 : Int) : WeiN m D a1 a2 a3 a4 a6 (List.replicate (D + 1) 0) 3 := by
  have z : ∀ i, co (List.replicate (D + 1) (0 : Int)) i = 0 := fun i => co_zeros0 _ i
  refine ⟨List.length_replicate, fun i => by rw [z]; omega, fun i _ => z i, fun i _ => z i, fun i hi => ?_⟩
  rw [weiF_low _ _ _ _ _ (fun j _ => z j) i hi, z, Int.zero_emod]
theorem WeiN.step {m : Int} (hm : 0 < m) {D : Nat} {a1 a2 a3 a4 a6 : Int} {L : List Int} {n : Nat} (h : WeiN m D a1 a2 a3 a4 a6 L n) (hn : 3 ≤ n) (hD : n ≤ D) {v : Int} (hv : v = weiF a1 a2 a3 a4 a6 (co L) n % m) : WeiN m D a1 a2 a3 a4 a6 (L.set n v) (n + 1) := by
  have hs : ∀ i, co (L.set n v) i = if i = n then v else co L i := fun i => co_set (by rw [h.len]; omega) _ i
  have he : ∀ k, k < n → Eq m k (co (L.set n v)) (co L) := fun k hk i hi => by rw [hs, if_neg (by omega)]
  have h0 : co L 0 = 0 := h.zero 0 (by omega)
  have h0' : co (L.set n v) 0 = 0 := by rw [hs, if_neg (by omega), h0]
  refine ⟨by rw [List.length_set, h.len], fun i => ?_, fun i hi => ?_, fun i hi => ?_, fun i hi => ?_⟩
  · rw [hs]
    split
    · rw [hv]; exact ⟨Int.emod_nonneg _ (by omega), Int.emod_lt_of_pos _ hm⟩
    · exact h.red i
  · rw [hs, if_neg (by omega)]; exact h.zero i hi
  · rw [hs, if_neg (by omega)]; exact h.last i (by omega)
  · rcases i with _ | i
    · rw [h0', weiF_zero _ _ _ _ _ h0', Int.zero_emod]
    · have := weiF_congr a1 a2 a3 a4 a6 h0' h0 (he i (by omega)) (i + 1) (Nat.le_refl _)
      rw [this, hs]
      by_cases hi' : i + 1 = n
      · rw [if_pos hi', hv, hi']
      · rw [if_neg hi']; exact h.fix (i + 1) (by omega)
/-- when all have come it is the program's -/
theorem WeiN.done {m : Int} (hm : 0 < m) {D : Nat} {a1 a2 a3 a4 a6 : Int} {L : List Int} {n : Nat} (h : WeiN m D a1 a2 a3 a4 a6 L n) (hn : D < n) : L = weiL m D a1 a2 a3 a4 a6 D := by
  have key : ∀ k, k ≤ D → Eq m k (co (weiL m D a1 a2 a3 a4 a6 k)) (co L) := by
    intro k
    induction k with
    | zero =>
      intro _ i hi
      obtain rfl : i = 0 := by omega
      rw [weiL_zero hm, h.zero 0 (by omega)]
    | succ k ih =>
      intro hk i hi
      rw [show co (weiL m D a1 a2 a3 a4 a6 (k + 1)) i = co (weiP m D a1 a2 a3 a4 a6 (weiL m D a1 a2 a3 a4 a6 k)) i from rfl, weiP_eq m D a1 a2 a3 a4 a6 _ i (by omega),
        weiF_congr a1 a2 a3 a4 a6 (weiL_zero hm D a1 a2 a3 a4 a6 k) (h.zero 0 (by omega)) (ih (by omega)) i hi, h.fix i (by omega), Int.emod_emod]
  exact red_unique h.len (weiL_length _ _ _ _ _ _ _ _) h.red (weiL_red hm _ _ _ _ _ _ _) (key D (Nat.le_refl _)).symm
/-- the model's next coefficient: sq and cu its square and cube up to n -/
theorem wei_val {m : Int} {a1 a2 a3 a4 a6 : Int} {L : List Int} {n : Nat} (hn : 3 ≤ n) (sq cu : Nat → Int) (hsq : Eq m n sq (mul (co L) (co L))) (hcu : Eq m n cu (mul sq (co L))) :
    (a1 * co L (n - 1) + a2 * co L (n - 2) + a3 * sq n + a4 * sq (n - 1) + a6 * cu n + mon 3 1 n) % m = weiF a1 a2 a3 a4 a6 (co L) n % m := by
  rw [weiF_at _ _ _ _ _ _ n hn]
  have e1 := hsq n (Nat.le_refl _)
  have e2 := hsq (n - 1) (by omega)
  have e3 : cu n % m = mul (mul (co L) (co L)) (co L) n % m := (hcu n (Nat.le_refl _)).trans (cv_congr n hsq (Eq.refl _ _ _))
  rw [show a1 * co L (n - 1) + a2 * co L (n - 2) + a3 * sq n + a4 * sq (n - 1) + a6 * cu n + mon 3 1 n = mon 3 1 n + (a1 * co L (n - 1) + a2 * co L (n - 2) + (a3 * sq n + a4 * sq (n - 1) + a6 * cu n)) by omega]
  exact add_cong rfl (add_cong rfl (add_cong (add_cong (mul_cong rfl e1) (mul_cong rfl e2)) (mul_cong rfl e3)))

/-! square roots -/
def rtL (m : Int) (d : Nat) (h : Int) (a : Nat → Int) : Nat → List Int
  | 0 => cut m d (mon 0 1)
  | k + 1 => (rtL m d h a k).set (k + 1) ((h * (a (k + 1) - cv (k + 1) (co (rtL m d h a k)) (co (rtL m d h a k)))) % m)
theorem rtL_length (m : Int) (d : Nat) (h : Int) (a : Nat → Int) (k : Nat) : (rtL m d h a k).length = d + 1 := by
  induction k with
  | zero => exact cut_length _ _ _
  | succ k ih => show (List.set _ _ _).length = _; rw [List.length_set, ih]
theorem rtL_red {m : Int} (hm : 0 < m) (d : Nat) (h : Int) (a : Nat → Int) (k : Nat) (hk : k ≤ d) : Red m (rtL m d h a k) := by
  induction k with
  | zero => exact cut_red hm _ _
  | succ k ih =>
    intro i
    rw [show co (rtL m d h a (k + 1)) i = co ((rtL m d h a k).set (k + 1) _) i from rfl, co_set (by rw [rtL_length]; omega)]
    split
    · exact ⟨Int.emod_nonneg _ (by omega), Int.emod_lt_of_pos _ hm⟩
    · exact ih (by omega) i
theorem rtL_at {m : Int} (m1 : 2 ≤ m) {d : Nat} (h : Int) (a : Nat → Int) (k : Nat) (hk : k ≤ d) : co (rtL m d h a k) 0 = 1 ∧ ∀ i, k < i → co (rtL m d h a k) i = 0 := by
  induction k with
  | zero =>
    refine ⟨?_, fun i hi => ?_⟩
    · show co (cut m d (mon 0 1)) 0 = 1
      rw [co_cut (Nat.zero_le _)]
      exact Int.emod_eq_of_lt (by simp [mon]) (by simp [mon]; omega)
    · show co (cut m d (mon 0 1)) i = 0
      by_cases hd : i ≤ d
      · rw [co_cut hd]; unfold mon; rw [if_neg (by omega), Int.zero_emod]
      · exact co_over (by rw [cut_length]; omega)
  | succ k ih =>
    have hs : ∀ i, co (rtL m d h a (k + 1)) i = if i = k + 1 then (h * (a (k + 1) - cv (k + 1) (co (rtL m d h a k)) (co (rtL m d h a k)))) % m else co (rtL m d h a k) i := fun i => co_set (by rw [rtL_length]; omega) _ i
    refine ⟨?_, fun i hi => ?_⟩
    · rw [hs, if_neg (by omega)]; exact (ih (by omega)).1
    · rw [hs, if_neg (by omega)]; exact (ih (by omega)).2 i (by omega)
/-- the sum of the terms between both ends -/
def midS (r : Nat → Int) (n : Nat) (k : Nat) : Int := psum (fun i => r (i + 1) * r (n - (i + 1))) k
theorem cv_mid (r : Nat → Int) (n : Nat) (hn : 1 ≤ n) (h0 : r n = 0) : cv n r r = midS r n (n - 1) := by
  rw [cv_psum]
  obtain ⟨k, rfl⟩ : ∃ k, n = k + 1 := ⟨n - 1, by omega⟩
  rw [psum_left]
  show r 0 * r (k + 1 - 0) + psum (fun i => r (i + 1) * r (k + 1 - (i + 1))) (k + 1) = _
  rw [psum]
  unfold midS
  rw [Nat.sub_zero, Nat.add_sub_cancel, h0, Int.mul_zero, Int.zero_mul, Int.zero_add, Int.add_zero]
end Ser
end Go.Proofs.Ytfhdgcndiljjcab

/- Plain facts on the Weierstrass law: substitution is a passage, quotients as series, the two ways to the law: no program in sight. -/
namespace Go.Proofs.Ytfhdgcndiljjcab
namespace Pl
open Ser (psum cv)

theorem mul2_psum' (g : Nat → Nat → Nat → Int) (F : Nat → Nat → Int) (p q n : Nat) : mul2 F (fun i j => psum (fun k => g k i j) n) p q = psum (fun k => mul2 F (g k) p q) n := by
  rw [mul2_comm, mul2_psum]
  exact Ser.psum_ext _ (fun k _ => by rw [mul2_comm])
theorem pw2_add (F : Nat → Nat → Int) (i : Nat) : ∀ j, mul2 (pw2 F i) (pw2 F j) = pw2 F (i + j) := by
  intro j
  induction j with
  | zero => show mul2 _ (one2 1) = _; rw [mul2_one2, one_sm]; rfl
  | succ j ih => show mul2 _ (mul2 (pw2 F j) F) = mul2 (pw2 F (i + j)) F; rw [← mul2_assoc, ih]
theorem pw2_lowW {F : Nat → Nat → Int} (h : F 0 0 = 0) : ∀ k p q, p + q < k → pw2 F k p q = 0 := by
  intro k
  induction k with
  | zero => intro p q h; omega
  | succ k ih =>
    intro p q hpq
    show mul2 (pw2 F k) F p q = 0
    unfold mul2
    refine Ser.psum_low _ _ (fun i hi => Ser.psum_low _ _ (fun j hj => ?_))
    by_cases hk : i + j < k
    · rw [ih i j hk, Int.zero_mul]
    · rw [show p - i = 0 by omega, show q - j = 0 by omega, h, Int.mul_zero]
/-- substitution leads products to products -/
theorem aft_mul (f g : Nat → Int) {F : Nat → Nat → Int} (h : F 0 0 = 0) (d p q : Nat) (hpq : p + q ≤ d) : mul2 (aft f F (d + 1)) (aft g F (d + 1)) p q = aft (Ser.mul f g) F (d + 1) p q := by
  have e1 : mul2 (aft f F (d + 1)) (aft g F (d + 1)) p q = psum (fun i => psum (fun j => f i * g j * pw2 F (i + j) p q) (d + 1)) (d + 1) := by
    unfold aft
    rw [mul2_psum (fun i p q => f i * pw2 F i p q)]
    refine Ser.psum_ext _ (fun i _ => ?_)
    rw [mul2_psum' (fun j p q => g j * pw2 F j p q)]
    refine Ser.psum_ext _ (fun j _ => ?_)
    have : mul2 (sm (f i) (pw2 F i)) (sm (g j) (pw2 F j)) = sm (f i * g j) (pw2 F (i + j)) := by rw [sm_mul2, mul2_sm, pw2_add, sm_sm]
    exact congrFun (congrFun this p) q
  have e2 : psum (fun i => psum (fun j => f i * g j * pw2 F (i + j) p q) (d + 1)) (d + 1) = psum (fun i => psum (fun j => f i * g j * pw2 F (i + j) p q) (d - i + 1)) (d + 1) := by
    refine Ser.psum_ext _ (fun i hi => ?_)
    exact psum_cut _ (d - i + 1) (d + 1) (by omega) (fun j h1 _ => by rw [pw2_lowW h _ _ _ (by omega), Int.mul_zero])
  rw [e1, e2, ← Ser.psum_tri d (fun i j _ => f i * g j * pw2 F (i + j) p q)]
  unfold aft
  refine Ser.psum_ext _ (fun n hn => ?_)
  rw [Ser.mul_at, Ser.cv_psum, ← Ser.psum_mul']
  refine Ser.psum_ext _ (fun i hi => ?_)
  rw [show i + (n - i) = n by omega]
theorem aft_add (f g : Nat → Int) (F : Nat → Nat → Int) (n : Nat) : aft (fun i => f i + g i) F n = pl (aft f F n) (aft g F n) := by
  funext p q
  show psum _ n = psum _ n + psum _ n
  rw [← Ser.psum_add]
  exact Ser.psum_ext _ (fun i _ => Int.add_mul _ _ _)
theorem aft_smul (c : Int) (f : Nat → Int) (F : Nat → Nat → Int) (n : Nat) : aft (fun i => c * f i) F n = sm c (aft f F n) := by
  funext p q
  show psum _ n = c * psum _ n
  rw [← Ser.psum_mul]
  exact Ser.psum_ext _ (fun i _ => Int.mul_assoc _ _ _)
theorem aft_mon (k : Nat) (c : Int) (F : Nat → Nat → Int) (n : Nat) (h : k < n) : aft (Ser.mon k c) F n = sm c (pw2 F k) := by
  funext p q
  show psum _ n = c * pw2 F k p q
  rw [psum_one _ k _ (fun i _ hi => by unfold Ser.mon; rw [if_neg hi, Int.zero_mul]), if_pos h]
  unfold Ser.mon
  rw [if_pos rfl]
theorem pw2_one (F : Nat → Nat → Int) : pw2 F 1 = F := by show mul2 (one2 1) F = F; rw [one2_mul2, one_sm]
theorem aft_t (c : Int) (F : Nat → Nat → Int) (n : Nat) (h : 1 < n) : aft (Ser.mon 1 c) F n = sm c F := by rw [aft_mon 1 c F n h, pw2_one]
theorem aft_c (c : Int) (F : Nat → Nat → Int) (n : Nat) (h : 0 < n) : aft (Ser.mon 0 c) F n = one2 c := by
  rw [aft_mon 0 c F n h]
  show sm c (one2 1) = _
  rw [sm_one2, Int.mul_one]
/-- if s b is n t up to the degree, s at U times b at U is n U -/
theorem aft_quot {m : Int} {d : Nat} {s b : Nat → Int} {U : Nat → Nat → Int} (h0 : U 0 0 = 0) (k : Nat) (c : Int) (hk : k ≤ d) (h : Ser.Eq m d (Ser.mul s b) (Ser.mon k c)) : Eq m d (mul2 (aft s U (d + 1)) (aft b U (d + 1))) (sm c (pw2 U k)) := by
  intro p q hpq
  rw [aft_mul s b h0 d p q hpq, aft_congr (m := m) (d := d) (d + 1) (fun i hi => h i (by omega)) (Eq.refl _ _ _) p q hpq, aft_mon k c U (d + 1) (by omega)]

/-! the two ways -/
/-- the quotient of two tables: whoever, times the denominator, is the numerator, is what the program's rounds give -/
theorem over_mul {m : Int} {d : Nat} {t T : List (List Int)} {R G : Nat → Nat → Int} (ht : Ok m d t) (hT : Ok m d T) (hG : G 0 0 % m = 0) (hR : Eq m d R (sm (-1) G)) (h : Eq m d (mul2 (pc T) (pl (one2 1) G)) (pc t)) : ovT m d t R d = T := by
  have hR0 : R 0 0 % m = 0 := by
    rw [hR 0 0 (Nat.zero_le _)]
    show (-1 * G 0 0) % m = 0
    rw [Int.mul_emod, hG]; simp
  refine over_fix ht hT hR0 ?_
  have e : Eq m d (pl (mul2 (pc T) (pl (one2 1) G)) (mul2 (pc T) (sm (-1) G))) (pc T) := by
    refine Eq.fn ?_
    rw [mul2_pl, mul2_one2, one_sm, mul2_sm]
    funext i j
    show pc T i j + mul2 (pc T) G i j + -1 * mul2 (pc T) G i j = pc T i j
    omega
  exact e.symm.trans ((h.pl (Eq.mul2 (Eq.refl _ _ _) hR.symm)))
/-- the sum of the signs' powers -/
def sgn (n : Nat) : Int := if n % 2 = 0 then 1 else -1
theorem sgn_inv : Ser.mul sgn (fun n => Ser.mon 0 1 n + Ser.mon 1 1 n) = Ser.mon 0 1 := by
  funext n
  rw [Ser.mul_add]
  show cv n sgn (Ser.mon 0 1) + cv n sgn (Ser.mon 1 1) = _
  rw [Ser.cv_mon, Ser.cv_mon, if_pos (Nat.zero_le _), Nat.sub_zero]
  rcases n with _ | n
  · rw [if_neg (by omega)]; rfl
  · rw [if_pos (by omega), Nat.add_sub_cancel]
    unfold sgn Ser.mon
    rw [if_neg (show ¬ (n + 1 = 0) by omega)]
    by_cases h : n % 2 = 0
    · rw [if_pos h, if_neg (by omega)]; rfl
    · rw [if_neg h, if_pos (by omega)]; rfl
/-- the quotient by 1 + G as the model has it -/
theorem over_sgn {m : Int} {d : Nat} (d1 : 1 ≤ d) {t T : List (List Int)} {R G : Nat → Nat → Int} {s : Nat → Int} (ht : Ok m d t) (hT : Ok m d T) (hG : G 0 0 = 0) (hR : Eq m d R (sm (-1) G)) (hs : ∀ i, i ≤ d → s i % m = sgn i % m)
    (h : Eq m d (pc T) (mul2 (pc t) (aft s G (d + 1)))) : ovT m d t R d = T := by
  refine over_mul ht hT (by rw [hG, Int.zero_emod]) hR ?_
  have e1 : aft (fun n => Ser.mon 0 1 n + Ser.mon 1 1 n) G (d + 1) = pl (one2 1) G := by rw [aft_add, aft_c _ _ _ (by omega), aft_t _ _ _ (by omega), one_sm]
  have e2 : Eq m d (mul2 (aft s G (d + 1)) (pl (one2 1) G)) (one2 1) := by
    rw [← e1]
    have := aft_quot (m := m) (d := d) (s := s) (b := fun n => Ser.mon 0 1 n + Ser.mon 1 1 n) hG 0 1 (Nat.zero_le _) (fun i hi => by
      refine (Ser.cv_congr (a' := sgn) i (fun j hj => hs j (by omega)) (Ser.Eq.refl m i (fun n => Ser.mon 0 1 n + Ser.mon 1 1 n))).trans ?_
      exact congrArg (· % m) (congrFun sgn_inv i))
    refine this.trans (Eq.fn ?_)
    show sm 1 (one2 1) = one2 1
    rw [one_sm]
  have e3 := (Eq.mul2 h (Eq.refl m d (pl (one2 1) G))).trans (Eq.fn (mul2_assoc _ _ _))
  refine e3.trans ((Eq.mul2 (Eq.refl m d (pc t)) e2).trans (Eq.fn ?_))
  rw [mul2_one2, one_sm]
/-- the numerator, as the program has it and as the model has it -/
theorem wel_num (l v : Nat → Nat → Int) (a1 a2 a3 a4 a6 : Int) :
    pl (polF l [0, a1, a3]) (mul2 v (polF l [a2, 2 * a4, 3 * a6])) = pl (pl (pl (pl (sm a1 l) (sm a2 v)) (sm a3 (mul2 l l))) (sm (2 * a4) (mul2 l v))) (sm (3 * a6) (mul2 (mul2 l l) v)) := by
  rw [polF_three, polF_three, mul2_pl, mul2_pl, mul2_sm, mul2_sm, mul2_one2, mul2_comm v (mul2 l l), mul2_comm v l]
  funext i j
  show a3 * mul2 l l i j + a1 * l i j + one2 0 i j + (3 * a6 * mul2 (mul2 l l) v i j + 2 * a4 * mul2 l v i j + a2 * v i j) = a1 * l i j + a2 * v i j + a3 * mul2 l l i j + 2 * a4 * mul2 l v i j + 3 * a6 * mul2 (mul2 l l) v i j
  have : one2 0 i j = 0 := by unfold one2; split <;> rfl
  rw [this]
  omega
/-- the denominator less 1 -/
theorem wel_den (l : Nat → Nat → Int) (a2 a4 a6 : Int) : polF l [1, a2, a4, a6] = pl (one2 1) (pl (pl (sm a2 l) (sm a4 (mul2 l l))) (sm a6 (mul2 (mul2 l l) l))) := by
  rw [polF_four]
  funext i j
  show a6 * mul2 (mul2 l l) l i j + a4 * mul2 l l i j + a2 * l i j + one2 1 i j = one2 1 i j + (a2 * l i j + a4 * mul2 l l i j + a6 * mul2 (mul2 l l) l i j)
  omega
end Pl
end Go.Proofs.Ytfhdgcndiljjcab

/- Series with great moduli, up to 10^8: written by wip/tools/mk_bgs.py. -/
namespace Go.Proofs.Ytfhdgcndiljjcab
open Go Go.RowKit Go.WideShapes Go.ChangeShapes Go.ChangeAt

structure SerOkG (m : Int) (d : Nat) (l : List Int) : Prop where
  m1 : 2 ≤ m
  m2 : m ≤ 100000000
  d1 : 1 ≤ d
  d2 : d ≤ 10
  len : l.length = d + 1
  red : Ser.Red m l
theorem SerOkG.cut {m : Int} {d : Nat} {l : List Int} (h : SerOkG m d l) (f : Nat → Int) : SerOkG m d (Ser.cut m d f) :=
  ⟨h.m1, h.m2, h.d1, h.d2, Ser.cut_length _ _ _, Ser.cut_red (by have := h.m1; omega) _ _⟩
theorem SerOkG.of {m : Int} {d : Nat} (m1 : 2 ≤ m) (m2 : m ≤ 100000000) (d1 : 1 ≤ d) (d2 : d ≤ 10) (f : Nat → Int) : SerOkG m d (Ser.cut m d f) :=
  ⟨m1, m2, d1, d2, Ser.cut_length _ _ _, Ser.cut_red (by omega) _ _⟩
set_option maxHeartbeats 2000000 in
set_option maxRecDepth 100000 in
theorem seriesOf_anyG (m : Int) (d fn : Nat) (cap : Array Value) (f : Nat → Int) (w : World) (h1 : 1 ≤ m) (h2 : m ≤ 100000000) (hd : d ≤ 1000) (hlo : ∀ n, n ≤ d → -4000000000000000000 ≤ f n ∧ f n ≤ 4000000000000000000)
    (hen : ∀ (args : Array Value) (W : World), (callFunc fn args).run Try.prog W = .ok (.enter fn args) W)
    (hf : ∀ (n : Nat) (W : World), n ≤ d → Below w.heap.size w W → Calls Try.prog fn (#[.int .i64 n] ++ cap) W fun e w' => e = .returned (.int .i64 (f n)) ∧ Below W.heap.size W w') :
    Calls Try.prog 72 #[.int .i64 m, .int .i64 d, .func (.func fn) #[] cap] w fun e w' => ∃ v, e = .returned (.agg #[.int .i64 m, v]) ∧ OwnI w' w.heap.size v (Ser.cut m d f) ∧ Below w.heap.size w w' := by
  have HF := Lib.hid hf
  have HL := Lib.hid hlo
  clear hf hlo
  have hmk : ∀ W : World, (Instr.makeSlice 22 (.int .i64 ((d : Int) + 1)) (.int .i64 ((d : Int) + 1))).run Try.prog W = .ok (.slice (some ⟨W.heap.size, 0, none⟩) (d + 1) (d + 1)) (W.alloc (.cells (madeCells #[.int .i64 0] (d + 1)) 2)) := by
    intro W
    have := run_make_row' (P := Try.prog) 22 2 (.int .i64 0) 8 Try.underlying22 info64 rfl .i64 .i64 (d + 1) (by omega) (by omega) W
    rwa [show ((d + 1 : Nat) : Int) = (d : Int) + 1 by omega] at this
  go_enter Try.func72, Try.ntmps72
  go_wp2
  go_loopw [14] (fun i wr => ∃ k : Nat, k ≤ d + 1 ∧ i = .int .i64 k ∧ OwnI wr (w.heap.size + 1) (.slice (some ⟨w.heap.size + 1, 0, none⟩) (d + 1) (d + 1)) ((Ser.cut m d f).take k ++ List.replicate (d + 1 - k) 0) ∧ Var2 wr w.heap.size (.int .i64 0) (.slice none 0 0) ∧ Below w.heap.size w wr) (fun i _ => d + 1 - (intOf i).toNat)
  case atStart =>
    refine ⟨0, Nat.zero_le _, rfl, ?_, (Var2.new w _ _).keep (below_one _ _), below_alloc _ (below_one _ _)⟩
    have h := OwnI.made (w.alloc (.cells #[.int .i64 0, .slice none 0 0] 62)) (d + 1) (by unfold maxLen; omega)
    simpa using h
  case round =>
    clear hmk
    obtain ⟨k, hk, rfl, hown, hvar, hbel⟩ := hrel
    have HV := Lib.hid hvar
    have HB := Lib.hid hbel
    have HO := Lib.hid hown
    clear hown hbel hvar
    by_cases hlt : k < d + 1
    · obtain ⟨q1, q2⟩ := HL.out k (by omega)
      obtain ⟨F, hF⟩ : ∃ F, f k = F := ⟨_, rfl⟩
      have HC := HF.out k wr (by omega) HB.out
      rw [hF] at q1 q2 HC
      have HC' := Lib.hid HC
      have HFk := Lib.hid hF
      clear HC hF
      have hkd : (k : Int) < (d : Int) + 1 := by omega
      go_wp2_with fail
      refine HC'.out.mono ?_
      rintro e w1 ⟨rfl, hb1⟩
      have HO1 := Lib.hid (HO.out.keep hb1)
      have HV1 := Lib.hid (HV.out.keep hb1)
      obtain ⟨_, _, o3, o4⟩ := HO1.out.cells
      have hd1 := o3 k (by simp [Ser.cut_length]; omega)
      have hf1 := o4 k
      obtain ⟨y, hy⟩ : ∃ y, ((Ser.cut m d f).take k ++ List.replicate (d + 1 - k) 0)[k]?.getD 0 = y := ⟨_, rfl⟩
      rw [hy] at hd1
      have hs := HO1.out.set k (f k % m)
      rw [cut_step m d f k (by omega), HFk.out] at hs
      have HS := Lib.hid hs
      have HB1 := Lib.hid (HB.out.trans (hb1.mono HB.out.size))
      clear hy o3 o4 hs hb1
      go_wp2_with (first | (go_at_call 67; refine (remB_any _ _ _ h1 h2 q1 q2).mono ?_; rintro e w' ⟨rfl, rfl⟩))
      go_roundw
      case rel => exact ⟨k + 1, by omega, by go_num, HS.out, HV1.out.far _ _ _ (by omega), HB1.out.setCell (by show w.heap.size ≤ w.heap.size + 1; omega) _⟩
      case measure => simp only [intOf]; omega
    · obtain rfl : k = d + 1 := by omega
      have ho := HO.out
      rw [Ser.cut_take_all, Nat.sub_self, List.replicate_zero, List.append_nil] at ho
      have HFin := Lib.hid ho
      clear ho
      have v0 := HV.out.c0
      have v1 := HV.out.c1
      have v2 := HV.out.fz 0
      have v3 := HV.out.fz 1
      obtain ⟨v4, v5⟩ : (set2 wr w.heap.size (.int .i64 m) (.slice (some ⟨w.heap.size + 1, 0, none⟩) (d + 1) (d + 1))).cell? ⟨w.heap.size, 0, none⟩ = some (.int .i64 m) ∧
        (set2 wr w.heap.size (.int .i64 m) (.slice (some ⟨w.heap.size + 1, 0, none⟩) (d + 1) (d + 1))).cell? ⟨w.heap.size, 1, none⟩ = some (.slice (some ⟨w.heap.size + 1, 0, none⟩) (d + 1) (d + 1)) := ⟨(HV.out.set2 _ _).c0, (HV.out.set2 _ _).c1⟩
      unfold set2 at v4 v5
      go_wp2
      refine bodyPost_ret (v := .agg #[.int .i64 m, .slice (some ⟨w.heap.size + 1, 0, none⟩) (d + 1) (d + 1)]) (by simp [results, Try.results72, go_sem, v4, v5]) rfl ⟨_, rfl, ?_, below_set2 HB.out (Nat.le_refl _) _ _⟩
      exact (HFin.out.other (grown_set2 wr w.heap.size _ _) (.inr (by simp [Value.ownBlock]))).more (by omega)
set_option maxHeartbeats 1000000 in
theorem plusC_anyG (n : Nat) (g g' : Nat) (m : Int) (A : Option Addr) (c : Nat) (l : List Int) (m' : Int) (A' : Option Addr) (c' : Nat) (l' : List Int) (W : World)
    (hb : Box W g m A l.length c) (hb' : Box W g' m' A' l'.length c') (hr : RI W A l) (hr' : RI W A' l') (h1 : n < l.length) (h2 : n < l'.length)
    (h3 : 0 ≤ Ser.co l n) (h4 : Ser.co l n ≤ 100000000) (h5 : 0 ≤ Ser.co l' n) (h6 : Ser.co l' n ≤ 100000000) :
    Calls Try.prog 79 #[.int .i64 n, .pointer (some ⟨g, 0, none⟩), .pointer (some ⟨g', 0, none⟩)] W fun e w' => e = .returned (.int .i64 (Ser.co l n + Ser.co l' n)) ∧ Below W.heap.size W w' := by
  obtain ⟨b, off, rfl, hlt, hc⟩ := hr.at n h1
  obtain ⟨b', off', rfl, hlt', hc'⟩ := hr'.at n h2
  obtain ⟨x1, x2, _⟩ := hb
  obtain ⟨y1, y2, _⟩ := hb'
  obtain ⟨X, hX⟩ : ∃ X, Ser.co l n = X := ⟨_, rfl⟩
  obtain ⟨Y, hY⟩ : ∃ Y, Ser.co l' n = Y := ⟨_, rfl⟩
  rw [hX] at hc h3 h4 ⊢
  rw [hY] at hc' h5 h6 ⊢
  have j1 : (0 : Int) ≤ (n : Int) := by omega
  have j2 : (n : Int) < (l.length : Int) := by omega
  have j3 : (n : Int) < (l'.length : Int) := by omega
  clear hr hr' hX hY
  go_enter Try.func79, Try.ntmps79
  go_wp2
  go_quiet (fail)
  go_wp2
  go_ret
  exact ⟨rfl, below_drewN (Below.refl _ _) _⟩

set_option maxHeartbeats 2000000 in
set_option maxRecDepth 100000 in
theorem plus_anyG (m : Int) (d : Nat) (A : Option Addr) (c : Nat) (l : List Int) (m' : Int) (A' : Option Addr) (c' : Nat) (l' : List Int) (w : World) (hs : SerOkG m d l) (hs' : SerOkG m d l') (hr : RI w A l) (hr' : RI w A' l') :
    Calls Try.prog 59 #[.agg #[.int .i64 m, .slice A l.length c], .agg #[.int .i64 m', .slice A' l'.length c']] w fun e w' => ∃ v, e = .returned (.agg #[.int .i64 m, v]) ∧ OwnI w' w.heap.size v (Ser.cut m d fun n => Ser.co l n + Ser.co l' n) ∧ Below w.heap.size w w' := by
  obtain ⟨W, hW⟩ : ∃ W, (((w.alloc (.cells #[.int .i64 m, .slice A l.length c] 62)).alloc (.cells #[.int .i64 m', .slice A' l'.length c'] 62)).alloc (.cells #[.int .i64 0, .slice none 0 0] 62)) = W := ⟨_, rfl⟩
  obtain ⟨b1, b2, v3, hwb⟩ := box3_new w m m' A A' l.length c l'.length c' W hW
  have B1 := Lib.hid b1
  have B2 := Lib.hid b2
  have V3 := Lib.hid v3
  have HB := Lib.hid hwb
  have HW := Lib.hid hW
  have R1 := Lib.hid (hr.below hwb)
  have R2 := Lib.hid (hr'.below hwb)
  have HS := Lib.hid (fun W0 (h0 : Below W.heap.size W W0) => seriesOf_anyG m d 79 #[.pointer (some ⟨w.heap.size, 0, none⟩), .pointer (some ⟨w.heap.size + 1, 0, none⟩)] (fun n => Ser.co l n + Ser.co l' n) W0 (by have := hs.m1; omega) hs.m2 (by have := hs.d2; omega)
    (fun n _ => by have h1 := hs.red n; have h2 := hs'.red n; have h3 := hs.m2; omega)
    (enters_fn Try.func79 (of_decide_eq_true (by kernel_rfl)) rfl)
    (fun n W1 hn hb => by
      have h1 := hs.red n
      have h2 := hs'.red n
      have h3 := hs.m2
      have hb2 := h0.trans (hb.mono h0.size)
      exact plusC_anyG n _ _ m A c l m' A' c' l' W1 (B1.out.keep hb2) (B2.out.keep hb2) (R1.out.below hb2) (R2.out.below hb2) (by rw [hs.len]; omega) (by rw [hs'.len]; omega) (by omega) (by omega) (by omega) (by omega)))
  have HL := Lib.hid hs.len
  have HD := Lib.hid hs.d2
  clear b1 b2 v3 hwb hW hr hr' hs hs'
  go_enter Try.func59, Try.ntmps59
  go_wp2
  rw [HW.out]
  obtain ⟨x1, x2, x3⟩ := B1.out
  go_region_held3 (fun w' => w'.cell? ⟨w.heap.size, 0, none⟩ = some (.int .i64 m) ∧ w'.cell? ⟨w.heap.size, 1, none⟩ = some (.slice A l.length c) ∧ w.heap.size < w'.heap.size) (first | exact ⟨x1, x2, x3⟩ | exact box_store (by omega) (by assumption) | exact box_call (by assumption) (by assumption)) (first
    | (go_at_call 74; refine (degree_nat _ _ _ _ d _ HL.out (by have := HD.out; omega)).mono ?_; rintro e1 w1 ⟨rfl, hb1⟩)
    | (go_at_call 72; refine (HS.out _ ((below_drew0 W).trans hb1)).mono ?_; rintro e2 w2 ⟨v, rfl, ho2, hb2⟩; obtain ⟨A2, c2, rfl, _⟩ := ho2.form; have hv := V3.out.keep (((below_drew0 W).trans hb1).trans (hb2.mono ((below_drew0 W).trans hb1).size)); have q0 := hv.c0; have q1 := hv.c1; have q2 := hv.fz 0; have q3 := hv.fz 1))
  all_goals
    have hz := ((below_drew0 W).trans hb1).size
    have hg := x3
    have hw2 : Below w.heap.size w w2 := (HB.out.trans (((below_drew0 W).trans hb1).mono HB.out.size)).trans (hb2.mono (by have := HB.out.size; omega))
    obtain ⟨f0, f1, f2, f3⟩ := fin_var (w := w) hv ho2 (by have := V3.out.lt; omega) (by omega) hw2 (.int .i64 m) (.slice A2 (Ser.cut m d fun n => Ser.co l n + Ser.co l' n).length c2)
    have F2 := Lib.hid f2
    have F3 := Lib.hid f3
    clear f2 f3 hw2 ho2 hb2 hb1
    go_wp2
    refine bodyPost_ret (v := .agg #[.int .i64 m, .slice A2 (Ser.cut m d fun n => Ser.co l n + Ser.co l' n).length c2]) (by simp [results, Try.results59, go_sem, f0, f1]) rfl ⟨_, rfl, F2.out, F3.out⟩
set_option maxHeartbeats 2000000 in
theorem monomial_anyG (m : Int) (d k : Nat) (c : Int) (w : World) (h1 : 1 ≤ m) (h2 : m ≤ 100000000) (hd : d ≤ 1000) (h3 : -1000000000 ≤ c) (h4 : c ≤ 1000000000) :
    Calls Try.prog 55 #[.int .i64 m, .int .i64 d, .int .i64 k, .int .i64 c] w fun e w' => ∃ v, e = .returned (.agg #[.int .i64 m, v]) ∧ OwnI w' w.heap.size v (Ser.cut m d (Ser.mon k c)) ∧ Below w.heap.size w w' := by
  obtain ⟨W, hW⟩ : ∃ W, ((w.alloc (.cells #[.int .i64 k] 2)).alloc (.cells #[.int .i64 c] 2)).alloc (.cells #[.int .i64 0, .slice none 0 0] 62) = W := ⟨_, rfl⟩
  have hwb : Below w.heap.size w W := by rw [← hW]; exact below_alloc _ (below_alloc _ (below_one _ _))
  have b1 : Cel W w.heap.size k := by rw [← hW]; exact ((Cel.new w k).keep (below_one _ _)).keep (below_one _ _)
  have b2 : Cel W (w.heap.size + 1) c := by
    rw [← hW]
    have := (Cel.new (w.alloc (.cells #[.int .i64 k] 2)) c).keep (below_one _ (.cells #[.int .i64 0, .slice none 0 0] 62))
    simpa using this
  have v3 : Var2 W (w.heap.size + 1 + 1) (.int .i64 0) (.slice none 0 0) := by
    rw [← hW]
    have := Var2.new ((w.alloc (.cells #[.int .i64 k] 2)).alloc (.cells #[.int .i64 c] 2)) (.int .i64 0) (.slice none 0 0)
    simpa using this
  have V3 := Lib.hid v3
  have HB := Lib.hid hwb
  have HW := Lib.hid hW
  have HS := Lib.hid (seriesOf_anyG m d 73 #[.pointer (some ⟨w.heap.size, 0, none⟩), .pointer (some ⟨w.heap.size + 1, 0, none⟩)] (Ser.mon k c) W h1 h2 hd
    (fun n _ => mon_bd k c _ _ (by omega) (by omega) (by omega) (by omega) n)
    (enters_fn Try.func73 (of_decide_eq_true (by kernel_rfl)) rfl)
    (fun n W1 hn hb => monoC_any n k _ _ c W1 (b1.keep hb) (b2.keep hb)))
  obtain ⟨L, hL⟩ : ∃ L, Ser.cut m d (Ser.mon k c) = L := ⟨_, rfl⟩
  rw [hL] at HS ⊢
  clear b1 b2 v3 hwb hW hL
  go_enter Try.func55, Try.ntmps55
  go_wp2_with fail
  rw [HW.out]
  refine HS.out.mono ?_
  rintro e w2 ⟨v, rfl, ho, hb⟩
  obtain ⟨A2, c2, rfl, _⟩ := ho.form
  have hv := V3.out.keep hb
  have q0 := hv.c0
  have q1 := hv.c1
  have q2 := hv.fz 0
  have q3 := hv.fz 1
  obtain ⟨f0, f1, f2, f3⟩ := fin_var (w := w) hv ho (by have := V3.out.lt; omega) (by omega) (below_step HB.out hb) (.int .i64 m) (.slice A2 L.length c2)
  have F2 := Lib.hid f2
  have F3 := Lib.hid f3
  clear f2 f3 hv ho hb
  go_wp2
  exact bodyPost_ret (v := .agg #[.int .i64 m, .slice A2 L.length c2]) (by simp [results, Try.results55, go_sem, f0, f1]) rfl ⟨_, rfl, F2.out, F3.out⟩

theorem mul_bdG {x y : Int} (h1 : 0 ≤ x) (h2 : x ≤ 100000000) (h3 : -100000000 ≤ y) (h4 : y ≤ 100000000) : -10000000000000000 ≤ x * y ∧ x * y ≤ 10000000000000000 := by
  constructor
  · have := Int.mul_le_mul_of_nonneg_left (c := x) h3 h1
    have e : x * -100000000 = -(x * 100000000) := Int.mul_neg _ _
    omega
  · have := Int.mul_le_mul_of_nonneg_left (c := x) h4 h1
    omega
set_option maxHeartbeats 1000000 in
theorem scaledC_anyG (n : Nat) (g g' : Nat) (m : Int) (A : Option Addr) (c : Nat) (l : List Int) (k : Int) (W : World)
    (hb : Box W g m A l.length c) (hb' : Cel W g' k) (hr : RI W A l) (h1 : n < l.length) (h3 : 0 ≤ Ser.co l n) (h4 : Ser.co l n ≤ 100000000) (h5 : -100000000 ≤ k) (h6 : k ≤ 100000000) :
    Calls Try.prog 75 #[.int .i64 n, .pointer (some ⟨g, 0, none⟩), .pointer (some ⟨g', 0, none⟩)] W fun e w' => e = .returned (.int .i64 (Ser.co l n * k)) ∧ Below W.heap.size W w' := by
  obtain ⟨b, off, rfl, hlt, hc⟩ := hr.at n h1
  obtain ⟨x1, x2, _⟩ := hb
  obtain ⟨y1, _⟩ := hb'
  obtain ⟨X, hX⟩ : ∃ X, Ser.co l n = X := ⟨_, rfl⟩
  rw [hX] at hc h3 h4 ⊢
  obtain ⟨p1, p2⟩ := mul_bdG h3 h4 h5 h6
  have j1 : (0 : Int) ≤ (n : Int) := by omega
  have j2 : (n : Int) < (l.length : Int) := by omega
  clear hr hX
  go_enter Try.func75, Try.ntmps75
  go_wp2
  go_quiet (fail)
  go_wp2
  go_ret
  exact ⟨rfl, below_drewN (Below.refl _ _) _⟩

set_option maxHeartbeats 2000000 in
set_option maxRecDepth 100000 in
theorem scaled_anyG (m : Int) (d : Nat) (A : Option Addr) (c : Nat) (l : List Int) (k : Int) (w : World) (hs : SerOkG m d l) (hr : RI w A l) (h5 : -100000000 ≤ k) (h6 : k ≤ 100000000) :
    Calls Try.prog 56 #[.agg #[.int .i64 m, .slice A l.length c], .int .i64 k] w fun e w' => ∃ v, e = .returned (.agg #[.int .i64 m, v]) ∧ OwnI w' w.heap.size v (scaL m d l k) ∧ Below w.heap.size w w' := by
  obtain ⟨W, hW⟩ : ∃ W, (((w.alloc (.cells #[.int .i64 m, .slice A l.length c] 62)).alloc (.cells #[.int .i64 k] 2)).alloc (.cells #[.int .i64 0, .slice none 0 0] 62)) = W := ⟨_, rfl⟩
  have hwb : Below w.heap.size w W := by rw [← hW]; exact below_alloc _ (below_alloc _ (below_one _ _))
  have b1 : Box W w.heap.size m A l.length c := by rw [← hW]; exact ((Box.new w m A l.length c).keep (below_one _ _)).keep (below_one _ _)
  have b2 : Cel W (w.heap.size + 1) k := by
    rw [← hW]
    have := (Cel.new (w.alloc (.cells #[.int .i64 m, .slice A l.length c] 62)) k).keep (below_one _ (.cells #[.int .i64 0, .slice none 0 0] 62))
    simpa using this
  have v3 : Var2 W (w.heap.size + 1 + 1) (.int .i64 0) (.slice none 0 0) := by
    rw [← hW]
    have := Var2.new ((w.alloc (.cells #[.int .i64 m, .slice A l.length c] 62)).alloc (.cells #[.int .i64 k] 2)) (.int .i64 0) (.slice none 0 0)
    simpa using this
  have B1 := Lib.hid b1
  have B2 := Lib.hid b2
  have V3 := Lib.hid v3
  have HB := Lib.hid hwb
  have HW := Lib.hid hW
  have R1 := Lib.hid (hr.below hwb)
  have HS := Lib.hid (fun W0 (h0 : Below W.heap.size W W0) => seriesOf_anyG m d 75 #[.pointer (some ⟨w.heap.size, 0, none⟩), .pointer (some ⟨w.heap.size + 1, 0, none⟩)] (fun n => Ser.co l n * k) W0 (by have := hs.m1; omega) hs.m2 (by have := hs.d2; omega)
    (fun n _ => by have h1 := hs.red n; have h3 := hs.m2; have := mul_bdG h1.1 (by omega) h5 h6; omega)
    (enters_fn Try.func75 (of_decide_eq_true (by kernel_rfl)) rfl)
    (fun n W1 hn hb => by
      have h1 := hs.red n
      have h3 := hs.m2
      have hb2 := h0.trans (hb.mono h0.size)
      exact scaledC_anyG n _ _ m A c l k W1 (B1.out.keep hb2) (B2.out.keep hb2) (R1.out.below hb2) (by rw [hs.len]; omega) (by omega) (by omega) h5 h6))
  have HL := Lib.hid hs.len
  have HD := Lib.hid hs.d2
  obtain ⟨L, hLL⟩ : ∃ L, scaL m d l k = L := ⟨_, rfl⟩
  unfold scaL at hLL ⊢
  rw [hLL] at HS ⊢
  clear b1 b2 v3 hwb hW hr hs hLL
  go_enter Try.func56, Try.ntmps56
  go_wp2
  rw [HW.out]
  obtain ⟨x1, x2, x3⟩ := B1.out
  go_region_held3 (fun w' => w'.cell? ⟨w.heap.size, 0, none⟩ = some (.int .i64 m) ∧ w'.cell? ⟨w.heap.size, 1, none⟩ = some (.slice A l.length c) ∧ w.heap.size < w'.heap.size) (first | exact ⟨x1, x2, x3⟩ | exact box_store (by omega) (by assumption) | exact box_call (by assumption) (by assumption)) (first
    | (go_at_call 74; refine (degree_nat _ _ _ _ d _ HL.out (by have := HD.out; omega)).mono ?_; rintro e1 w1 ⟨rfl, hb1⟩)
    | (go_at_call 72; refine (HS.out _ ((below_drew0 W).trans hb1)).mono ?_; rintro e2 w2 ⟨v, rfl, ho2, hb2⟩; obtain ⟨A2, c2, rfl, _⟩ := ho2.form; have hv := V3.out.keep (((below_drew0 W).trans hb1).trans (hb2.mono ((below_drew0 W).trans hb1).size)); have q0 := hv.c0; have q1 := hv.c1; have q2 := hv.fz 0; have q3 := hv.fz 1))
  all_goals
    have hz := ((below_drew0 W).trans hb1).size
    have hg := x3
    have hw2 : Below w.heap.size w w2 := (HB.out.trans (((below_drew0 W).trans hb1).mono HB.out.size)).trans (hb2.mono (by have := HB.out.size; omega))
    obtain ⟨f0, f1, f2, f3⟩ := fin_var (w := w) hv ho2 (by have := V3.out.lt; omega) (by omega) hw2 (.int .i64 m) (.slice A2 L.length c2)
    have F2 := Lib.hid f2
    have F3 := Lib.hid f3
    clear f2 f3 hw2 ho2 hb2 hb1
    go_wp2
    refine bodyPost_ret (v := .agg #[.int .i64 m, .slice A2 L.length c2]) (by simp [results, Try.results56, go_sem, f0, f1]) rfl ⟨_, rfl, F2.out, F3.out⟩
set_option maxHeartbeats 4000000 in
theorem productAt_anyG (m : Int) (d n : Nat) (A : Option Addr) (c : Nat) (l : List Int) (m' : Int) (A' : Option Addr) (c' : Nat) (l' : List Int) (w : World) (hs : SerOkG m d l) (hs' : SerOkG m d l') (hr : RI w A l) (hr' : RI w A' l') (hn : n ≤ d) :
    Calls Try.prog 92 #[.agg #[.int .i64 m, .slice A l.length c], .agg #[.int .i64 m', .slice A' l'.length c'], .int .i64 n] w fun e w' => e = .returned (.int .i64 (Ser.cv n (Ser.co l) (Ser.co l'))) ∧ Below w.heap.size w w' := by
  obtain ⟨W, hW⟩ : ∃ W, (w.alloc (.cells #[.int .i64 m, .slice A l.length c] 62)).alloc (.cells #[.int .i64 m', .slice A' l'.length c'] 62) = W := ⟨_, rfl⟩
  obtain ⟨b1, b2, hwb⟩ := box2_new w m m' A A' l.length c l'.length c' W hW
  obtain ⟨x1, x2, _⟩ := b1
  obtain ⟨y1, y2, _⟩ := b2
  have HB := Lib.hid hwb
  have HW := Lib.hid hW
  have R1 := Lib.hid (hr.below hwb)
  have R2 := Lib.hid (hr'.below hwb)
  have HS := Lib.hid hs
  have HS' := Lib.hid hs'
  have HD := hs.d2
  obtain ⟨f, hf⟩ : ∃ f, f = fun i => Ser.co l i * Ser.co l' (n - i) := ⟨_, rfl⟩
  have HE := Lib.hid (show Ser.cv n (Ser.co l) (Ser.co l') = Ser.psum f (n + 1) by rw [hf]; exact Ser.cv_psum _ _ _)
  have HF := Lib.hid hf
  clear hwb hW hr hr' hs hs' hf
  go_enter Try.func92, Try.ntmps92
  go_wp2
  rw [HW.out]
  go_loopw [7, 8, 11] (fun s _ i wr => ∃ k : Nat, k ≤ n + 1 ∧ i = .int .i64 k ∧ s = .int .i64 (Ser.psum f k) ∧ 0 ≤ Ser.psum f k ∧ Ser.psum f k ≤ k * 10000000000000000 ∧ ∃ q, wr = W.drewN q) (fun _ _ i _ => n + 1 - (intOf i).toNat)
  case atStart => exact ⟨0, Nat.zero_le _, rfl, rfl, Int.le_refl _, Int.le_refl _, 0, rfl⟩
  case round =>
    obtain ⟨k, hk, rfl, rfl, z1, z2, q, rfl⟩ := hrel
    by_cases hlt : k < n + 1
    · obtain ⟨b, off, rfl, hb, hc⟩ := R1.out.at k (by have := HS.out.len; omega)
      obtain ⟨b', off', rfl, hb', hc'⟩ := R2.out.at (n - k) (by have := HS'.out.len; omega)
      have r1 := HS.out.red k
      have r2 := HS'.out.red (n - k)
      have m2 := HS.out.m2
      have hst : Ser.psum f (k + 1) = Ser.psum f k + Ser.co l k * Ser.co l' (n - k) := by rw [Ser.psum, HF.out]
      obtain ⟨X, hX⟩ : ∃ X, Ser.co l k = X := ⟨_, rfl⟩
      obtain ⟨Y, hY⟩ : ∃ Y, Ser.co l' (n - k) = Y := ⟨_, rfl⟩
      obtain ⟨P, hP⟩ : ∃ P, Ser.psum f k = P := ⟨_, rfl⟩
      rw [hX] at hc r1 hst
      rw [hY] at hc' r2 hst
      rw [hP] at z1 z2 hst
      obtain ⟨p1, p2⟩ := mul_bdG (x := X) (y := Y) r1.1 (by omega) (by omega) (by omega)
      have p3 : 0 ≤ X * Y := Int.mul_nonneg r1.1 r2.1
      have l1 := HS.out.len
      have l2 := HS'.out.len
      have j0 : (0 : Int) ≤ (k : Int) := by omega
      have j1 : (k : Int) < (l.length : Int) := by omega
      have j3 : (0 : Int) ≤ (n : Int) - (k : Int) := by omega
      have j4 : (n : Int) - (k : Int) < (l'.length : Int) := by omega
      have j5 : ((n : Int) - (k : Int)).toNat = n - k := by omega
      have HST := Lib.hid hst
      have HP := Lib.hid hP
      clear hX hY hP hst l1 l2
      rw [HP.out]
      go_wp2
      go_quiet (fail)
      go_wp2
      go_roundw
      case rel => exact ⟨k + 1, by omega, by go_num, by rw [HST.out], by rw [HST.out]; omega, by rw [HST.out]; omega, _, rfl⟩
      case measure => simp only [intOf]; omega
    · obtain rfl : k = n + 1 := by omega
      go_wp2
      go_ret
      exact ⟨ret_int HE.out.symm, below_drewN HB.out _⟩
theorem cv_bdG {m : Int} {l l' : List Int} (m2 : m ≤ 100000000) (h : Ser.Red m l) (h' : Ser.Red m l') (n : Nat) (hn : n ≤ 50) : 0 ≤ Ser.cv n (Ser.co l) (Ser.co l') ∧ Ser.cv n (Ser.co l) (Ser.co l') ≤ 510000000000000000 := by
  rw [Ser.cv_psum]
  have := psum_bd (fun i => Ser.co l i * Ser.co l' (n - i)) 10000000000000000 (fun i => by
    have h1 := h i
    have h2 := h' (n - i)
    exact ⟨Int.mul_nonneg h1.1 h2.1, (mul_bdG h1.1 (by omega) (by omega) (by omega)).2⟩) (n + 1)
  refine ⟨this.1, Int.le_trans this.2 ?_⟩
  omega

set_option maxHeartbeats 1000000 in
theorem timesC_anyG (n : Nat) (g g' : Nat) (m : Int) (d : Nat) (A : Option Addr) (c : Nat) (l : List Int) (m' : Int) (A' : Option Addr) (c' : Nat) (l' : List Int) (W : World)
    (hb : Box W g m A l.length c) (hb' : Box W g' m' A' l'.length c') (hs : SerOkG m d l) (hs' : SerOkG m d l') (hr : RI W A l) (hr' : RI W A' l') (hn : n ≤ d) :
    Calls Try.prog 91 #[.int .i64 n, .pointer (some ⟨g, 0, none⟩), .pointer (some ⟨g', 0, none⟩)] W fun e w' => e = .returned (.int .i64 (Ser.cv n (Ser.co l) (Ser.co l'))) ∧ Below W.heap.size W w' := by
  obtain ⟨x1, x2, _⟩ := hb
  obtain ⟨y1, y2, _⟩ := hb'
  have HP := Lib.hid (productAt_anyG m d n A c l m' A' c' l' W hs hs' hr hr' hn)
  clear hs hs' hr hr'
  go_enter Try.func91, Try.ntmps91
  go_wp2_with fail
  refine HP.out.mono ?_
  rintro e w1 ⟨rfl, hb1⟩
  go_wp2
  go_ret
  exact ⟨rfl, hb1⟩

set_option maxHeartbeats 2000000 in
set_option maxRecDepth 100000 in
theorem times_anyG (m : Int) (d : Nat) (A : Option Addr) (c : Nat) (l : List Int) (m' : Int) (A' : Option Addr) (c' : Nat) (l' : List Int) (w : World) (hs : SerOkG m d l) (hs' : SerOkG m d l') (hr : RI w A l) (hr' : RI w A' l') :
    Calls Try.prog 86 #[.agg #[.int .i64 m, .slice A l.length c], .agg #[.int .i64 m', .slice A' l'.length c']] w fun e w' => ∃ v, e = .returned (.agg #[.int .i64 m, v]) ∧ OwnI w' w.heap.size v (Ser.mulL m d l l') ∧ Below w.heap.size w w' := by
  obtain ⟨W, hW⟩ : ∃ W, (((w.alloc (.cells #[.int .i64 m, .slice A l.length c] 62)).alloc (.cells #[.int .i64 m', .slice A' l'.length c'] 62)).alloc (.cells #[.int .i64 0, .slice none 0 0] 62)) = W := ⟨_, rfl⟩
  obtain ⟨b1, b2, v3, hwb⟩ := box3_new w m m' A A' l.length c l'.length c' W hW
  have B1 := Lib.hid b1
  have B2 := Lib.hid b2
  have V3 := Lib.hid v3
  have HB := Lib.hid hwb
  have HW := Lib.hid hW
  have R1 := Lib.hid (hr.below hwb)
  have R2 := Lib.hid (hr'.below hwb)
  have HS := Lib.hid (fun W0 (h0 : Below W.heap.size W W0) => seriesOf_anyG m d 91 #[.pointer (some ⟨w.heap.size, 0, none⟩), .pointer (some ⟨w.heap.size + 1, 0, none⟩)] (Ser.mul (Ser.co l) (Ser.co l')) W0 (by have := hs.m1; omega) hs.m2 (by have := hs.d2; omega)
    (fun n hn => by have := cv_bdG hs.m2 hs.red hs'.red n (by have := hs.d2; omega); rw [Ser.mul_at]; omega)
    (enters_fn Try.func91 (of_decide_eq_true (by kernel_rfl)) rfl)
    (fun n W1 hn hb => by
      have hb2 := h0.trans (hb.mono h0.size)
      exact timesC_anyG n _ _ m d A c l m' A' c' l' W1 (B1.out.keep hb2) (B2.out.keep hb2) hs hs' (R1.out.below hb2) (R2.out.below hb2) hn))
  have HL := Lib.hid hs.len
  have HD := Lib.hid hs.d2
  obtain ⟨L, hLL⟩ : ∃ L, Ser.mulL m d l l' = L := ⟨_, rfl⟩
  unfold Ser.mulL at hLL ⊢
  rw [hLL] at HS ⊢
  clear b1 b2 v3 hwb hW hr hr' hs hs' hLL
  go_enter Try.func86, Try.ntmps86
  go_wp2
  rw [HW.out]
  obtain ⟨x1, x2, x3⟩ := B1.out
  go_region_held3 (fun w' => w'.cell? ⟨w.heap.size, 0, none⟩ = some (.int .i64 m) ∧ w'.cell? ⟨w.heap.size, 1, none⟩ = some (.slice A l.length c) ∧ w.heap.size < w'.heap.size) (first | exact ⟨x1, x2, x3⟩ | exact box_store (by omega) (by assumption) | exact box_call (by assumption) (by assumption)) (first
    | (go_at_call 74; refine (degree_nat _ _ _ _ d _ HL.out (by have := HD.out; omega)).mono ?_; rintro e1 w1 ⟨rfl, hb1⟩)
    | (go_at_call 72; refine (HS.out _ ((below_drew0 W).trans hb1)).mono ?_; rintro e2 w2 ⟨v, rfl, ho2, hb2⟩; obtain ⟨A2, c2, rfl, _⟩ := ho2.form; have hv := V3.out.keep (((below_drew0 W).trans hb1).trans (hb2.mono ((below_drew0 W).trans hb1).size)); have q0 := hv.c0; have q1 := hv.c1; have q2 := hv.fz 0; have q3 := hv.fz 1))
  all_goals
    have hz := ((below_drew0 W).trans hb1).size
    have hg := x3
    have hw2 : Below w.heap.size w w2 := (HB.out.trans (((below_drew0 W).trans hb1).mono HB.out.size)).trans (hb2.mono (by have := HB.out.size; omega))
    obtain ⟨f0, f1, f2, f3⟩ := fin_var (w := w) hv ho2 (by have := V3.out.lt; omega) (by omega) hw2 (.int .i64 m) (.slice A2 L.length c2)
    have F2 := Lib.hid f2
    have F3 := Lib.hid f3
    clear f2 f3 hw2 ho2 hb2 hb1
    go_wp2
    refine bodyPost_ret (v := .agg #[.int .i64 m, .slice A2 L.length c2]) (by simp [results, Try.results86, go_sem, f0, f1]) rfl ⟨_, rfl, F2.out, F3.out⟩

end Go.Proofs.Ytfhdgcndiljjcab

