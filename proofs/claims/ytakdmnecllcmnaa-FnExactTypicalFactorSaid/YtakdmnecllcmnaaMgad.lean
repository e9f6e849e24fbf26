/- Texts of contracts, joined. -/
import Derived.Test.YtakdmnecllcmnaaMgaa
import Derived.StillTailTactics
/- Contracts of sums and multiples of series, of the program. -/
namespace Go.Proofs.Ytakdmnecllcmnaa
open Go.RowKit Go.WideShapes Go.ChangeShapes Go.ChangeAt

set_option maxHeartbeats 1000000 in
theorem plusC_any (n : Nat) (g g' : Nat) (m : Int) (A : Option Addr) (c : Nat) (l : List Int) (m' : Int) (A' : Option Addr) (c' : Nat) (l' : List Int) (W : World)
    (hb : Box W g m A l.length c) (hb' : Box W g' m' A' l'.length c') (hr : RI W A l) (hr' : RI W A' l') (h1 : n < l.length) (h2 : n < l'.length)
    (h3 : 0 ≤ Ser.co l n) (h4 : Ser.co l n ≤ 10000) (h5 : 0 ≤ Ser.co l' n) (h6 : Ser.co l' n ≤ 10000) :
    Calls Try.prog 104 #[.int .i64 n, .pointer (some ⟨g, 0, none⟩), .pointer (some ⟨g', 0, none⟩)] W fun e w' => e = .returned (.int .i64 (Ser.co l n + Ser.co l' n)) ∧ Below W.heap.size W w' := by
  obtain ⟨b, off, rfl, hlt, hc⟩ := hr.at n h1
  obtain ⟨b', off', rfl, hlt', hc'⟩ := hr'.at n h2
  obtain ⟨x1, x2, _⟩ := hb
  obtain ⟨y1, y2, _⟩ := hb'
  obtain ⟨X, hX⟩ : ∃ X, Ser.co l n = X := ⟨_, rfl⟩
  obtain ⟨Y, hY⟩ : ∃ Y, Ser.co l' n = Y := ⟨_, rfl⟩
  rw [hX] at hc h3 h4 ⊢
  rw [hY] at hc' h5 h6 ⊢
  have j1 : (0 : Int) ≤ (n : Int) := by omega
  have j2 : (n : Int) < (l.length : Int) := by omega
  have j3 : (n : Int) < (l'.length : Int) := by omega
  clear hr hr' hX hY
  go_enter Try.func104, Try.ntmps104
  go_wp2
  go_quiet (fail)
  go_wp2
  go_ret
  exact ⟨rfl, below_drewN (Below.refl _ _) _⟩

/-- the world behind the boxes and the result's variable -/
theorem box3_new (w : World) (m m' : Int) (A A' : Option Addr) (n c n' c' : Nat) (W : World) (hW : (((w.alloc (.cells #[.int .i64 m, .slice A n c] 30)).alloc (.cells #[.int .i64 m', .slice A' n' c'] 30)).alloc (.cells #[.int .i64 0, .slice none 0 0] 30)) = W) :
    Box W w.heap.size m A n c ∧ Box W (w.heap.size + 1) m' A' n' c' ∧ Var2 W (w.heap.size + 1 + 1) (.int .i64 0) (.slice none 0 0) ∧ Below w.heap.size w W := by
  subst hW
  obtain ⟨h1, h2, h3⟩ := box2_new w m m' A A' n c n' c' _ rfl
  refine ⟨h1.keep (below_one _ _), h2.keep (below_one _ _), ?_, below_alloc _ h3⟩
  have := Var2.new ((w.alloc (.cells #[.int .i64 m, .slice A n c] 30)).alloc (.cells #[.int .i64 m', .slice A' n' c'] 30)) (.int .i64 0) (.slice none 0 0)
  simpa using this

set_option maxHeartbeats 2000000 in
set_option maxRecDepth 100000 in
theorem plus_any (m : Int) (d : Nat) (A : Option Addr) (c : Nat) (l : List Int) (m' : Int) (A' : Option Addr) (c' : Nat) (l' : List Int) (w : World) (hs : SerOk m d l) (hs' : SerOk m d l') (hr : RI w A l) (hr' : RI w A' l') :
    Calls Try.prog 70 #[.agg #[.int .i64 m, .slice A l.length c], .agg #[.int .i64 m', .slice A' l'.length c']] w fun e w' => ∃ v, e = .returned (.agg #[.int .i64 m, v]) ∧ OwnI w' w.heap.size v (Ser.cut m d fun n => Ser.co l n + Ser.co l' n) ∧ Below w.heap.size w w' := by
  obtain ⟨W, hW⟩ : ∃ W, (((w.alloc (.cells #[.int .i64 m, .slice A l.length c] 30)).alloc (.cells #[.int .i64 m', .slice A' l'.length c'] 30)).alloc (.cells #[.int .i64 0, .slice none 0 0] 30)) = W := ⟨_, rfl⟩
  obtain ⟨b1, b2, v3, hwb⟩ := box3_new w m m' A A' l.length c l'.length c' W hW
  have B1 := Lib.hid b1
  have B2 := Lib.hid b2
  have V3 := Lib.hid v3
  have HB := Lib.hid hwb
  have HW := Lib.hid hW
  have R1 := Lib.hid (hr.below hwb)
  have R2 := Lib.hid (hr'.below hwb)
  have HS := Lib.hid (fun W0 (h0 : Below W.heap.size W W0) => seriesOf_any m d 104 #[.pointer (some ⟨w.heap.size, 0, none⟩), .pointer (some ⟨w.heap.size + 1, 0, none⟩)] (fun n => Ser.co l n + Ser.co l' n) W0 (by have := hs.m1; omega) hs.m2 (by have := hs.d2; omega)
    (fun n _ => by have h1 := hs.red n; have h2 := hs'.red n; have h3 := hs.m2; omega)
    (enters_fn Try.func104 (of_decide_eq_true (by kernel_rfl)) rfl)
    (fun n W1 hn hb => by
      have h1 := hs.red n
      have h2 := hs'.red n
      have h3 := hs.m2
      have hb2 := h0.trans (hb.mono h0.size)
      exact plusC_any n _ _ m A c l m' A' c' l' W1 (B1.out.keep hb2) (B2.out.keep hb2) (R1.out.below hb2) (R2.out.below hb2) (by rw [hs.len]; omega) (by rw [hs'.len]; omega) (by omega) (by omega) (by omega) (by omega)))
  have HL := Lib.hid hs.len
  have HD := Lib.hid hs.d2
  clear b1 b2 v3 hwb hW hr hr' hs hs'
  go_enter Try.func70, Try.ntmps70
  go_wp2
  rw [HW.out]
  obtain ⟨x1, x2, x3⟩ := B1.out
  go_region_held3 (fun w' => w'.cell? ⟨w.heap.size, 0, none⟩ = some (.int .i64 m) ∧ w'.cell? ⟨w.heap.size, 1, none⟩ = some (.slice A l.length c) ∧ w.heap.size < w'.heap.size) (first | exact ⟨x1, x2, x3⟩ | exact box_store (by omega) (by assumption) | exact box_call (by assumption) (by assumption)) (first
    | (go_at_call 102; refine (degree_nat _ _ _ _ d _ HL.out (by have := HD.out; omega)).mono ?_; rintro e1 w1 ⟨rfl, hb1⟩)
    | (go_at_call 100; refine (HS.out _ ((below_drew0 W).trans hb1)).mono ?_; rintro e2 w2 ⟨v, rfl, ho2, hb2⟩; obtain ⟨A2, c2, rfl, _⟩ := ho2.form; have hv := V3.out.keep (((below_drew0 W).trans hb1).trans (hb2.mono ((below_drew0 W).trans hb1).size)); have q0 := hv.c0; have q1 := hv.c1; have q2 := hv.fz 0; have q3 := hv.fz 1))
  all_goals
    have hz := ((below_drew0 W).trans hb1).size
    have hg := x3
    have hw2 : Below w.heap.size w w2 := (HB.out.trans (((below_drew0 W).trans hb1).mono HB.out.size)).trans (hb2.mono (by have := HB.out.size; omega))
    obtain ⟨f0, f1, f2, f3⟩ := fin_var (w := w) hv ho2 (by have := V3.out.lt; omega) (by omega) hw2 (.int .i64 m) (.slice A2 (Ser.cut m d fun n => Ser.co l n + Ser.co l' n).length c2)
    have F2 := Lib.hid f2
    have F3 := Lib.hid f3
    clear f2 f3 hw2 ho2 hb2 hb1
    go_wp2
    refine bodyPost_ret (v := .agg #[.int .i64 m, .slice A2 (Ser.cut m d fun n => Ser.co l n + Ser.co l' n).length c2]) (by simp [results, Try.results70, go_sem, f0, f1]) rfl ⟨_, rfl, F2.out, F3.out⟩
end Go.Proofs.Ytakdmnecllcmnaa

/- Powers, compositions by Horner's rule and reversions as lists of coefficients. Plain: no program in sight. -/
namespace Go.Proofs.Ytakdmnecllcmnaa
namespace Ser

def mulL (m : Int) (d : Nat) (a b : List Int) : List Int := cut m d (mul (co a) (co b))
theorem mulL_length (m : Int) (d : Nat) (a b : List Int) : (mulL m d a b).length = d + 1 := cut_length _ _ _
theorem mulL_red {m : Int} (hm : 0 < m) (d : Nat) (a b : List Int) : Red m (mulL m d a b) := cut_red hm _ _

/-- the steps of squaring: exponent left, product, square -/
def powS (m : Int) (d : Nat) (k : Nat) (p s : List Int) : List Int :=
  if _h : k = 0 then p else powS m d (k / 2) (if k % 2 = 1 then mulL m d p s else p) (mulL m d s s)
termination_by k
decreasing_by omega
theorem powS_zero (m : Int) (d : Nat) (p s : List Int) : powS m d 0 p s = p := by rw [powS]; simp
theorem powS_odd (m : Int) (d : Nat) {k : Nat} (p s : List Int) (h : k % 2 = 1) : powS m d k p s = powS m d (k / 2) (mulL m d p s) (mulL m d s s) := by rw [powS, dif_neg (by omega), if_pos h]
theorem powS_even (m : Int) (d : Nat) {k : Nat} (p s : List Int) (h0 : k ≠ 0) (h : ¬ k % 2 = 1) : powS m d k p s = powS m d (k / 2) p (mulL m d s s) := by rw [powS, dif_neg h0, if_neg h]
def one (m : Int) (d : Nat) : List Int := cut m d (mon 0 1)
def powL (m : Int) (d : Nat) (a : List Int) (k : Nat) : List Int := powS m d k (one m d) a
theorem powS_length (m : Int) (d : Nat) : ∀ (k : Nat) (p s : List Int), p.length = d + 1 → (powS m d k p s).length = d + 1 := by
  intro k
  induction k using Nat.strongRecOn with
  | ind k ih =>
    intro p s hp
    by_cases h0 : k = 0
    · subst h0; rw [powS_zero, hp]
    · by_cases h : k % 2 = 1
      · rw [powS_odd _ _ _ _ h]; exact ih _ (by omega) _ _ (mulL_length _ _ _ _)
      · rw [powS_even _ _ _ _ h0 h]; exact ih _ (by omega) _ _ hp
theorem powL_length (m : Int) (d : Nat) (a : List Int) (k : Nat) : (powL m d a k).length = d + 1 := powS_length _ _ _ _ _ (cut_length _ _ _)
theorem powS_red {m : Int} (hm : 0 < m) (d : Nat) : ∀ (k : Nat) (p s : List Int), Red m p → Red m (powS m d k p s) := by
  intro k
  induction k using Nat.strongRecOn with
  | ind k ih =>
    intro p s hp
    by_cases h0 : k = 0
    · subst h0; rw [powS_zero]; exact hp
    · by_cases h : k % 2 = 1
      · rw [powS_odd _ _ _ _ h]; exact ih _ (by omega) _ _ (mulL_red hm _ _ _)
      · rw [powS_even _ _ _ _ h0 h]; exact ih _ (by omega) _ _ hp
theorem powL_red {m : Int} (hm : 0 < m) (d : Nat) (a : List Int) (k : Nat) : Red m (powL m d a k) := powS_red hm _ _ _ _ (cut_red hm _ _)

/-- Horner's rule over lists: after j steps -/
def horC (m : Int) (d : Nat) (a f : Nat → Int) : Nat → List Int
  | 0 => List.replicate (d + 1) 0
  | j + 1 => (cut m d (mul (co (horC m d a f j)) f)).set 0 (a (d - j))
theorem horC_length (m : Int) (d : Nat) (a f : Nat → Int) : ∀ j, (horC m d a f j).length = d + 1 := by
  intro j
  cases j with
  | zero => simp [horC]
  | succ j => simp [horC, cut_length]
theorem horC_red {m : Int} (hm : 0 < m) (d : Nat) (a f : Nat → Int) (ha : ∀ i, 0 ≤ a i ∧ a i < m) : ∀ j, Red m (horC m d a f j) := by
  intro j i
  cases j with
  | zero => rw [horC, co_zeros]; omega
  | succ j =>
    rw [horC, co_set (by rw [cut_length]; omega)]
    split
    · exact ha _
    · exact cut_red hm _ _ i
theorem horC_hor {m : Int} {d : Nat} {a f : Nat → Int} (hf : f 0 = 0) : ∀ j, j ≤ d → Eq m d (co (horC m d a f (j + 1))) (hor j (fun i => a (d - j + i)) f) := by
  intro j
  induction j with
  | zero =>
    intro _ i hi
    rw [horC, co_set (by rw [cut_length]; omega), hor_zero]
    unfold mon
    by_cases h : i = 0
    · rw [if_pos h, if_pos h]; rfl
    · have z : co (horC m d a f 0) = fun _ => 0 := by funext i; rw [horC, co_zeros]
      rw [if_neg h, if_neg h, co_cut hi, mul_at, z, cv_zero_left]; simp
  | succ j ih =>
    intro hj i hi
    rw [horC, co_set (by rw [cut_length]; omega), hor_succ]
    dsimp only
    have e : (sh fun i => a (d - (j + 1) + i)) = fun i => a (d - j + i) := by
      funext i
      simp only [sh]
      congr 1
      omega
    rw [e, mul_at]
    by_cases h : i = 0
    · subst h
      rw [if_pos rfl, cv_zero, hf]
      simp [mon]
    · rw [if_neg h, co_cut hi, mul_at, Int.emod_emod, cv_comm]
      unfold mon
      rw [if_neg h, Int.zero_add]
      exact cv_congr i (Eq.refl _ _ _) ((ih (by omega)).less hi)
theorem horC_comp {m : Int} {d : Nat} {a f : Nat → Int} (hf : f 0 = 0) : Eq m d (co (horC m d a f (d + 1))) (comp a f) := by
  intro i hi
  rw [horC_hor hf d (Nat.le_refl _) i hi]
  have e : (fun i => a (d - d + i)) = a := by funext i; rw [Nat.sub_self, Nat.zero_add]
  rw [e, hor_comp hf a d i hi]
/-- composition of lists -/
def cmpL (m : Int) (d : Nat) (a f : List Int) : List Int := horC m d (co a) (co f) (d + 1)
theorem cmpL_length (m : Int) (d : Nat) (a f : List Int) : (cmpL m d a f).length = d + 1 := horC_length _ _ _ _ _
theorem cmpL_eq {m : Int} {d : Nat} {a f : List Int} (hf : co f 0 = 0) : Eq m d (co (cmpL m d a f)) (comp (co a) (co f)) := horC_comp hf
theorem cmpL_red {m : Int} (hm : 0 < m) (d : Nat) {a : List Int} (ha : Red m a) (f : List Int) : Red m (cmpL m d a f) := horC_red hm _ _ _ ha _
theorem comp_ext {a a' f : Nat → Int} (hf : f 0 = 0) : ∀ n, (∀ i, i ≤ n → a i = a' i) → comp a f n = comp a' f n := by
  intro n
  induction n using Nat.strongRecOn generalizing a a' with
  | ind n ih =>
    intro h
    rw [comp_eq hf a, comp_eq hf a', h 0 (Nat.zero_le _)]
    dsimp only
    rw [mul_at, mul_at]
    congr 1
    exact cv_ext_curve hf (fun j hj => ih j hj (fun i hi => h (i + 1) (by omega)))
theorem comp_ext_right {a f f' : Nat → Int} (hf : f 0 = 0) (hf' : f' 0 = 0) : ∀ n, (∀ i, i ≤ n → f i = f' i) → comp a f n = comp a f' n := by
  intro n
  induction n using Nat.strongRecOn generalizing a with
  | ind n ih =>
    intro h
    rw [comp_eq hf a, comp_eq hf' a]
    dsimp only
    rw [mul_at, mul_at]
    congr 1
    rw [cv_ext_curve (f := f) hf (fun j hj => ih j hj (fun i hi => h i (by omega)))]
    exact cv_ext n h (fun _ _ => rfl)

/-! the model's reversion: number by number -/
def revC (m u : Int) (f : Nat → Int) : Nat → List Int
  | 0 => [0, u]
  | n + 1 => revC m u f n ++ [((m - comp f (co (revC m u f n)) (n + 2) % m) * u) % m]
theorem revC_length (m u : Int) (f : Nat → Int) : ∀ n, (revC m u f n).length = n + 2 := by
  intro n
  induction n with
  | zero => rfl
  | succ n ih => simp [revC, ih]
theorem revC_pre (m u : Int) (f : Nat → Int) (n k i : Nat) (h : i ≤ n + 1) : co (revC m u f (n + k)) i = co (revC m u f n) i := by
  induction k with
  | zero => rfl
  | succ k ih => rw [Nat.add_succ, revC, co_app, if_pos (by rw [revC_length]; omega), ih]
theorem revC_curve (m u : Int) (f : Nat → Int) (n : Nat) : co (revC m u f n) 0 = 0 := by
  have := revC_pre m u f 0 n 0 (by omega)
  rw [Nat.zero_add] at this
  rw [this]; rfl
theorem revC_last (m u : Int) (f : Nat → Int) (n : Nat) : co (revC m u f (n + 1)) (n + 2) = ((m - comp f (co (revC m u f n)) (n + 2) % m) * u) % m := by
  rw [revC, co_app, if_neg (by rw [revC_length]; omega), revC_length, Nat.sub_self]; rfl
theorem revC_red {m u : Int} (hm : 0 < m) (hu : 0 ≤ u) (hu2 : u < m) (f : Nat → Int) : ∀ n, Red m (revC m u f n) := by
  intro n
  induction n with
  | zero =>
    intro i
    match i with
    | 0 => exact ⟨by simp [revC, co], by simp [revC, co]; exact hm⟩
    | 1 => exact ⟨by simpa [revC, co] using hu, by simpa [revC, co] using hu2⟩
    | i + 2 => rw [co_over (by simp [revC])]; omega
  | succ n ih =>
    intro i
    rw [revC, co_app]
    split
    · exact ih i
    · rename_i h
      rw [revC_length] at h ⊢
      rcases hi : i - (n + 2) with _ | j
      · exact ⟨Int.emod_nonneg _ (by omega), Int.emod_lt_of_pos _ hm⟩
      · rw [co_over (by simp)]; omega
/-- the highest coefficient of the inner curve enters by f(1) alone -/
theorem comp_last {f h h' : Nat → Int} (hh : h 0 = 0) (hh' : h' 0 = 0) (n : Nat) (e : ∀ i, i ≤ n → h i = h' i) :
    comp f h (n + 1) = comp f h' (n + 1) + f 1 * (h (n + 1) - h' (n + 1)) := by
  rw [comp_eq hh f, comp_eq hh' f]
  dsimp only
  rw [mul_at, mul_at, cv_succ' h, cv_succ' h', Int.mul_sub]
  have c0 : comp (sh f) h 0 = f 1 := comp_zero _ _
  have c1 : comp (sh f) h' 0 = f 1 := comp_zero _ _
  rw [c0, c1, Int.mul_comm (f 1), Int.mul_comm (f 1)]
  have c2 : cv n h (sh (comp (sh f) h)) = cv n h' (sh (comp (sh f) h')) := by
    cases n with
    | zero => rw [cv_zero, cv_zero, hh, hh']; simp
    | succ n =>
      rw [cv_succ, cv_succ, hh, hh']
      simp only [Int.zero_mul, Int.zero_add]
      refine cv_ext n (fun i hi => e (i + 1) (by omega)) (fun i hi => ?_)
      exact comp_ext_right hh hh' _ (fun j hj => e j (by omega))
  rw [c2]
  omega
theorem revC_right {m u : Int} {f : Nat → Int} (hf : f 0 = 0) (h : (f 1 * u) % m = 1 % m) (n : Nat) : Eq m (n + 1) (comp f (co (revC m u f n))) (mon 1 1) := by
  induction n with
  | zero =>
    intro i hi
    match i, hi with
    | 0, _ => rw [comp_zero, hf]; simp [mon]
    | 1, _ =>
      rw [comp_eq (revC_curve m u f 0)]
      dsimp only
      rw [mul_at, cv_succ, cv_zero]
      have c1 : comp (sh f) (co (revC m u f 0)) 0 = f 1 := comp_zero _ _
      rw [c1, revC_curve]
      have : sh (co (revC m u f 0)) 0 = u := rfl
      rw [this, Int.mul_comm u]
      simpa [mon] using h
  | succ n ih =>
    intro i hi
    by_cases hi' : i ≤ n + 1
    · rw [comp_ext_right (revC_curve m u f (n + 1)) (revC_curve m u f n) i (fun j hj => revC_pre m u f n 1 j (by omega))]
      exact ih i hi'
    · obtain rfl : i = n + 2 := by omega
      rw [comp_last (revC_curve m u f (n + 1)) (revC_curve m u f n) (n + 1) (fun j hj => revC_pre m u f n 1 j hj), revC_last, co_over (l := revC m u f n) (by rw [revC_length]; omega)]
      generalize comp f (co (revC m u f n)) (n + 2) = S
      have e : (S + f 1 * ((m - S % m) * u % m - 0)) % m = (S + f 1 * ((0 - S) * u)) % m := by
        rw [Int.sub_zero]
        refine add_cong rfl (mul_cong rfl ?_)
        rw [Int.emod_emod]
        refine mul_cong (sub_cong (by simp) (Int.emod_emod _ _)) rfl
      rw [e, Int.zero_sub, show f 1 * (-S * u) = -((f 1 * u) * S) by rw [Int.neg_mul, Int.mul_neg, Int.mul_assoc, Int.mul_comm S u], ← Int.sub_eq_add_neg]
      have e2 : (S - f 1 * u * S) % m = (S - 1 * S) % m := sub_cong rfl (mul_cong h rfl)
      rw [e2, Int.one_mul, Int.sub_self]
      simp [mon]

/-! the program's reversion: the powers of f take t apart -/
def pw (f : Nat → Int) : Nat → Nat → Int
  | 0 => mon 0 1
  | n + 1 => mul (pw f n) f
theorem pw_low {f : Nat → Int} (hf : f 0 = 0) : ∀ n i, i < n → pw f n i = 0 := by
  intro n
  induction n with
  | zero => intro i h; omega
  | succ n ih =>
    intro i hi
    have e : cv i (pw f n) f = cv i f (fun _ => 0) := by
      rw [cv_comm]
      exact cv_ext_curve hf (fun j hj => ih j (by omega))
    rw [pw, mul_at, e, cv_comm, cv_zero_left]
def ipow (x : Int) : Nat → Int
  | 0 => 1
  | n + 1 => ipow x n * x
theorem cv_low {p f : Nat → Int} : ∀ n, (∀ i, i < n → p i = 0) → f 0 = 0 → cv (n + 1) p f = p n * f 1 := by
  intro n
  induction n generalizing p with
  | zero => intro _ hf; rw [cv_succ, cv_zero, hf]; simp
  | succ n ih =>
    intro hp hf
    rw [cv_succ, hp 0 (by omega), ih (p := sh p) (fun i hi => hp (i + 1) (by omega)) hf]
    simp [sh]
theorem pw_lead {f : Nat → Int} (hf : f 0 = 0) : ∀ n, pw f n n = ipow (f 1) n := by
  intro n
  induction n with
  | zero => simp [pw, mon, ipow]
  | succ n ih => rw [pw, mul_at, cv_low n (fun i hi => pw_low hf n i hi) hf, ih]; rfl
theorem ipow_unit {m x u : Int} (h : (x * u) % m = 1 % m) : ∀ n, (ipow x n * ipow u n) % m = 1 % m := by
  intro n
  induction n with
  | zero => rfl
  | succ n ih =>
    rw [ipow, ipow, show ipow x n * x * (ipow u n * u) = (ipow x n * ipow u n) * (x * u) by
      rw [Int.mul_assoc, Int.mul_left_comm x, ← Int.mul_assoc]]
    have := mul_cong ih h
    rw [this]; rfl
theorem comp_mon {f : Nat → Int} (hf : f 0 = 0) : ∀ n, comp (mon n 1) f = pw f n := by
  intro n
  induction n with
  | zero => rw [comp_const hf]; rfl
  | succ n ih =>
    have e : mon (n + 1) 1 = mul (mon n 1) (mon 1 1) := by
      funext i
      rw [mul_comm, mul_at, cv_t]
      unfold mon
      cases i with
      | zero => simp
      | succ i => simp
    funext i
    rw [e, comp_mul hf, ih, t_comp hf]; rfl

/-- the state after n rounds: the reversion so far and what is left over -/
def lagG (m u : Int) (f : Nat → Int) (d : Nat) : Nat → List Int × List Int
  | 0 => (cut m d (mon 0 0), cut m d (mon 1 1))
  | n + 1 =>
    let s := lagG m u f d n
    let g := co s.2 (n + 1) * (ipow u (n + 1) % m) % m
    (s.1.set (n + 1) g, cut m d fun i => co s.2 i + (co (cut m d fun i => pw f (n + 1) i * -g) i))
theorem lagG_len1 (m u : Int) (f : Nat → Int) (d : Nat) : ∀ n, (lagG m u f d n).1.length = d + 1 := by
  intro n
  induction n with
  | zero => exact cut_length _ _ _
  | succ n ih => simp [lagG, ih]
theorem lagG_len2 (m u : Int) (f : Nat → Int) (d : Nat) : ∀ n, (lagG m u f d n).2.length = d + 1 := by
  intro n
  cases n with
  | zero => exact cut_length _ _ _
  | succ n => exact cut_length _ _ _
theorem lagG_red1 {m : Int} (hm : 0 < m) (u : Int) (f : Nat → Int) (d : Nat) : ∀ n, n ≤ d → Red m (lagG m u f d n).1 := by
  intro n
  induction n with
  | zero => intro _; exact cut_red hm _ _
  | succ n ih =>
    intro hn i
    simp only [lagG]
    rw [co_set (by rw [lagG_len1]; omega)]
    split
    · exact ⟨Int.emod_nonneg _ (by omega), Int.emod_lt_of_pos _ hm⟩
    · exact ih (by omega) i
theorem lagG_red2 {m : Int} (hm : 0 < m) (u : Int) (f : Nat → Int) (d : Nat) : ∀ n, Red m (lagG m u f d n).2 := by
  intro n
  cases n with
  | zero => exact cut_red hm _ _
  | succ n => exact cut_red hm _ _
theorem lagG_over {m u : Int} {f : Nat → Int} {d : Nat} : ∀ n i, n ≤ d → n < i → co (lagG m u f d n).1 i = 0 := by
  intro n
  induction n with
  | zero =>
    intro i _ hi
    by_cases h : i ≤ d
    · simp only [lagG]; rw [co_cut h]; simp [mon]
    · exact co_over (by simp only [lagG]; rw [cut_length]; omega)
  | succ n ih =>
    intro i hn hi
    simp only [lagG]
    rw [co_set (by rw [lagG_len1]; omega), if_neg (by omega), ih i (by omega) (by omega)]
theorem lagG_inv {m u : Int} {f : Nat → Int} (hf : f 0 = 0) (hu : (f 1 * u) % m = 1 % m) (d : Nat) : ∀ n, n ≤ d →
    co (lagG m u f d n).1 0 = 0 ∧ Eq m d (fun i => co (lagG m u f d n).2 i + comp (co (lagG m u f d n).1) f i) (mon 1 1) ∧ (∀ i, i ≤ n → co (lagG m u f d n).2 i % m = 0) := by
  intro n
  induction n with
  | zero =>
    intro _
    have z : co (lagG m u f d 0).1 = fun _ => 0 := by
      funext i
      by_cases h : i ≤ d
      · simp only [lagG]; rw [co_cut h]; simp [mon]
      · exact co_over (by simp only [lagG]; rw [cut_length]; omega)
    have c0 : ∀ i, comp (fun _ => 0) f i = 0 := by
      intro i
      have := comp_smul hf 0 i (fun _ => 0)
      simpa using this
    refine ⟨by rw [z], ?_, ?_⟩
    · intro i hi
      dsimp only
      rw [z, c0, Int.add_zero]
      exact co_cut_eq m d (mon 1 1) i hi
    · intro i hi
      obtain rfl : i = 0 := by omega
      simp only [lagG]
      rw [co_cut (by omega)]; simp [mon]
  | succ n ih =>
    intro hn
    obtain ⟨h1, h2, h3⟩ := ih (by omega)
    have l1 := lagG_len1 m u f d n
    have ov : co (lagG m u f d n).1 (n + 1) = 0 := lagG_over n (n + 1) (by omega) (by omega)
    simp only [lagG]
    generalize hR : (lagG m u f d n).2 = R at *
    generalize hG : (lagG m u f d n).1 = G at *
    obtain ⟨g, hg⟩ : ∃ g, co R (n + 1) * (ipow u (n + 1) % m) % m = g := ⟨_, rfl⟩
    rw [hg]
    have hgm : g % m = (co R (n + 1) * ipow u (n + 1)) % m := by
      rw [← hg, Int.emod_emod]; exact mul_cong rfl (Int.emod_emod _ _)
    have hset : co (G.set (n + 1) g) = fun i => co G i + g * mon (n + 1) 1 i := by
      funext i
      rw [co_set (by omega)]
      unfold mon
      by_cases h : i = n + 1
      · subst h; rw [if_pos rfl, if_pos rfl, ov]; omega
      · rw [if_neg h, if_neg h]; omega
    have hcomp : ∀ i, comp (co (G.set (n + 1) g)) f i = comp (co G) f i + g * pw f (n + 1) i := by
      intro i
      rw [hset, comp_add hf, comp_smul hf, comp_mon hf]
    have hrest : ∀ i, i ≤ d → co (cut m d fun i => co R i + co (cut m d fun i => pw f (n + 1) i * -g) i) i % m = (co R i - g * pw f (n + 1) i) % m := by
      intro i hi
      rw [co_cut hi, Int.emod_emod, co_cut hi, Int.sub_eq_add_neg]
      refine add_cong rfl ?_
      rw [Int.emod_emod, Int.mul_comm, Int.neg_mul]
    refine ⟨?_, ?_, ?_⟩
    · rw [hset]
      dsimp only
      rw [h1]
      simp [mon]
    · intro i hi
      have a := h2 i hi
      dsimp only at a ⊢
      rw [hcomp, ← a]
      have b : (co (cut m d fun i => co R i + co (cut m d fun i => pw f (n + 1) i * -g) i) i + (comp (co G) f i + g * pw f (n + 1) i)) % m = ((co R i - g * pw f (n + 1) i) + (comp (co G) f i + g * pw f (n + 1) i)) % m :=
        add_cong (hrest i hi) rfl
      rw [b]
      congr 1
      omega
    · intro i hi
      rw [hrest i (by omega)]
      by_cases hi' : i ≤ n
      · rw [pw_low hf (n + 1) i (by omega), Int.mul_zero, Int.sub_zero]
        exact h3 i hi'
      · obtain rfl : i = n + 1 := by omega
        rw [pw_lead hf]
        have k1 : (g * ipow (f 1) (n + 1)) % m = (co R (n + 1) * 1) % m := by
          have : (g * ipow (f 1) (n + 1)) % m = (co R (n + 1) * ipow u (n + 1) * ipow (f 1) (n + 1)) % m := mul_cong hgm rfl
          rw [this, Int.mul_assoc, Int.mul_comm (ipow u _)]
          exact mul_cong rfl (ipow_unit hu (n + 1))
        have k2 := sub_cong (m := m) (x := co R (n + 1)) (y := co R (n + 1)) rfl k1
        rw [k2, Int.mul_one, Int.sub_self]
        simp
/-- the program's list is the reversion from the left -/
theorem lagG_left {m u : Int} {f : Nat → Int} (hf : f 0 = 0) (hu : (f 1 * u) % m = 1 % m) (d : Nat) : co (lagG m u f d d).1 0 = 0 ∧ Eq m d (comp (co (lagG m u f d d).1) f) (mon 1 1) := by
  obtain ⟨h1, h2, h3⟩ := lagG_inv hf hu d d (Nat.le_refl _)
  refine ⟨h1, fun i hi => ?_⟩
  rw [← h2 i hi]
  dsimp only
  have := add_cong (m := m) (x := co (lagG m u f d d).2 i) (y := 0) (z := comp (co (lagG m u f d d).1) f i) (by rw [h3 i hi]; simp) rfl
  rw [this, Int.zero_add]
/-- both lists are the same -/
theorem lagG_revC {m u : Int} (hm : 0 < m) (hu1 : 0 ≤ u) (hu2 : u < m) {f : Nat → Int} (hf : f 0 = 0) (hu : (f 1 * u) % m = 1 % m) (n : Nat) : (lagG m u f (n + 1) (n + 1)).1 = revC m u f n := by
  obtain ⟨h1, h2⟩ := lagG_left hf hu (n + 1)
  exact red_unique (d := n + 1) (lagG_len1 _ _ _ _ _) (revC_length _ _ _ _) (lagG_red1 hm _ _ _ _ (Nat.le_refl _)) (revC_red hm hu1 hu2 _ _)
    (left_right hf (revC_curve m u f n) h2 (revC_right hf hu n))
end Ser
end Go.Proofs.Ytakdmnecllcmnaa

/- Contracts of monomials, multiples and products of series, of the program. -/
namespace Go.Proofs.Ytakdmnecllcmnaa
open Go.RowKit Go.WideShapes Go.ChangeShapes Go.ChangeAt

/-- a block of one number -/
def Cel (w : World) (g : Nat) (x : Int) : Prop := w.cell? ⟨g, 0, none⟩ = some (.int .i64 x) ∧ g < w.heap.size
theorem Cel.new (w : World) (x : Int) : Cel (w.alloc (.cells #[.int .i64 x] 2)) w.heap.size x := by
  refine ⟨?_, by simp⟩
  rw [World.cell?_alloc_at _ _ _ _ rfl]; rfl
theorem Cel.keep {w w' : World} {g : Nat} {x : Int} (h : Cel w g x) (hb : Below w.heap.size w w') : Cel w' g x :=
  ⟨(hb.cell (p := ⟨g, 0, none⟩) h.2).trans h.1, Nat.lt_of_lt_of_le h.2 hb.size⟩

theorem monoC_any (n k : Nat) (g g' : Nat) (c : Int) (W : World) (h1 : Cel W g k) (h2 : Cel W g' c) :
    Calls Try.prog 101 #[.int .i64 n, .pointer (some ⟨g, 0, none⟩), .pointer (some ⟨g', 0, none⟩)] W fun e w' => e = .returned (.int .i64 (Ser.mon k c n)) ∧ Below W.heap.size W w' := by
  obtain ⟨x1, _⟩ := h1
  obtain ⟨x2, _⟩ := h2
  by_cases h : n = k
  · subst h
    have HE := Lib.hid (show Ser.mon n c n = c by unfold Ser.mon; rw [if_pos rfl])
    go_enter Try.func101, Try.ntmps101
    go_wp2
    go_ret
    exact ⟨ret_int HE.out.symm, Below.refl _ _⟩
  · have HE := Lib.hid (show Ser.mon k c n = 0 by unfold Ser.mon; rw [if_neg h])
    have hn : ¬ (n : Int) = (k : Int) := by omega
    obtain ⟨n1, n2⟩ : ((n : Int) == (k : Int)) = false ∧ ((n : Int) != (k : Int)) = true := ⟨by simpa using hn, by simpa using hn⟩
    clear h
    go_enter Try.func101, Try.ntmps101
    go_wp2
    go_ret
    exact ⟨ret_int HE.out.symm, Below.refl _ _⟩

theorem mon_bd (k : Nat) (c lo hi : Int) (h1 : lo ≤ 0) (h2 : 0 ≤ hi) (h3 : lo ≤ c) (h4 : c ≤ hi) (n : Nat) : lo ≤ Ser.mon k c n ∧ Ser.mon k c n ≤ hi := by
  unfold Ser.mon; split <;> omega

set_option maxHeartbeats 2000000 in
theorem monomial_any (m : Int) (d k : Nat) (c : Int) (w : World) (h1 : 1 ≤ m) (h2 : m ≤ 10000) (hd : d ≤ 1000) (h3 : -1000000 ≤ c) (h4 : c ≤ 1000000) :
    Calls Try.prog 67 #[.int .i64 m, .int .i64 d, .int .i64 k, .int .i64 c] w fun e w' => ∃ v, e = .returned (.agg #[.int .i64 m, v]) ∧ OwnI w' w.heap.size v (Ser.cut m d (Ser.mon k c)) ∧ Below w.heap.size w w' := by
  obtain ⟨W, hW⟩ : ∃ W, ((w.alloc (.cells #[.int .i64 k] 2)).alloc (.cells #[.int .i64 c] 2)).alloc (.cells #[.int .i64 0, .slice none 0 0] 30) = W := ⟨_, rfl⟩
  have hwb : Below w.heap.size w W := by rw [← hW]; exact below_alloc _ (below_alloc _ (below_one _ _))
  have b1 : Cel W w.heap.size k := by rw [← hW]; exact ((Cel.new w k).keep (below_one _ _)).keep (below_one _ _)
  have b2 : Cel W (w.heap.size + 1) c := by
    rw [← hW]
    have := (Cel.new (w.alloc (.cells #[.int .i64 k] 2)) c).keep (below_one _ (.cells #[.int .i64 0, .slice none 0 0] 30))
    simpa using this
  have v3 : Var2 W (w.heap.size + 1 + 1) (.int .i64 0) (.slice none 0 0) := by
    rw [← hW]
    have := Var2.new ((w.alloc (.cells #[.int .i64 k] 2)).alloc (.cells #[.int .i64 c] 2)) (.int .i64 0) (.slice none 0 0)
    simpa using this
  have V3 := Lib.hid v3
  have HB := Lib.hid hwb
  have HW := Lib.hid hW
  have HS := Lib.hid (seriesOf_any m d 101 #[.pointer (some ⟨w.heap.size, 0, none⟩), .pointer (some ⟨w.heap.size + 1, 0, none⟩)] (Ser.mon k c) W h1 h2 hd
    (fun n _ => mon_bd k c _ _ (by omega) (by omega) (by omega) (by omega) n)
    (enters_fn Try.func101 (of_decide_eq_true (by kernel_rfl)) rfl)
    (fun n W1 hn hb => monoC_any n k _ _ c W1 (b1.keep hb) (b2.keep hb)))
  obtain ⟨L, hL⟩ : ∃ L, Ser.cut m d (Ser.mon k c) = L := ⟨_, rfl⟩
  rw [hL] at HS ⊢
  clear b1 b2 v3 hwb hW hL
  go_enter Try.func67, Try.ntmps67
  go_wp2_with fail
  rw [HW.out]
  refine HS.out.mono ?_
  rintro e w2 ⟨v, rfl, ho, hb⟩
  obtain ⟨A2, c2, rfl, _⟩ := ho.form
  have hv := V3.out.keep hb
  have q0 := hv.c0
  have q1 := hv.c1
  have q2 := hv.fz 0
  have q3 := hv.fz 1
  obtain ⟨f0, f1, f2, f3⟩ := fin_var (w := w) hv ho (by have := V3.out.lt; omega) (by omega) (below_step HB.out hb) (.int .i64 m) (.slice A2 L.length c2)
  have F2 := Lib.hid f2
  have F3 := Lib.hid f3
  clear f2 f3 hv ho hb
  go_wp2
  exact bodyPost_ret (v := .agg #[.int .i64 m, .slice A2 L.length c2]) (by simp [results, Try.results67, go_sem, f0, f1]) rfl ⟨_, rfl, F2.out, F3.out⟩

theorem mul_bd {x y : Int} (h1 : 0 ≤ x) (h2 : x ≤ 10000) (h3 : -10000 ≤ y) (h4 : y ≤ 10000) : -100000000 ≤ x * y ∧ x * y ≤ 100000000 := by
  constructor
  · have := Int.mul_le_mul_of_nonneg_left (c := x) h3 h1
    have e : x * -10000 = -(x * 10000) := Int.mul_neg _ _
    omega
  · have := Int.mul_le_mul_of_nonneg_left (c := x) h4 h1
    omega
set_option maxHeartbeats 1000000 in
theorem scaledC_any (n : Nat) (g g' : Nat) (m : Int) (A : Option Addr) (c : Nat) (l : List Int) (k : Int) (W : World)
    (hb : Box W g m A l.length c) (hb' : Cel W g' k) (hr : RI W A l) (h1 : n < l.length) (h3 : 0 ≤ Ser.co l n) (h4 : Ser.co l n ≤ 10000) (h5 : -10000 ≤ k) (h6 : k ≤ 10000) :
    Calls Try.prog 103 #[.int .i64 n, .pointer (some ⟨g, 0, none⟩), .pointer (some ⟨g', 0, none⟩)] W fun e w' => e = .returned (.int .i64 (Ser.co l n * k)) ∧ Below W.heap.size W w' := by
  obtain ⟨b, off, rfl, hlt, hc⟩ := hr.at n h1
  obtain ⟨x1, x2, _⟩ := hb
  obtain ⟨y1, _⟩ := hb'
  obtain ⟨X, hX⟩ : ∃ X, Ser.co l n = X := ⟨_, rfl⟩
  rw [hX] at hc h3 h4 ⊢
  obtain ⟨p1, p2⟩ := mul_bd h3 h4 h5 h6
  have j1 : (0 : Int) ≤ (n : Int) := by omega
  have j2 : (n : Int) < (l.length : Int) := by omega
  clear hr hX
  go_enter Try.func103, Try.ntmps103
  go_wp2
  go_quiet (fail)
  go_wp2
  go_ret
  exact ⟨rfl, below_drewN (Below.refl _ _) _⟩

def scaL (m : Int) (d : Nat) (l : List Int) (k : Int) : List Int := Ser.cut m d fun n => Ser.co l n * k
set_option maxHeartbeats 2000000 in
set_option maxRecDepth 100000 in
theorem scaled_any (m : Int) (d : Nat) (A : Option Addr) (c : Nat) (l : List Int) (k : Int) (w : World) (hs : SerOk m d l) (hr : RI w A l) (h5 : -10000 ≤ k) (h6 : k ≤ 10000) :
    Calls Try.prog 68 #[.agg #[.int .i64 m, .slice A l.length c], .int .i64 k] w fun e w' => ∃ v, e = .returned (.agg #[.int .i64 m, v]) ∧ OwnI w' w.heap.size v (scaL m d l k) ∧ Below w.heap.size w w' := by
  obtain ⟨W, hW⟩ : ∃ W, (((w.alloc (.cells #[.int .i64 m, .slice A l.length c] 30)).alloc (.cells #[.int .i64 k] 2)).alloc (.cells #[.int .i64 0, .slice none 0 0] 30)) = W := ⟨_, rfl⟩
  have hwb : Below w.heap.size w W := by rw [← hW]; exact below_alloc _ (below_alloc _ (below_one _ _))
  have b1 : Box W w.heap.size m A l.length c := by rw [← hW]; exact ((Box.new w m A l.length c).keep (below_one _ _)).keep (below_one _ _)
  have b2 : Cel W (w.heap.size + 1) k := by
    rw [← hW]
    have := (Cel.new (w.alloc (.cells #[.int .i64 m, .slice A l.length c] 30)) k).keep (below_one _ (.cells #[.int .i64 0, .slice none 0 0] 30))
    simpa using this
  have v3 : Var2 W (w.heap.size + 1 + 1) (.int .i64 0) (.slice none 0 0) := by
    rw [← hW]
    have := Var2.new ((w.alloc (.cells #[.int .i64 m, .slice A l.length c] 30)).alloc (.cells #[.int .i64 k] 2)) (.int .i64 0) (.slice none 0 0)
    simpa using this
  have B1 := Lib.hid b1
  have B2 := Lib.hid b2
  have V3 := Lib.hid v3
  have HB := Lib.hid hwb
  have HW := Lib.hid hW
  have R1 := Lib.hid (hr.below hwb)
  have HS := Lib.hid (fun W0 (h0 : Below W.heap.size W W0) => seriesOf_any m d 103 #[.pointer (some ⟨w.heap.size, 0, none⟩), .pointer (some ⟨w.heap.size + 1, 0, none⟩)] (fun n => Ser.co l n * k) W0 (by have := hs.m1; omega) hs.m2 (by have := hs.d2; omega)
    (fun n _ => by have h1 := hs.red n; have h3 := hs.m2; have := mul_bd h1.1 (by omega) h5 h6; omega)
    (enters_fn Try.func103 (of_decide_eq_true (by kernel_rfl)) rfl)
    (fun n W1 hn hb => by
      have h1 := hs.red n
      have h3 := hs.m2
      have hb2 := h0.trans (hb.mono h0.size)
      exact scaledC_any n _ _ m A c l k W1 (B1.out.keep hb2) (B2.out.keep hb2) (R1.out.below hb2) (by rw [hs.len]; omega) (by omega) (by omega) h5 h6))
  have HL := Lib.hid hs.len
  have HD := Lib.hid hs.d2
  obtain ⟨L, hLL⟩ : ∃ L, scaL m d l k = L := ⟨_, rfl⟩
  unfold scaL at hLL ⊢
  rw [hLL] at HS ⊢
  clear b1 b2 v3 hwb hW hr hs hLL
  go_enter Try.func68, Try.ntmps68
  go_wp2
  rw [HW.out]
  obtain ⟨x1, x2, x3⟩ := B1.out
  go_region_held3 (fun w' => w'.cell? ⟨w.heap.size, 0, none⟩ = some (.int .i64 m) ∧ w'.cell? ⟨w.heap.size, 1, none⟩ = some (.slice A l.length c) ∧ w.heap.size < w'.heap.size) (first | exact ⟨x1, x2, x3⟩ | exact box_store (by omega) (by assumption) | exact box_call (by assumption) (by assumption)) (first
    | (go_at_call 102; refine (degree_nat _ _ _ _ d _ HL.out (by have := HD.out; omega)).mono ?_; rintro e1 w1 ⟨rfl, hb1⟩)
    | (go_at_call 100; refine (HS.out _ ((below_drew0 W).trans hb1)).mono ?_; rintro e2 w2 ⟨v, rfl, ho2, hb2⟩; obtain ⟨A2, c2, rfl, _⟩ := ho2.form; have hv := V3.out.keep (((below_drew0 W).trans hb1).trans (hb2.mono ((below_drew0 W).trans hb1).size)); have q0 := hv.c0; have q1 := hv.c1; have q2 := hv.fz 0; have q3 := hv.fz 1))
  all_goals
    have hz := ((below_drew0 W).trans hb1).size
    have hg := x3
    have hw2 : Below w.heap.size w w2 := (HB.out.trans (((below_drew0 W).trans hb1).mono HB.out.size)).trans (hb2.mono (by have := HB.out.size; omega))
    obtain ⟨f0, f1, f2, f3⟩ := fin_var (w := w) hv ho2 (by have := V3.out.lt; omega) (by omega) hw2 (.int .i64 m) (.slice A2 L.length c2)
    have F2 := Lib.hid f2
    have F3 := Lib.hid f3
    clear f2 f3 hw2 ho2 hb2 hb1
    go_wp2
    refine bodyPost_ret (v := .agg #[.int .i64 m, .slice A2 L.length c2]) (by simp [results, Try.results68, go_sem, f0, f1]) rfl ⟨_, rfl, F2.out, F3.out⟩

/-! products -/
set_option maxHeartbeats 4000000 in
theorem productAt_any (m : Int) (d n : Nat) (A : Option Addr) (c : Nat) (l : List Int) (m' : Int) (A' : Option Addr) (c' : Nat) (l' : List Int) (w : World) (hs : SerOk m d l) (hs' : SerOk m d l') (hr : RI w A l) (hr' : RI w A' l') (hn : n ≤ d) :
    Calls Try.prog 124 #[.agg #[.int .i64 m, .slice A l.length c], .agg #[.int .i64 m', .slice A' l'.length c'], .int .i64 n] w fun e w' => e = .returned (.int .i64 (Ser.cv n (Ser.co l) (Ser.co l'))) ∧ Below w.heap.size w w' := by
  obtain ⟨W, hW⟩ : ∃ W, (w.alloc (.cells #[.int .i64 m, .slice A l.length c] 30)).alloc (.cells #[.int .i64 m', .slice A' l'.length c'] 30) = W := ⟨_, rfl⟩
  obtain ⟨b1, b2, hwb⟩ := box2_new w m m' A A' l.length c l'.length c' W hW
  obtain ⟨x1, x2, _⟩ := b1
  obtain ⟨y1, y2, _⟩ := b2
  have HB := Lib.hid hwb
  have HW := Lib.hid hW
  have R1 := Lib.hid (hr.below hwb)
  have R2 := Lib.hid (hr'.below hwb)
  have HS := Lib.hid hs
  have HS' := Lib.hid hs'
  have HD := hs.d2
  obtain ⟨f, hf⟩ : ∃ f, f = fun i => Ser.co l i * Ser.co l' (n - i) := ⟨_, rfl⟩
  have HE := Lib.hid (show Ser.cv n (Ser.co l) (Ser.co l') = Ser.psum f (n + 1) by rw [hf]; exact Ser.cv_psum _ _ _)
  have HF := Lib.hid hf
  clear hwb hW hr hr' hs hs' hf
  go_enter Try.func124, Try.ntmps124
  go_wp2
  rw [HW.out]
  go_loopw [7, 8, 11] (fun s _ i wr => ∃ k : Nat, k ≤ n + 1 ∧ i = .int .i64 k ∧ s = .int .i64 (Ser.psum f k) ∧ 0 ≤ Ser.psum f k ∧ Ser.psum f k ≤ k * 100000000 ∧ ∃ q, wr = W.drewN q) (fun _ _ i _ => n + 1 - (intOf i).toNat)
  case atStart => exact ⟨0, Nat.zero_le _, rfl, rfl, Int.le_refl _, Int.le_refl _, 0, rfl⟩
  case round =>
    obtain ⟨k, hk, rfl, rfl, z1, z2, q, rfl⟩ := hrel
    by_cases hlt : k < n + 1
    · obtain ⟨b, off, rfl, hb, hc⟩ := R1.out.at k (by have := HS.out.len; omega)
      obtain ⟨b', off', rfl, hb', hc'⟩ := R2.out.at (n - k) (by have := HS'.out.len; omega)
      have r1 := HS.out.red k
      have r2 := HS'.out.red (n - k)
      have m2 := HS.out.m2
      have hst : Ser.psum f (k + 1) = Ser.psum f k + Ser.co l k * Ser.co l' (n - k) := by rw [Ser.psum, HF.out]
      obtain ⟨X, hX⟩ : ∃ X, Ser.co l k = X := ⟨_, rfl⟩
      obtain ⟨Y, hY⟩ : ∃ Y, Ser.co l' (n - k) = Y := ⟨_, rfl⟩
      obtain ⟨P, hP⟩ : ∃ P, Ser.psum f k = P := ⟨_, rfl⟩
      rw [hX] at hc r1 hst
      rw [hY] at hc' r2 hst
      rw [hP] at z1 z2 hst
      obtain ⟨p1, p2⟩ := mul_bd (x := X) (y := Y) r1.1 (by omega) (by omega) (by omega)
      have p3 : 0 ≤ X * Y := Int.mul_nonneg r1.1 r2.1
      have l1 := HS.out.len
      have l2 := HS'.out.len
      have j0 : (0 : Int) ≤ (k : Int) := by omega
      have j1 : (k : Int) < (l.length : Int) := by omega
      have j3 : (0 : Int) ≤ (n : Int) - (k : Int) := by omega
      have j4 : (n : Int) - (k : Int) < (l'.length : Int) := by omega
      have j5 : ((n : Int) - (k : Int)).toNat = n - k := by omega
      have HST := Lib.hid hst
      have HP := Lib.hid hP
      clear hX hY hP hst l1 l2
      rw [HP.out]
      go_wp2
      go_quiet (fail)
      go_wp2
      go_roundw
      case rel => exact ⟨k + 1, by omega, by go_num, by rw [HST.out], by rw [HST.out]; omega, by rw [HST.out]; omega, _, rfl⟩
      case measure => simp only [intOf]; omega
    · obtain rfl : k = n + 1 := by omega
      go_wp2
      go_ret
      exact ⟨ret_int HE.out.symm, below_drewN HB.out _⟩
end Go.Proofs.Ytakdmnecllcmnaa

/- Contract of the model's product of lists. -/
namespace Go.Proofs.Ytakdmnecllcmnaa
open Go.RowKit Go.WideShapes Go.ChangeShapes Go.ChangeAt

theorem timS_red {m : Int} (hm : 0 < m) (d : Nat) (a b : Nat → Int) (i : Nat) : Ser.Red m (Ser.timS m d a b i) := Ser.cut_red hm _ _
theorem timP_red {m : Int} (hm : 0 < m) (d : Nat) (a b : Nat → Int) (i k : Nat) : Ser.Red m (Ser.timP m d a b i k) := Ser.cut_red hm _ _

theorem timP_null (m : Int) (d : Nat) (a b : Nat → Int) (i k : Nat) (h : a i = 0) : Ser.timP m d a b i k = Ser.timS m d a b (i + 1) := by
  unfold Ser.timP Ser.timS
  refine Ser.cut_congr (Ser.Eq.of m d (fun n hn => ?_))
  rw [Ser.psum]
  unfold Ser.tr
  rw [h]
  simp
set_option maxHeartbeats 8000000 in
set_option maxRecDepth 100000 in
theorem l02Times_any (m : Int) (D : Nat) (A : Option Addr) (c : Nat) (l : List Int) (A' : Option Addr) (c' : Nat) (l' : List Int) (w : World) (m1 : 2 ≤ m) (m2 : m ≤ 10000) (hD : D ≤ 1000) (hl : l.length ≤ 1000) (hl' : l'.length ≤ 1000) (hs : Ser.Red m l) (hs' : Ser.Red m l') (hr : RI w A l) (hr' : RI w A' l') :
    Calls Try.prog 80 #[.int .i64 m, .slice A l.length c, .slice A' l'.length c', .int .i64 D] w fun e w' => ∃ v, e = .returned v ∧ OwnI w' w.heap.size v (Ser.mulL m D l l') ∧ Below w.heap.size w w' := by
  have HS := Lib.hid hs
  have HS' := Lib.hid hs'
  have HR := Lib.hid hr
  have HR' := Lib.hid hr'
  have hm0 : ¬ m = 0 := by omega
  clear hs hs' hr hr'
  have hmk : ∀ W : World, (Instr.makeSlice 22 (.int .i64 ((D : Int) + 1)) (.int .i64 ((D : Int) + 1))).run Try.prog W = .ok (.slice (some ⟨W.heap.size, 0, none⟩) (D + 1) (D + 1)) (W.alloc (.cells (madeCells #[.int .i64 0] (D + 1)) 2)) := by
    intro W
    have := run_make_row' (P := Try.prog) 22 2 (.int .i64 0) 8 Try.underlying22 info64 rfl .i64 .i64 (D + 1) (by omega) (by omega) W
    rwa [show ((D + 1 : Nat) : Int) = (D : Int) + 1 by omega] at this
  obtain ⟨a, ha⟩ : ∃ a, Ser.co l = a := ⟨_, rfl⟩
  obtain ⟨b, hb⟩ : ∃ b, Ser.co l' = b := ⟨_, rfl⟩
  have HA := Lib.hid ha
  have HB0 := Lib.hid hb
  have HE := Lib.hid (show Ser.mulL m D l l' = Ser.cut m D (Ser.mul a b) by unfold Ser.mulL; rw [ha, hb])
  rw [HE.out]
  clear ha hb
  go_enter Try.func80, Try.ntmps80
  go_wp2
  go_loopw [10, 11] (fun i _ wr => ∃ j : Nat, j ≤ 2000 ∧ i = .int .i64 j ∧ OwnI wr w.heap.size (.slice (some ⟨w.heap.size, 0, none⟩) (D + 1) (D + 1)) (Ser.timS m D a b j) ∧ Below w.heap.size w wr) (fun i _ _ => l.length - (intOf i).toNat)
  case atStart =>
    refine ⟨0, by omega, rfl, ?_, (Below.refl _ _).alloc (Nat.le_refl _) _⟩
    have h := OwnI.made w (D + 1) (by unfold maxLen; omega)
    rw [Ser.timS_zero]
    simpa using h
  case round =>
    clear hmk
    obtain ⟨j, hj, rfl, hown, hbel⟩ := hrel
    have HB := Lib.hid hbel
    have HO := Lib.hid hown
    clear hown hbel
    by_cases h1 : j < l.length
    · by_cases h2 : j ≤ D
      · go_wp2
        go_loopw [11] (fun i wr => ∃ k : Nat, k ≤ 1000 ∧ i = .int .i64 k ∧ OwnI wr w.heap.size (.slice (some ⟨w.heap.size, 0, none⟩) (D + 1) (D + 1)) (Ser.timP m D a b j k) ∧ Below w.heap.size w wr) (fun i _ => l'.length - (intOf i).toNat)
        case atStart => exact ⟨0, by omega, rfl, by rw [Ser.timP_zero]; exact HO.out, HB.out⟩
        case round =>
          clear HO HB
          obtain ⟨k, hk, rfl, hown, hbel⟩ := hrel
          have HB := Lib.hid hbel
          have HO := Lib.hid hown
          clear hown hbel
          obtain ⟨bb, off, rfl, hbb, hc⟩ := HR.out.at j h1
          have hc1 := (HB.out.cell (p := ⟨bb, off + j, none⟩) hbb).trans hc
          have r1 := HS.out j
          rw [HA.out] at hc1 r1
          obtain ⟨X, hX⟩ : ∃ X, a j = X := ⟨_, rfl⟩
          rw [hX] at hc1 r1
          obtain ⟨r1, r2⟩ := r1
          have j0 : (0 : Int) ≤ (j : Int) := by omega
          have j1 : (j : Int) < (l.length : Int) := by omega
          clear hc
          by_cases h3 : k < l'.length
          · by_cases h4 : j + k ≤ D
            · by_cases h5 : X = 0
              · have HN := Lib.hid (timP_null m D a b j k (hX.trans h5))
                subst h5
                clear hX
                go_wp2
                go_roundw
                case rel => exact ⟨j + 1, by omega, by go_num, by rw [← HN.out]; exact HO.out, HB.out⟩
                case measure => simp only [intOf]; omega
              · obtain ⟨n1, n2⟩ := ne_facts h5
                obtain ⟨bb', off', rfl, hbb', hc'⟩ := HR'.out.at k h3
                have hc2 := (HB.out.cell (p := ⟨bb', off' + k, none⟩) hbb').trans hc'
                have q1 := HS'.out k
                rw [HB0.out] at hc2 q1
                obtain ⟨Y, hY⟩ : ∃ Y, b k = Y := ⟨_, rfl⟩
                rw [hY] at hc2 q1
                obtain ⟨q1, q2⟩ := q1
                obtain ⟨_, _, o3, o4⟩ := HO.out.cells
                have hd1 := o3 (j + k) (by unfold Ser.timP; rw [Ser.cut_length]; omega)
                have hf1 := o4 (j + k)
                have z1 := timP_red (m := m) (by omega) D a b j k (j + k)
                have hst := Ser.timP_step m D a b j k h4
                change wr.cell? _ = some (.int .i64 (Ser.co (Ser.timP m D a b j k) (j + k))) at hd1
                obtain ⟨Z, hZ⟩ : ∃ Z, Ser.co (Ser.timP m D a b j k) (j + k) = Z := ⟨_, rfl⟩
                rw [hZ] at hd1 z1 hst
                rw [hX, hY] at hst
                obtain ⟨z1, z2⟩ := z1
                have hset := HO.out.set (j + k) ((Z + X * Y) % m)
                rw [hst] at hset
                have HSET := Lib.hid hset
                have p1 := Int.mul_nonneg r1 q1
                have p2 := (mul_bd (x := X) (y := Y) r1 (by omega) (by omega) (by omega)).2
                have j2 : (0 : Int) ≤ (k : Int) := by omega
                have j3 : (k : Int) < (l'.length : Int) := by omega
                have j4 : (j : Int) + (k : Int) ≤ (D : Int) := by omega
                have j5 : (j : Int) + (k : Int) < (D : Int) + 1 := by omega
                have j6 : (0 : Int) ≤ (j : Int) + (k : Int) := by omega
                have j7 : ((j : Int) + (k : Int)).toNat = j + k := by omega
                have w1 : IntKind.i64.wrap ((j : Int) + (k : Int)) = (j : Int) + (k : Int) := by rw [IntKind.wrap_i64]; omega
                have w2 : IntKind.i64.wrap (X * Y) = X * Y := by rw [IntKind.wrap_i64]; omega
                have w3 : IntKind.i64.wrap (Z + X * Y) = Z + X * Y := by rw [IntKind.wrap_i64]; omega
                clear hX hY hZ hst hset hc' o3 o4
                go_wp2
                go_still_tail 23, (by kernel_rfl)
                change wpList _ _ _ _ _ wr.drew
                go_wp2
                go_roundw
                case rel => exact ⟨k + 1, by omega, by go_num, HSET.out, HB.out.drew.setCell (Nat.le_refl _) _⟩
                case measure => simp only [intOf]; omega
            · have HN := Lib.hid (Ser.timP_end m D a b j k (fun q hq1 hq2 => by omega))
              have h4' : ¬ (j : Int) + (k : Int) ≤ (D : Int) := by omega
              clear hX h4
              go_wp2
              go_roundw
              case rel => exact ⟨j + 1, by omega, by go_num, by rw [← HN.out]; exact HO.out, HB.out⟩
              case measure => simp only [intOf]; omega
          · have HN := Lib.hid (Ser.timP_end m D a b j k (fun q hq1 hq2 => by rw [← HB0.out]; exact Ser.co_over (by omega)))
            clear hX
            go_wp2
            go_roundw
            case rel => exact ⟨j + 1, by omega, by go_num, by rw [← HN.out]; exact HO.out, HB.out⟩
            case measure => simp only [intOf]; omega
      · have ho := HO.out
        rw [Ser.timS_end m D a b j (fun q hq1 hq2 => by omega)] at ho
        have HF := Lib.hid ho
        clear ho
        go_wp2
        go_ret
        exact ⟨_, rfl, HF.out, HB.out⟩
    · have ho := HO.out
      rw [Ser.timS_end m D a b j (fun q hq1 hq2 => by rw [← HA.out]; exact Ser.co_over (by omega))] at ho
      have HF := Lib.hid ho
      clear ho
      go_wp2
      go_ret
      exact ⟨_, rfl, HF.out, HB.out⟩
end Go.Proofs.Ytakdmnecllcmnaa

/- Contracts of AddSeries, of the program. -/
namespace Go.Proofs.Ytakdmnecllcmnaa
open Go.RowKit Go.WideShapes Go.ChangeShapes Go.ChangeAt

theorem code2_iff {m : Int} {l : List Int} {m' : Int} {l' : List Int} (h : code2 m l m' l' = 0) : isS m l = true ∧ isS m' l' = true ∧ m = m' ∧ l.length = l'.length := by
  unfold code2 at h
  by_cases h1 : isS m l = true ∧ isS m' l' = true
  · rw [if_pos h1] at h
    by_cases h2 : m = m' ∧ l.length = l'.length
    · exact ⟨h1.1, h1.2, h2.1, h2.2⟩
    · rw [if_neg h2] at h; exact absurd h (by decide)
  · rw [if_neg h1] at h; exact absurd h (by decide)
theorem code2_ok {m : Int} {l : List Int} {m' : Int} {l' : List Int} (h : code2 m l m' l' = 0) : m = m' ∧ ∃ d, l.length = d + 1 ∧ l'.length = d + 1 ∧ SerOk m d l ∧ SerOk m d l' := by
  obtain ⟨h1, h2, rfl, h4⟩ := code2_iff h
  obtain ⟨d, e1, s1⟩ := serOk_of h1
  obtain ⟨d', e2, s2⟩ := serOk_of h2
  obtain rfl : d = d' := by omega
  exact ⟨rfl, d, e1, e2, s1, s2⟩

/-- a function of two series that are alike -/
def twoM (f : Int → Nat → List Int → List Int → List Int) (m : Int) (l : List Int) (m' : Int) (l' : List Int) : Int × List Int × Int :=
  if code2 m l m' l' = 0 then (m, f m (l.length - 1) l l', 0) else (0, [], code2 m l m' l')
def addL (m : Int) (d : Nat) (l l' : List Int) : List Int := Ser.cut m d fun n => Ser.co l n + Ser.co l' n
/-- the world behind both boxes, the result's variable and the list of both -/
theorem box4_new (w : World) (m m' : Int) (A A' : Option Addr) (n c n' c' : Nat) (W : World) (hW : ((((w.alloc (.cells #[.int .i64 m, .slice A n c] 30)).alloc (.cells #[.int .i64 m', .slice A' n' c'] 30)).alloc (.cells #[.int .i64 0, .slice none 0 0] 30)).alloc (.cells #[.int .i64 m, .slice A n c, .int .i64 m', .slice A' n' c'] 30)) = W) :
    Box W w.heap.size m A n c ∧ Box W (w.heap.size + 1) m' A' n' c' ∧ Var2 W (w.heap.size + 1 + 1) (.int .i64 0) (.slice none 0 0) ∧ Box4 W (w.heap.size + 1 + 1 + 1) m A n c m' A' n' c' ∧ Below w.heap.size w W := by
  obtain ⟨W0, hW0⟩ : ∃ W0, (((w.alloc (.cells #[.int .i64 m, .slice A n c] 30)).alloc (.cells #[.int .i64 m', .slice A' n' c'] 30)).alloc (.cells #[.int .i64 0, .slice none 0 0] 30)) = W0 := ⟨_, rfl⟩
  obtain ⟨h1, h2, h3, h4⟩ := box3_new w m m' A A' n c n' c' W0 hW0
  have hs : W0.heap.size = w.heap.size + 1 + 1 + 1 := by rw [← hW0]; simp
  rw [hW0] at hW
  subst hW
  refine ⟨h1.keep (below_one _ _), h2.keep (below_one _ _), h3.keep (below_one _ _), ?_, below_alloc _ h4⟩
  rw [← hs]
  exact Box4.new _ _ _ _ _ _ _ _ _

theorem OwnI.nil' (w : World) (base : Nat) : OwnI w base (.slice none 0 0) [] := OwnI.nil w base

end Go.Proofs.Ytakdmnecllcmnaa

/- Contracts of the model's functions that look at series and make them. -/
namespace Go.Proofs.Ytakdmnecllcmnaa
open Go.RowKit Go.WideShapes Go.ChangeShapes Go.ChangeAt

end Go.Proofs.Ytakdmnecllcmnaa

/- Contracts of MultiplySeries, of the program and of the model. -/
namespace Go.Proofs.Ytakdmnecllcmnaa
open Go.RowKit Go.WideShapes Go.ChangeShapes Go.ChangeAt

set_option maxHeartbeats 1000000 in
theorem timesC_any (n : Nat) (g g' : Nat) (m : Int) (d : Nat) (A : Option Addr) (c : Nat) (l : List Int) (m' : Int) (A' : Option Addr) (c' : Nat) (l' : List Int) (W : World)
    (hb : Box W g m A l.length c) (hb' : Box W g' m' A' l'.length c') (hs : SerOk m d l) (hs' : SerOk m d l') (hr : RI W A l) (hr' : RI W A' l') (hn : n ≤ d) :
    Calls Try.prog 123 #[.int .i64 n, .pointer (some ⟨g, 0, none⟩), .pointer (some ⟨g', 0, none⟩)] W fun e w' => e = .returned (.int .i64 (Ser.cv n (Ser.co l) (Ser.co l'))) ∧ Below W.heap.size W w' := by
  obtain ⟨x1, x2, _⟩ := hb
  obtain ⟨y1, y2, _⟩ := hb'
  have HP := Lib.hid (productAt_any m d n A c l m' A' c' l' W hs hs' hr hr' hn)
  clear hs hs' hr hr'
  go_enter Try.func123, Try.ntmps123
  go_wp2_with fail
  refine HP.out.mono ?_
  rintro e w1 ⟨rfl, hb1⟩
  go_wp2
  go_ret
  exact ⟨rfl, hb1⟩

theorem psum_bd (f : Nat → Int) (B : Int) (hf : ∀ i, 0 ≤ f i ∧ f i ≤ B) : ∀ n : Nat, 0 ≤ Ser.psum f n ∧ Ser.psum f n ≤ n * B := by
  intro n
  induction n with
  | zero => simp [Ser.psum]
  | succ n ih =>
    have := hf n
    have e : ((n + 1 : Nat) : Int) * B = n * B + B := by rw [show ((n + 1 : Nat) : Int) = (n : Int) + 1 by omega, Int.add_mul, Int.one_mul]
    rw [Ser.psum, e]
    omega
theorem cv_bd {m : Int} {l l' : List Int} (m2 : m ≤ 10000) (h : Ser.Red m l) (h' : Ser.Red m l') (n : Nat) (hn : n ≤ 1000) : 0 ≤ Ser.cv n (Ser.co l) (Ser.co l') ∧ Ser.cv n (Ser.co l) (Ser.co l') ≤ 100100000000 := by
  rw [Ser.cv_psum]
  have := psum_bd (fun i => Ser.co l i * Ser.co l' (n - i)) 100000000 (fun i => by
    have h1 := h i
    have h2 := h' (n - i)
    exact ⟨Int.mul_nonneg h1.1 h2.1, (mul_bd h1.1 (by omega) (by omega) (by omega)).2⟩) (n + 1)
  refine ⟨this.1, Int.le_trans this.2 ?_⟩
  omega

set_option maxHeartbeats 2000000 in
set_option maxRecDepth 100000 in
theorem times_any (m : Int) (d : Nat) (A : Option Addr) (c : Nat) (l : List Int) (m' : Int) (A' : Option Addr) (c' : Nat) (l' : List Int) (w : World) (hs : SerOk m d l) (hs' : SerOk m d l') (hr : RI w A l) (hr' : RI w A' l') :
    Calls Try.prog 111 #[.agg #[.int .i64 m, .slice A l.length c], .agg #[.int .i64 m', .slice A' l'.length c']] w fun e w' => ∃ v, e = .returned (.agg #[.int .i64 m, v]) ∧ OwnI w' w.heap.size v (Ser.mulL m d l l') ∧ Below w.heap.size w w' := by
  obtain ⟨W, hW⟩ : ∃ W, (((w.alloc (.cells #[.int .i64 m, .slice A l.length c] 30)).alloc (.cells #[.int .i64 m', .slice A' l'.length c'] 30)).alloc (.cells #[.int .i64 0, .slice none 0 0] 30)) = W := ⟨_, rfl⟩
  obtain ⟨b1, b2, v3, hwb⟩ := box3_new w m m' A A' l.length c l'.length c' W hW
  have B1 := Lib.hid b1
  have B2 := Lib.hid b2
  have V3 := Lib.hid v3
  have HB := Lib.hid hwb
  have HW := Lib.hid hW
  have R1 := Lib.hid (hr.below hwb)
  have R2 := Lib.hid (hr'.below hwb)
  have HS := Lib.hid (fun W0 (h0 : Below W.heap.size W W0) => seriesOf_any m d 123 #[.pointer (some ⟨w.heap.size, 0, none⟩), .pointer (some ⟨w.heap.size + 1, 0, none⟩)] (Ser.mul (Ser.co l) (Ser.co l')) W0 (by have := hs.m1; omega) hs.m2 (by have := hs.d2; omega)
    (fun n hn => by have := cv_bd hs.m2 hs.red hs'.red n (by have := hs.d2; omega); rw [Ser.mul_at]; omega)
    (enters_fn Try.func123 (of_decide_eq_true (by kernel_rfl)) rfl)
    (fun n W1 hn hb => by
      have hb2 := h0.trans (hb.mono h0.size)
      exact timesC_any n _ _ m d A c l m' A' c' l' W1 (B1.out.keep hb2) (B2.out.keep hb2) hs hs' (R1.out.below hb2) (R2.out.below hb2) hn))
  have HL := Lib.hid hs.len
  have HD := Lib.hid hs.d2
  obtain ⟨L, hLL⟩ : ∃ L, Ser.mulL m d l l' = L := ⟨_, rfl⟩
  unfold Ser.mulL at hLL ⊢
  rw [hLL] at HS ⊢
  clear b1 b2 v3 hwb hW hr hr' hs hs' hLL
  go_enter Try.func111, Try.ntmps111
  go_wp2
  rw [HW.out]
  obtain ⟨x1, x2, x3⟩ := B1.out
  go_region_held3 (fun w' => w'.cell? ⟨w.heap.size, 0, none⟩ = some (.int .i64 m) ∧ w'.cell? ⟨w.heap.size, 1, none⟩ = some (.slice A l.length c) ∧ w.heap.size < w'.heap.size) (first | exact ⟨x1, x2, x3⟩ | exact box_store (by omega) (by assumption) | exact box_call (by assumption) (by assumption)) (first
    | (go_at_call 102; refine (degree_nat _ _ _ _ d _ HL.out (by have := HD.out; omega)).mono ?_; rintro e1 w1 ⟨rfl, hb1⟩)
    | (go_at_call 100; refine (HS.out _ ((below_drew0 W).trans hb1)).mono ?_; rintro e2 w2 ⟨v, rfl, ho2, hb2⟩; obtain ⟨A2, c2, rfl, _⟩ := ho2.form; have hv := V3.out.keep (((below_drew0 W).trans hb1).trans (hb2.mono ((below_drew0 W).trans hb1).size)); have q0 := hv.c0; have q1 := hv.c1; have q2 := hv.fz 0; have q3 := hv.fz 1))
  all_goals
    have hz := ((below_drew0 W).trans hb1).size
    have hg := x3
    have hw2 : Below w.heap.size w w2 := (HB.out.trans (((below_drew0 W).trans hb1).mono HB.out.size)).trans (hb2.mono (by have := HB.out.size; omega))
    obtain ⟨f0, f1, f2, f3⟩ := fin_var (w := w) hv ho2 (by have := V3.out.lt; omega) (by omega) hw2 (.int .i64 m) (.slice A2 L.length c2)
    have F2 := Lib.hid f2
    have F3 := Lib.hid f3
    clear f2 f3 hw2 ho2 hb2 hb1
    go_wp2
    refine bodyPost_ret (v := .agg #[.int .i64 m, .slice A2 L.length c2]) (by simp [results, Try.results111, go_sem, f0, f1]) rfl ⟨_, rfl, F2.out, F3.out⟩

theorem l02Times_ok (m : Int) (d : Nat) (A : Option Addr) (c : Nat) (l : List Int) (A' : Option Addr) (c' : Nat) (l' : List Int) (w : World) (hs : SerOk m d l) (hs' : SerOk m d l') (hr : RI w A l) (hr' : RI w A' l') :
    Calls Try.prog 80 #[.int .i64 m, .slice A l.length c, .slice A' l'.length c', .int .i64 d] w fun e w' => ∃ v, e = .returned v ∧ OwnI w' w.heap.size v (Ser.mulL m d l l') ∧ Below w.heap.size w w' :=
  l02Times_any m d A c l A' c' l' w hs.m1 hs.m2 (by have := hs.d2; omega) (by have := hs.d2; have := hs.len; omega) (by have := hs'.d2; have := hs'.len; omega) hs.red hs'.red hr hr'
end Go.Proofs.Ytakdmnecllcmnaa

