/- Texts of contracts, joined. -/
import Derived.Test.YtilfjhnkjdfcoaaMgac
import Derived.StillTailTactics
import Derived.Test.YtilfjhnkjdfcoaaMgab
import Derived.Test.YtilfjhnkjdfcoaaMgad
import Derived.Deep.DeepCutAuto
import Derived.Test.YtilfjhnkjdfcoaaMgaa
import Derived.Test.YtilfjhnkjdfcoaaProg
/- Contract of the model's product of lists. -/
namespace Go.Proofs.Ytilfjhnkjdfcoaa
open Go.RowKit Go.WideShapes Go.ChangeShapes Go.ChangeAt

theorem timS_red {m : Int} (hm : 0 < m) (d : Nat) (a b : Nat → Int) (i : Nat) : Ser.Red m (Ser.timS m d a b i) := Ser.cut_red hm _ _
theorem timP_red {m : Int} (hm : 0 < m) (d : Nat) (a b : Nat → Int) (i k : Nat) : Ser.Red m (Ser.timP m d a b i k) := Ser.cut_red hm _ _

theorem timP_null (m : Int) (d : Nat) (a b : Nat → Int) (i k : Nat) (h : a i = 0) : Ser.timP m d a b i k = Ser.timS m d a b (i + 1) := by
  unfold Ser.timP Ser.timS
  refine Ser.cut_congr (Ser.Eq.of m d (fun n hn => ?_))
  rw [Ser.psum]
  unfold Ser.tr
  rw [h]
  simp
end Go.Proofs.Ytilfjhnkjdfcoaa

/- Contracts of AddSeries, of the program. -/
namespace Go.Proofs.Ytilfjhnkjdfcoaa
open Go.RowKit Go.WideShapes Go.ChangeShapes Go.ChangeAt

theorem code2_iff {m : Int} {l : List Int} {m' : Int} {l' : List Int} (h : code2 m l m' l' = 0) : isS m l = true ∧ isS m' l' = true ∧ m = m' ∧ l.length = l'.length := by
  unfold code2 at h
  by_cases h1 : isS m l = true ∧ isS m' l' = true
  · rw [if_pos h1] at h
    by_cases h2 : m = m' ∧ l.length = l'.length
    · exact ⟨h1.1, h1.2, h2.1, h2.2⟩
    · rw [if_neg h2] at h; exact absurd h (by decide)
  · rw [if_neg h1] at h; exact absurd h (by decide)
theorem code2_ok {m : Int} {l : List Int} {m' : Int} {l' : List Int} (h : code2 m l m' l' = 0) : m = m' ∧ ∃ d, l.length = d + 1 ∧ l'.length = d + 1 ∧ SerOk m d l ∧ SerOk m d l' := by
  obtain ⟨h1, h2, rfl, h4⟩ := code2_iff h
  obtain ⟨d, e1, s1⟩ := serOk_of h1
  obtain ⟨d', e2, s2⟩ := serOk_of h2
  obtain rfl : d = d' := by omega
  exact ⟨rfl, d, e1, e2, s1, s2⟩

/-- a function of two series that are alike -/
def twoM (f : Int → Nat → List Int → List Int → List Int) (m : Int) (l : List Int) (m' : Int) (l' : List Int) : Int × List Int × Int :=
  if code2 m l m' l' = 0 then (m, f m (l.length - 1) l l', 0) else (0, [], code2 m l m' l')
def addL (m : Int) (d : Nat) (l l' : List Int) : List Int := Ser.cut m d fun n => Ser.co l n + Ser.co l' n
/-- the world behind both boxes, the result's variable and the list of both -/
theorem box4_new (w : World) (m m' : Int) (A A' : Option Addr) (n c n' c' : Nat) (W : World) (hW : ((((w.alloc (.cells #[.int .i64 m, .slice A n c] 52)).alloc (.cells #[.int .i64 m', .slice A' n' c'] 52)).alloc (.cells #[.int .i64 0, .slice none 0 0] 52)).alloc (.cells #[.int .i64 m, .slice A n c, .int .i64 m', .slice A' n' c'] 52)) = W) :
    Box W w.heap.size m A n c ∧ Box W (w.heap.size + 1) m' A' n' c' ∧ Var2 W (w.heap.size + 1 + 1) (.int .i64 0) (.slice none 0 0) ∧ Box4 W (w.heap.size + 1 + 1 + 1) m A n c m' A' n' c' ∧ Below w.heap.size w W := by
  obtain ⟨W0, hW0⟩ : ∃ W0, (((w.alloc (.cells #[.int .i64 m, .slice A n c] 52)).alloc (.cells #[.int .i64 m', .slice A' n' c'] 52)).alloc (.cells #[.int .i64 0, .slice none 0 0] 52)) = W0 := ⟨_, rfl⟩
  obtain ⟨h1, h2, h3, h4⟩ := box3_new w m m' A A' n c n' c' W0 hW0
  have hs : W0.heap.size = w.heap.size + 1 + 1 + 1 := by rw [← hW0]; simp
  rw [hW0] at hW
  subst hW
  refine ⟨h1.keep (below_one _ _), h2.keep (below_one _ _), h3.keep (below_one _ _), ?_, below_alloc _ h4⟩
  rw [← hs]
  exact Box4.new _ _ _ _ _ _ _ _ _

theorem OwnI.nil' (w : World) (base : Nat) : OwnI w base (.slice none 0 0) [] := OwnI.nil w base

end Go.Proofs.Ytilfjhnkjdfcoaa

/- Contracts of the model's functions that look at series and make them. -/
namespace Go.Proofs.Ytilfjhnkjdfcoaa
open Go.RowKit Go.WideShapes Go.ChangeShapes Go.ChangeAt

end Go.Proofs.Ytilfjhnkjdfcoaa

/- Contracts of MultiplySeries, of the program and of the model. -/
namespace Go.Proofs.Ytilfjhnkjdfcoaa
open Go.RowKit Go.WideShapes Go.ChangeShapes Go.ChangeAt

theorem psum_bd (f : Nat → Int) (B : Int) (hf : ∀ i, 0 ≤ f i ∧ f i ≤ B) : ∀ n : Nat, 0 ≤ Ser.psum f n ∧ Ser.psum f n ≤ n * B := by
  intro n
  induction n with
  | zero => simp [Ser.psum]
  | succ n ih =>
    have := hf n
    have e : ((n + 1 : Nat) : Int) * B = n * B + B := by rw [show ((n + 1 : Nat) : Int) = (n : Int) + 1 by omega, Int.add_mul, Int.one_mul]
    rw [Ser.psum, e]
    omega
theorem cv_bd {m : Int} {l l' : List Int} (m2 : m ≤ 10000) (h : Ser.Red m l) (h' : Ser.Red m l') (n : Nat) (hn : n ≤ 1000) : 0 ≤ Ser.cv n (Ser.co l) (Ser.co l') ∧ Ser.cv n (Ser.co l) (Ser.co l') ≤ 100100000000 := by
  rw [Ser.cv_psum]
  have := psum_bd (fun i => Ser.co l i * Ser.co l' (n - i)) 100000000 (fun i => by
    have h1 := h i
    have h2 := h' (n - i)
    exact ⟨Int.mul_nonneg h1.1 h2.1, (mul_bd h1.1 (by omega) (by omega) (by omega)).2⟩) (n + 1)
  refine ⟨this.1, Int.le_trans this.2 ?_⟩
  omega

end Go.Proofs.Ytilfjhnkjdfcoaa

/- Variables of series: what a store into one leaves alone; making one of a monomial. -/
namespace Go.Proofs.Ytilfjhnkjdfcoaa
open Go.RowKit Go.WideShapes Go.ChangeShapes Go.ChangeAt

theorem t_ne : ¬ (2 : TypeId) = (52 : TypeId) := by decide
theorem own_ne_var {w : World} {g base : Nat} {x y : Value} {v : Value} {l : List Int} (hv : Var2 w g x y) (h : OwnI w base v l) : v.ownBlock ≠ some g := by
  intro e
  unfold OwnI at h
  unfold Var2 at hv
  rcases h.2 with ⟨rfl, _⟩ | ⟨g', cap, cur, rfl, _, hg, _⟩
  · simp [Value.ownBlock] at e
  · simp [Value.ownBlock] at e
    subst e
    rw [hg] at hv
    injection hv with hv
    injection hv with _ hv
    exact t_ne hv
theorem OwnI.set2 {w : World} {g base : Nat} {x y : Value} {v : Value} {l : List Int} (h : OwnI w base v l) (hv : Var2 w g x y) (x' y' : Value) : OwnI (set2 w g x' y') base v l :=
  h.other (grown_set2 w g x' y') (.inr (own_ne_var hv h))
theorem Var2.set2' {w : World} {g g' : Nat} {x y : Value} (h : Var2 w g x y) (hne : g' ≠ g) (x' y' : Value) : Var2 (Proofs.Ytilfjhnkjdfcoaa.set2 w g' x' y') g x y := (h.far g' 0 x' hne).far g' 1 y' hne
theorem RI.set2 {w : World} {g : Nat} {x : Int} {A' : Option Addr} {n c : Nat} {A : Option Addr} {l : List Int} (h : RI w A l) (hv : Var2 w g (.int .i64 x) (.slice A' n c)) (hl : 2 ≤ l.length) (x' y' : Value) : RI (Proofs.Ytilfjhnkjdfcoaa.set2 w g x' y') A l := by
  intro hne
  obtain ⟨b, off, e, hlt, hc⟩ := h hne
  have hbg : b ≠ g := by
    rintro rfl
    have h0 := hc 0 (by omega)
    have h1 := hc 1 (by omega)
    unfold Var2 at hv
    simp only [World.cell?, hv] at h0 h1
    match off, h0, h1 with
    | 0, h0, h1 => simp at h1
    | off + 1, h0, h1 => simp at h1
  refine ⟨b, off, e, by simpa [Proofs.Ytilfjhnkjdfcoaa.set2, World.setCell] using hlt, fun k hk => ?_⟩
  have h1 : (w.setCell ⟨g, 0, none⟩ x').cell? ⟨b, off + k, none⟩ = w.cell? ⟨b, off + k, none⟩ := World.cell?_setCell_other _ _ _ _ (by intro e; injection e with e; exact hbg e.symm)
  have h2 : (Proofs.Ytilfjhnkjdfcoaa.set2 w g x' y').cell? ⟨b, off + k, none⟩ = (w.setCell ⟨g, 0, none⟩ x').cell? ⟨b, off + k, none⟩ := World.cell?_setCell_other _ _ _ _ (by intro e; injection e with e; exact hbg e.symm)
  rw [h2, h1]
  exact hc k hk
theorem RI.drew {w : World} {A : Option Addr} {l : List Int} (h : RI w A l) : RI w.drew A l := h

/-- a variable made of a result: the store comes into a variable that lay there before the call, or into a new one -/
theorem reg_fin2 {wk cur wd : World} {g : Nat} {A : Option Addr} {n c : Nat} {l : List Int} {x y : Value} (hk : wk.heap.size ≤ g) (hgc : g < cur.heap.size) (hv : Var2 wd g x y) (ho : OwnI wd cur.heap.size (.slice A n c) l) (hb : Below wk.heap.size wk wd) (M : Int) :
    Var2 ((wd.setCell ⟨g, 0, none⟩ (.int .i64 M)).setCell ⟨g, 1, none⟩ (.slice A n c)) g (.int .i64 M) (.slice A n c) ∧ OwnI ((wd.setCell ⟨g, 0, none⟩ (.int .i64 M)).setCell ⟨g, 1, none⟩ (.slice A n c)) wk.heap.size (.slice A n c) l ∧
    Below wk.heap.size wk ((wd.setCell ⟨g, 0, none⟩ (.int .i64 M)).setCell ⟨g, 1, none⟩ (.slice A n c)) ∧ wk.heap.size ≤ g := by
  obtain ⟨f0, f1, f2, f3⟩ := fin_var (w := wk) hv ho hgc hk hb (.int .i64 M) (.slice A n c)
  exact ⟨hv.set2 _ _, f2, f3, hk⟩
theorem reg_new2 {wk cur wd : World} {A : Option Addr} {n c : Nat} {l : List Int} (hk : wk.heap.size ≤ cur.heap.size) (ho : OwnI wd cur.heap.size (.slice A n c) l) (hb : Below wk.heap.size wk wd) (M : Int) :
    Var2 (wd.alloc (.cells #[.int .i64 M, .slice A n c] 52)) wd.heap.size (.int .i64 M) (.slice A n c) ∧ OwnI (wd.alloc (.cells #[.int .i64 M, .slice A n c] 52)) wk.heap.size (.slice A n c) l ∧
    Below wk.heap.size wk (wd.alloc (.cells #[.int .i64 M, .slice A n c] 52)) ∧ wk.heap.size ≤ wd.heap.size :=
  ⟨Var2.new _ _ _, (ho.keep (below_one _ _)).more hk, below_alloc _ hb, hb.size⟩
theorem one_in {W w' : World} {g : Nat} {m : Int} {A : Option Addr} {n c : Nat} (h : Box W g m A n c) (hb : Below W.heap.size W w') :
    (w'.cell? ⟨g, 0, none⟩ = some (.int .i64 m) ∧ w'.cell? ⟨g, 1, none⟩ = some (.slice A n c)) ∧ True ∧ Below W.heap.size W w' := ⟨box_in h hb, trivial, hb⟩
end Go.Proofs.Ytilfjhnkjdfcoaa

/- Contracts of RemainderOf, AddModulo and MultiplyModulo, of the program and of the model. -/
namespace Go.Proofs.Ytilfjhnkjdfcoaa
open Go.RowKit Go.WideShapes Go.ChangeShapes Go.ChangeAt

theorem RI_nil (w : World) : RI w none [] := fun h => absurd rfl h
theorem RI_one (w : World) (a : Int) (t : TypeId) : RI (w.alloc (.cells #[.int .i64 a] t)) (some ⟨w.heap.size, 0, none⟩) [a] := by
  refine fun _ => ⟨w.heap.size, 0, rfl, by simp, fun k hk => ?_⟩
  obtain rfl : k = 0 := by simp at hk; omega
  simp
theorem RI_two (w : World) (a b : Int) (t : TypeId) : RI (w.alloc (.cells #[.int .i64 a, .int .i64 b] t)) (some ⟨w.heap.size, 0, none⟩) [a, b] := by
  refine fun _ => ⟨w.heap.size, 0, rfl, by simp, fun k hk => ?_⟩
  rcases (show k = 0 ∨ k = 1 by simp at hk; omega) with rfl | rfl <;> simp

theorem codeN_one (m a : Int) : codeN m [a] = 0 ↔ 2 ≤ m ∧ m ≤ 10000 ∧ 0 ≤ a ∧ a < m := by
  unfold codeN
  by_cases hm : isM m = true
  · rw [if_pos hm]
    have := (isM_iff m).1 hm
    by_cases ha : allIn 0 (m - 1) [a] = true
    · rw [if_pos ha]; simp [allIn, inB] at ha; simp; omega
    · rw [if_neg ha]; simp [allIn, inB] at ha; simp; omega
  · rw [if_neg hm]
    have : ¬ (2 ≤ m ∧ m ≤ 10000) := fun h => hm ((isM_iff m).2 h)
    simp; omega
theorem codeN_nil (m : Int) : codeN m [] = 0 ↔ 2 ≤ m ∧ m ≤ 10000 := by
  unfold codeN
  by_cases hm : isM m = true
  · rw [if_pos hm]
    have := (isM_iff m).1 hm
    simp [allIn]; omega
  · rw [if_neg hm]
    have : ¬ (2 ≤ m ∧ m ≤ 10000) := fun h => hm ((isM_iff m).2 h)
    simp; omega
theorem codeN_two (m a b : Int) : codeN m [a, b] = 0 ↔ 2 ≤ m ∧ m ≤ 10000 ∧ 0 ≤ a ∧ a < m ∧ 0 ≤ b ∧ b < m := by
  unfold codeN
  by_cases hm : isM m = true
  · rw [if_pos hm]
    have := (isM_iff m).1 hm
    by_cases ha : allIn 0 (m - 1) [a, b] = true
    · rw [if_pos ha]; simp [allIn, inB] at ha; simp; omega
    · rw [if_neg ha]; simp [allIn, inB] at ha; simp; omega
  · rw [if_neg hm]
    have : ¬ (2 ≤ m ∧ m ≤ 10000) := fun h => hm ((isM_iff m).2 h)
    simp; omega
theorem mul_small {a b m : Int} (h1 : 0 ≤ a) (h2 : a < m) (h3 : 0 ≤ b) (h4 : b < m) (hm : m ≤ 10000) : 0 ≤ a * b ∧ a * b ≤ 100000000 := by
  refine ⟨Int.mul_nonneg h1 h3, ?_⟩
  have e1 : a * b ≤ 10000 * b := Int.mul_le_mul_of_nonneg_right (by omega) h3
  omega




end Go.Proofs.Ytilfjhnkjdfcoaa

/- Plain number theory: no program in sight. Euclid with a factor; orders by the pigeonhole principle. -/
namespace Go.Proofs.Ytilfjhnkjdfcoaa
namespace Num

/-! Euclid's algorithm with a factor -/
def eg (g ng : Nat) (x nx : Int) : Nat × Int :=
  if _h : ng = 0 then (g, x) else eg ng (g % ng) nx (x - ((g / ng : Nat) : Int) * nx)
termination_by ng
decreasing_by exact Nat.mod_lt _ (by omega)

theorem eg_zero (g : Nat) (x nx : Int) : eg g 0 x nx = (g, x) := by rw [eg]; simp
theorem eg_step (g ng : Nat) (x nx : Int) (h : ng ≠ 0) : eg g ng x nx = eg ng (g % ng) nx (x - ((g / ng : Nat) : Int) * nx) := by rw [eg]; simp [h]

structure EInv (m a g ng : Nat) (x nx : Int) : Prop where
  lt : ng < g
  le : g ≤ m
  dx : (m : Int) ∣ a * x - g
  dn : (m : Int) ∣ a * nx - ng
  det : (0 ≤ x ∧ nx ≤ 0 ∧ x * ng - nx * g = m) ∨ (x ≤ 0 ∧ 0 ≤ nx ∧ nx * g - x * ng = m)
  gcd : Nat.gcd g ng = Nat.gcd m a
  sm : -(m : Int) ≤ x ∧ x ≤ m

theorem EInv.start {m a : Nat} (h : a < m) : EInv m a m a 0 1 :=
  ⟨h, Nat.le_refl _, ⟨-1, by omega⟩, ⟨0, by omega⟩, .inr ⟨by omega, by omega, by omega⟩, rfl, by omega⟩

theorem le_mul_pos {a b c : Int} (ha : 0 ≤ a) (hb : 1 ≤ b) (h : a * b ≤ c) : a ≤ c := by
  have : a * 1 ≤ a * b := Int.mul_le_mul_of_nonneg_left hb ha
  omega

theorem EInv.bn {m a g ng : Nat} {x nx : Int} (h : EInv m a g ng x nx) : -(m : Int) ≤ nx ∧ nx ≤ m := by
  have hg : 1 ≤ (g : Int) := by have := h.lt; omega
  rcases h.det with ⟨a1, a2, a3⟩ | ⟨a1, a2, a3⟩
  · have h1 : 0 ≤ x * ng := Int.mul_nonneg a1 (by omega)
    have := le_mul_pos (a := -nx) (b := g) (c := m) (by omega) hg (by rw [Int.neg_mul]; omega)
    omega
  · have h1 : 0 ≤ (-x) * ng := Int.mul_nonneg (by omega) (by omega)
    rw [Int.neg_mul] at h1
    have := le_mul_pos (a := nx) (b := g) (c := m) (by omega) hg (by omega)
    omega

theorem EInv.step {m a g ng : Nat} {x nx : Int} (h : EInv m a g ng x nx) (h0 : ng ≠ 0) : EInv m a ng (g % ng) nx (x - ((g / ng : Nat) : Int) * nx) := by
  have hd : g = ng * (g / ng) + g % ng := (Nat.div_add_mod g ng).symm
  have hdi : (g : Int) = (ng : Int) * ((g / ng : Nat) : Int) + ((g % ng : Nat) : Int) := by
    rw [← Int.natCast_mul, ← Int.natCast_add, ← hd]
  refine ⟨Nat.mod_lt _ (by omega), Nat.le_trans (Nat.le_of_lt h.lt) h.le, h.dn, ?_, ?_, ?_, h.bn⟩
  · obtain ⟨u, hu⟩ := h.dx
    obtain ⟨v, hv⟩ := h.dn
    refine ⟨u - v * ((g / ng : Nat) : Int), ?_⟩
    generalize ((g / ng : Nat) : Int) = q at *
    generalize ((g % ng : Nat) : Int) = r at *
    grind
  · have hq : 0 ≤ ((g / ng : Nat) : Int) := Int.natCast_nonneg _
    generalize ((g / ng : Nat) : Int) = q at *
    generalize ((g % ng : Nat) : Int) = r at *
    rcases h.det with ⟨a1, a2, a3⟩ | ⟨a1, a2, a3⟩
    · right
      have : q * nx ≤ 0 := Int.mul_nonpos_of_nonneg_of_nonpos hq a2
      refine ⟨a2, by omega, ?_⟩
      grind
    · left
      have : 0 ≤ q * nx := Int.mul_nonneg hq a2
      refine ⟨a2, by omega, ?_⟩
      grind
  · rw [← h.gcd]
    rw [Nat.gcd_comm g ng, Nat.gcd_comm ng (g % ng), ← Nat.gcd_rec]

/-- what the walk asks of a round: the product is small -/
theorem EInv.bq {m a g ng : Nat} {x nx : Int} (h : EInv m a g ng x nx) (h0 : ng ≠ 0) : -2 * (m : Int) ≤ ((g / ng : Nat) : Int) * nx ∧ ((g / ng : Nat) : Int) * nx ≤ 2 * m := by
  have h1 := (h.step h0).bn
  have h2 := h.sm
  omega

/-- the end -/
theorem EInv.stop {m a g : Nat} {x nx : Int} (h : EInv m a g 0 x nx) : g = Nat.gcd m a := by have := h.gcd; simpa using this

theorem eg_spec {m a : Nat} : ∀ (ng g : Nat) (x nx : Int), EInv m a g ng x nx → (eg g ng x nx).1 = Nat.gcd m a ∧ (m : Int) ∣ a * (eg g ng x nx).2 - (eg g ng x nx).1 := by
  intro ng
  induction ng using Nat.strongRecOn with
  | ind ng ih =>
    intro g x nx h
    by_cases h0 : ng = 0
    · subst h0; rw [eg_zero]; exact ⟨h.stop, h.dx⟩
    · rw [eg_step _ _ _ _ h0]
      exact ih _ (Nat.mod_lt _ (by omega)) _ _ _ (h.step h0)

/-! Orders -/
theorem pigeon (n : Nat) : ∀ f : Nat → Nat, (∀ i, i ≤ n → f i < n) → ∃ i j, i < j ∧ j ≤ n ∧ f i = f j := by
  induction n with
  | zero => intro f h; exact absurd (h 0 (Nat.le_refl _)) (by omega)
  | succ n ih =>
    intro f h
    by_cases hc : ∃ i, i ≤ n ∧ f i = f (n + 1)
    · obtain ⟨i, hi, e⟩ := hc
      exact ⟨i, n + 1, by omega, Nat.le_refl _, e⟩
    · have hne : ∀ i, i ≤ n → f i ≠ f (n + 1) := fun i hi e => hc ⟨i, hi, e⟩
      obtain ⟨i, j, h1, h2, h3⟩ := ih (fun i => if f i = n then f (n + 1) else f i) (by
        intro i hi
        have a1 := h i (by omega)
        have a2 := h (n + 1) (by omega)
        have a3 := hne i hi
        split <;> omega)
      refine ⟨i, j, h1, by omega, ?_⟩
      have a1 := hne i (by omega)
      have a2 := hne j h2
      split at h3 <;> split at h3 <;> omega

/-- the powers of a modulo m -/
def pwr (m a k : Nat) : Nat := a ^ k % m
theorem pwr_succ (m a k : Nat) : pwr m a (k + 1) = pwr m a k * a % m := by
  unfold pwr; rw [Nat.pow_succ, Nat.mod_mul_mod]
theorem pwr_lt (m a k : Nat) (h : 0 < m) : pwr m a k < m := Nat.mod_lt _ h
theorem pwr_one (m a : Nat) (h : a < m) : pwr m a 1 = a := by unfold pwr; rw [Nat.pow_one, Nat.mod_eq_of_lt h]

theorem ord_exists (m a : Nat) (hm : 1 < m) (hc : Nat.gcd m a = 1) : ∃ k, 1 ≤ k ∧ k ≤ m ∧ pwr m a k = 1 := by
  obtain ⟨i, j, h1, h2, h3⟩ := pigeon m (pwr m a) (fun i _ => pwr_lt m a i (by omega))
  refine ⟨j - i, by omega, by omega, ?_⟩
  unfold pwr at *
  have hle : a ^ i ≤ a ^ j := by
    by_cases h0 : a = 0
    · subst h0; rw [Nat.gcd_zero_right] at hc; omega
    · exact Nat.pow_le_pow_right (by omega) (by omega)
  have hd : m ∣ a ^ j - a ^ i := by
    refine ⟨a ^ j / m - a ^ i / m, ?_⟩
    have e1 := Nat.div_add_mod (a ^ i) m
    have e2 := Nat.div_add_mod (a ^ j) m
    rw [Nat.mul_sub]; omega
  have he : a ^ j - a ^ i = a ^ i * (a ^ (j - i) - 1) := by
    rw [Nat.mul_sub, ← Nat.pow_add, Nat.mul_one]; congr 2; omega
  rw [he] at hd
  have hcop : Nat.Coprime m (a ^ i) := Nat.Coprime.pow_right i hc
  have hd2 : m ∣ a ^ (j - i) - 1 := hcop.dvd_of_dvd_mul_left hd
  have hp : 1 ≤ a ^ (j - i) := by
    have : a ≠ 0 := by rintro rfl; rw [Nat.gcd_zero_right] at hc; omega
    exact Nat.pos_of_ne_zero (by simp [this])
  obtain ⟨q, hq⟩ := hd2
  have : a ^ (j - i) = 1 + m * q := by omega
  rw [this, Nat.add_mul_mod_self_left, Nat.mod_eq_of_lt hm]

/-- what the loop finds -/
def IsOrd (m a k : Nat) : Prop := 1 ≤ k ∧ pwr m a k = 1 ∧ ∀ j, 1 ≤ j → j < k → pwr m a j ≠ 1
theorem IsOrd.unique {m a k l : Nat} (h : IsOrd m a k) (h' : IsOrd m a l) : k = l := by
  rcases Nat.lt_trichotomy k l with c | c | c
  · exact absurd h.2.1 (h'.2.2 k h.1 c)
  · exact c
  · exact absurd h'.2.1 (h.2.2 l h'.1 c)

/-- the order, looked for from k on -/
def ordF (m a : Nat) : Nat → Nat → Nat
  | 0, k => k
  | f + 1, k => if pwr m a k = 1 then k else ordF m a f (k + 1)
def ordN (m a : Nat) : Nat := ordF m a m 1
theorem ordF_eq (m a k : Nat) (h : IsOrd m a k) : ∀ f j, 1 ≤ j → j ≤ k → k < j + f → ordF m a f j = k
  | 0, j, _, h2, h3 => by omega
  | f + 1, j, h1, h2, h3 => by
    rw [ordF]
    by_cases e : pwr m a j = 1
    · rw [if_pos e]
      apply Classical.byContradiction
      intro hne
      exact h.2.2 j h1 (by omega) e
    · rw [if_neg e]
      have : j ≠ k := by rintro rfl; exact e h.2.1
      exact ordF_eq m a k h f (j + 1) (by omega) (by omega) (by omega)
theorem ordN_eq (m a k : Nat) (h : IsOrd m a k) (hk : k ≤ m) : ordN m a = k := ordF_eq m a k h m 1 (Nat.le_refl _) h.1 (by omega)

/-! Powers by squaring -/
theorem pw_odd (m o s k : Nat) (h : k % 2 = 1) : (o * s % m) * (s * s % m) ^ (k / 2) % m = o * s ^ k % m := by
  have hk : k = 2 * (k / 2) + 1 := by omega
  have e : s ^ k = s * (s * s) ^ (k / 2) := by
    conv => lhs; rw [hk]
    rw [Nat.pow_succ, Nat.pow_mul, Nat.pow_two, Nat.mul_comm]
  rw [e, ← Nat.mul_assoc, Nat.mul_mod (o * s), Nat.pow_mod (s * s), Nat.mul_mod (o * s % m), Nat.mod_mod]
theorem pw_even (m o s k : Nat) (h : k % 2 = 0) : o * (s * s % m) ^ (k / 2) % m = o * s ^ k % m := by
  have hk : k = 2 * (k / 2) := by omega
  have e : s ^ k = (s * s) ^ (k / 2) := by
    conv => lhs; rw [hk]
    rw [Nat.pow_mul, Nat.pow_two]
  rw [e, Nat.mul_mod o ((s * s) ^ _), Nat.pow_mod (s * s), Nat.mul_mod o]

end Num
end Go.Proofs.Ytilfjhnkjdfcoaa

/- Contract of the model's greatest common divisor. -/
namespace Go.Proofs.Ytilfjhnkjdfcoaa
open Go.RowKit Go.WideShapes Go.ChangeShapes Go.ChangeAt

/-- the greatest common divisor, at integers of any sign -/
def gcdI (a b : Int) : Int := (Nat.gcd a.natAbs b.natAbs : Nat)
theorem emod_nat (G H : Nat) : (G : Int) % (H : Int) = ((G % H : Nat) : Int) := (Int.natCast_emod G H).symm
end Go.Proofs.Ytilfjhnkjdfcoaa

/- Contracts of the two Euclids with a factor, of the greatest common divisor, and of what looks at units. -/
namespace Go.Proofs.Ytilfjhnkjdfcoaa
open Go.RowKit Go.WideShapes Go.ChangeShapes Go.ChangeAt

/-- the divisor and the factor of a number -/
def egI (m a : Int) : Int × Int := (((Num.eg m.toNat a.toNat 0 1).1 : Int), (Num.eg m.toNat a.toNat 0 1).2 % m)

theorem div_cast (G H : Nat) : (G : Int) / (H : Int) = ((G / H : Nat) : Int) := (Int.natCast_ediv G H).symm
theorem sub_mod_cast (G H : Nat) : (G : Int) - (G : Int) / (H : Int) * (H : Int) = ((G % H : Nat) : Int) := by
  have h := Nat.div_add_mod G H
  have h2 : ((G / H : Nat) : Int) * (H : Int) = ((H * (G / H) : Nat) : Int) := by rw [Int.natCast_mul, Int.mul_comm]
  rw [div_cast, h2]; omega

set_option maxHeartbeats 1000000 in
theorem l01Inv_any (m a : Int) (w : World) (h0 : 0 ≤ a) (h1 : a < m) (h2 : m ≤ 10000) :
    Calls Try.prog 66 #[.int .i64 m, .int .i64 a] w fun e w' => e = .returned (.int .i64 (egI m a).2) ∧ w = w' := by
  obtain ⟨A, rfl⟩ := Int.eq_ofNat_of_zero_le h0
  obtain ⟨M, rfl⟩ := Int.eq_ofNat_of_zero_le (show 0 ≤ m by omega)
  have HA := Lib.hid (Int.emod_eq_of_lt h0 h1)
  go_enter Try.func66, Try.ntmps66
  go_wp2_with (go_at_call 71; refine (l01Mod_any _ _ _ (by omega) (by omega) (by omega) (by omega)).mono ?_; rintro e w' ⟨rfl, rfl⟩; rw [HA.out])
  go_loop [5, 6, 7, 8] (fun g ng x nx => ∃ (G H : Nat) (X Y : Int), g = .int .i64 G ∧ ng = .int .i64 H ∧ x = .int .i64 X ∧ nx = .int .i64 Y ∧ Num.EInv M A G H X Y ∧ Num.eg G H X Y = Num.eg M A 0 1) (fun _ ng _ _ => (intOf ng).toNat)
  case atStart => exact ⟨M, A, 0, 1, rfl, rfl, rfl, rfl, Num.EInv.start (by omega), rfl⟩
  case round =>
    obtain ⟨G, H, X, Y, rfl, rfl, rfl, rfl, hinv, heq⟩ := hrel
    have HI := Lib.hid hinv
    have HE := Lib.hid heq
    have hle := hinv.le
    have hY := hinv.bn
    obtain ⟨hY1, hY2⟩ := hY
    clear heq
    by_cases hH : H = 0
    · subst hH
      have hst := Num.eg_zero G X Y
      have HS := Lib.hid hst
      clear hst
      obtain ⟨hb1, hb2⟩ := hinv.sm
      clear hinv
      go_wp2_with (go_at_call 71; refine (l01Mod_any _ _ _ (by omega) (by omega) (by omega) (by omega)).mono ?_; rintro e w' ⟨rfl, rfl⟩)
      go_ret
      have := HE.out
      rw [HS.out] at this
      exact ⟨ret_int (by rw [egI]; simp only [Int.toNat_natCast]; rw [← this]), rfl⟩
    · obtain ⟨hX1, hX2⟩ := hinv.sm
      have hq := hinv.bq hH
      rw [← div_cast] at hq
      obtain ⟨hq1, hq2⟩ := hq
      have hG : 0 ≤ (G : Int) / H * H ∧ (G : Int) / H * H ≤ G := by
        have h := sub_mod_cast G H
        have h3 : G % H < H := Nat.mod_lt _ (by omega)
        have h4 : ((G / H : Nat) : Int) * (H : Int) = ((G / H * H : Nat) : Int) := by rw [Int.natCast_mul]
        rw [div_cast] at h ⊢
        omega
      obtain ⟨hG1, hG2⟩ := hG
      have hQ : 0 ≤ (G : Int) / H ∧ (G : Int) / H ≤ 10000 := by
        rw [div_cast]
        have := Nat.div_le_self G H
        exact ⟨Int.natCast_nonneg _, by omega⟩
      obtain ⟨hQ1, hQ2⟩ := hQ
      have hstep := hinv.step hH
      have HP := Lib.hid hstep
      have hes := Num.eg_step G H X Y hH
      have HS := Lib.hid hes
      clear hinv hstep hes
      have hpos : 0 < H := by omega
      clear hH
      go_wp2
      go_round
      case rel =>
        refine ⟨H, G % H, Y, X - (G : Int) / H * Y, rfl, ?_, rfl, rfl, ?_, ?_⟩
        · rw [sub_mod_cast]
        · rw [div_cast]; exact HP.out
        · rw [div_cast, ← HS.out]; exact HE.out
      case measure =>
        simp only [intOf]
        rw [sub_mod_cast]
        have := Nat.mod_lt G hpos
        omega


end Go.Proofs.Ytilfjhnkjdfcoaa

/- Contracts of IsUnit, InverseModulo and PowerModulo, of the program and of the model. -/
namespace Go.Proofs.Ytilfjhnkjdfcoaa
open Go.RowKit Go.WideShapes Go.ChangeShapes Go.ChangeAt

theorem eg_fact (m a : Int) (h0 : 0 ≤ a) (h1 : a < m) : (egI m a).1 = gcdI a m ∧ m ∣ a * (egI m a).2 - gcdI a m ∧ 0 ≤ (egI m a).2 ∧ (egI m a).2 < m := by
  obtain ⟨A, rfl⟩ := Int.eq_ofNat_of_zero_le h0
  obtain ⟨M, rfl⟩ := Int.eq_ofNat_of_zero_le (show 0 ≤ m by omega)
  obtain ⟨e1, e2⟩ := Num.eg_spec A M 0 1 (Num.EInv.start (show A < M by omega))
  have hg : (((Num.eg M A 0 1).1 : Nat) : Int) = gcdI A M := by rw [e1, gcdI, Int.natAbs_natCast, Int.natAbs_natCast, Nat.gcd_comm]
  refine ⟨hg, ?_, Int.emod_nonneg _ (by omega), Int.emod_lt_of_pos _ (by omega)⟩
  simp only [egI, Int.toNat_natCast]
  rw [hg] at e2
  generalize (Num.eg M A 0 1).2 = x at *
  have h := Int.emod_add_mul_ediv x (M : Int)
  generalize x % (M : Int) = r at *
  generalize x / (M : Int) = q at *
  obtain ⟨u, hu⟩ := e2
  exact ⟨u - A * q, by grind⟩

end Go.Proofs.Ytilfjhnkjdfcoaa

/- Contracts of InverseOfSeries, of the program and of the model. -/
namespace Go.Proofs.Ytilfjhnkjdfcoaa
open Go.RowKit Go.WideShapes Go.ChangeShapes Go.ChangeAt

theorem remainder_big (m n : Int) (w : World) (h1 : 1 ≤ m) (h2 : m ≤ 10000) (h3 : -1000000000000000000 ≤ n) (h4 : n ≤ 1000000000000000000) :
    Calls Try.prog 51 #[.int .i64 m, .int .i64 n] w fun e w' => e = .returned (.int .i64 (n % m)) ∧ w = w' := by
  by_cases hn : 0 ≤ n
  · have h5 := Int.emod_nonneg n (show m ≠ 0 by omega)
    have h6 := Int.emod_lt_of_pos n (show 0 < m by omega)
    go_enter Try.func51, Try.ntmps51
    go_wp2
    go_ret
    exact ⟨rfl, rfl⟩
  · obtain ⟨r, a1, a2, a3, a4, a5⟩ := rem_neg m n (by omega) (by omega)
    have H4 := Lib.hid a4
    clear a4 a5
    by_cases hr : r = 0
    · subst hr
      go_enter Try.func51, Try.ntmps51
      go_wp2
      go_ret
      exact ⟨ret_int (by rw [H4.out]; simp), rfl⟩
    · have hr' : 0 < r := by omega
      clear hr
      go_enter Try.func51, Try.ntmps51
      go_wp2
      go_ret
      exact ⟨ret_int (by rw [H4.out, if_neg (by omega)]; omega), rfl⟩

/-- the program's list while the inverse is made -/
def ivL (m u : Int) (a : Nat → Int) (d n : Nat) : List Int := Ser.invC m u a n ++ List.replicate (d - n) 0
theorem ivL_len (m u : Int) (a : Nat → Int) (d n : Nat) (h : n ≤ d) : (ivL m u a d n).length = d + 1 := by
  unfold ivL; rw [List.length_append, Ser.invC_length, List.length_replicate]; omega
theorem ivL_red {m u : Int} (hm : 0 < m) (h1 : 0 ≤ u) (h2 : u < m) (a : Nat → Int) (d n : Nat) : Ser.Red m (ivL m u a d n) := by
  intro i
  unfold ivL
  rw [Ser.co_pad]
  exact Ser.invC_red hm h1 h2 a n i
theorem ivL_zero {m u : Int} (h1 : 0 ≤ u) (h2 : u < m) (a : Nat → Int) (d : Nat) : Ser.cut m d (Ser.mon 0 u) = ivL m u a d 0 := by
  refine Ser.list_ext (by rw [Ser.cut_length, ivL_len _ _ _ _ _ (Nat.zero_le _)]) (fun i hi => ?_)
  rw [Ser.cut_length] at hi
  unfold ivL
  rw [Ser.co_pad, Ser.co_cut (by omega)]
  unfold Ser.mon
  cases i with
  | zero => rw [if_pos rfl, Int.emod_eq_of_lt h1 h2]; rfl
  | succ i => rw [if_neg (by omega), Int.zero_emod, Ser.co_over (by simp [Ser.invC])]
theorem ivL_step (m u : Int) (a : Nat → Int) (d n : Nat) (h : n + 1 ≤ d) : (ivL m u a d n).set (n + 1) ((-u * Ser.cv (n + 1) a (Ser.co (ivL m u a d n))) % m) = ivL m u a d (n + 1) := by
  have e : Ser.co (ivL m u a d n) = Ser.co (Ser.invC m u a n) := by unfold ivL; rw [Ser.co_pad]
  rw [e]
  unfold ivL
  rw [List.set_append_right _ _ (by rw [Ser.invC_length]; omega), Ser.invC_length, Nat.sub_self, show d - n = (d - (n + 1)) + 1 by omega, List.replicate_succ, List.set_cons_zero, Ser.invC, List.append_assoc]
  rfl
theorem ivL_all (m u : Int) (a : Nat → Int) (d : Nat) : ivL m u a d d = Ser.invC m u a d := by unfold ivL; rw [Nat.sub_self]; simp

theorem Box.set1 {w : World} {g : Nat} {m : Int} {A : Option Addr} {n c : Nat} (h : Box w g m A n c) (b i : Nat) (x : Value) (hne : b ≠ g) : Box (w.setCell ⟨b, i, none⟩ x) g m A n c := by
  refine ⟨?_, ?_, by simpa [World.setCell] using h.2.2⟩
  · rw [World.cell?_setCell_other _ _ _ _ (by intro e; injection e with e; exact hne e)]; exact h.1
  · rw [World.cell?_setCell_other _ _ _ _ (by intro e; injection e with e; exact hne e)]; exact h.2.1
theorem box22_set {w : World} {g g' b i : Nat} {m m' : Int} {A A' : Option Addr} {n c n' c' : Nat} {x : Value} (hne : b ≠ g) (hne' : b ≠ g')
    (h : (w.cell? ⟨g, 0, none⟩ = some (.int .i64 m) ∧ w.cell? ⟨g, 1, none⟩ = some (.slice A n c) ∧ g < w.heap.size) ∧ (w.cell? ⟨g', 0, none⟩ = some (.int .i64 m') ∧ w.cell? ⟨g', 1, none⟩ = some (.slice A' n' c') ∧ g' < w.heap.size)) :
    ((w.setCell ⟨b, i, none⟩ x).cell? ⟨g, 0, none⟩ = some (.int .i64 m) ∧ (w.setCell ⟨b, i, none⟩ x).cell? ⟨g, 1, none⟩ = some (.slice A n c) ∧ g < (w.setCell ⟨b, i, none⟩ x).heap.size) ∧
    ((w.setCell ⟨b, i, none⟩ x).cell? ⟨g', 0, none⟩ = some (.int .i64 m') ∧ (w.setCell ⟨b, i, none⟩ x).cell? ⟨g', 1, none⟩ = some (.slice A' n' c') ∧ g' < (w.setCell ⟨b, i, none⟩ x).heap.size) := by
  refine ⟨⟨?_, ?_, by simpa [World.setCell] using h.1.2.2⟩, ⟨?_, ?_, by simpa [World.setCell] using h.2.2.2⟩⟩
  · rw [World.cell?_setCell_other _ _ _ _ (by intro e; injection e with e; exact hne e)]; exact h.1.1
  · rw [World.cell?_setCell_other _ _ _ _ (by intro e; injection e with e; exact hne e)]; exact h.1.2.1
  · rw [World.cell?_setCell_other _ _ _ _ (by intro e; injection e with e; exact hne' e)]; exact h.2.1
  · rw [World.cell?_setCell_other _ _ _ _ (by intro e; injection e with e; exact hne' e)]; exact h.2.2.1
/-! a box and one number of its list, across a call -/
theorem bc_call {w w' : World} {g : Nat} {m : Int} {A : Option Addr} {n c b o : Nat} {x : Value} (hb : Below w.heap.size w w')
    (h : (w.cell? ⟨g, 0, none⟩ = some (.int .i64 m) ∧ w.cell? ⟨g, 1, none⟩ = some (.slice A n c) ∧ g < w.heap.size) ∧ (w.cell? ⟨b, o, none⟩ = some x ∧ b < w.heap.size)) :
    (w'.cell? ⟨g, 0, none⟩ = some (.int .i64 m) ∧ w'.cell? ⟨g, 1, none⟩ = some (.slice A n c) ∧ g < w'.heap.size) ∧ (w'.cell? ⟨b, o, none⟩ = some x ∧ b < w'.heap.size) :=
  ⟨box_call hb h.1, (hb.cell (p := ⟨b, o, none⟩) h.2.2).trans h.2.1, Nat.lt_of_lt_of_le h.2.2 hb.size⟩

def ivsM (m : Int) (l : List Int) : Int × List Int × Int :=
  if isS m l = true then (if gcdI (Ser.co l 0) m = 1 then (m, Ser.invC m (egI m (Ser.co l 0)).2 (Ser.co l) (l.length - 1), 0) else (0, [], 5)) else (0, [], 1)
theorem ivsM_len (m : Int) (l : List Int) : (ivsM m l).2.1.length ≤ 1048576 := by
  unfold ivsM
  split
  · rename_i h
    obtain ⟨d, e, s⟩ := serOk_of h
    have := s.d2
    split
    · dsimp only; rw [Ser.invC_length]; omega
    · simp
  · simp
end Go.Proofs.Ytilfjhnkjdfcoaa

/- Plain facts on the Weierstrass series and on square roots of series: no program in sight. -/
namespace Go.Proofs.Ytilfjhnkjdfcoaa
namespace Ser

theorem cv_congr_curves {m : Int} {f f' b b' : Nat → Int} {n : Nat} (hf : f 0 = 0) (hf' : f' 0 = 0) (hb : b 0 = 0) (hb' : b' 0 = 0) (h : Eq m n f f') (k : Eq m n b b') : cv (n + 1) f b % m = cv (n + 1) f' b' % m := by
  rw [cv_succ, cv_succ, hf, hf', Int.zero_mul, Int.zero_mul, Int.zero_add, Int.zero_add, cv_comm (sh f), cv_comm (sh f')]
  exact cv_congr_curve (by rw [hb]; rfl) (by rw [hb']; rfl) k (fun i hi => h (i + 1) (by omega))
theorem cv_mon (f : Nat → Int) (k : Nat) (c : Int) (n : Nat) : cv n f (mon k c) = if k ≤ n then c * f (n - k) else 0 := by
  rw [cv_psum]
  by_cases h : k ≤ n
  · rw [Pl.psum_one _ (n - k) _ (fun i hi hne => by unfold mon; rw [if_neg (by omega), Int.mul_zero]), if_pos (by omega), if_pos h]
    unfold mon
    rw [if_pos (by omega), Int.mul_comm]
  · rw [if_neg h]
    exact psum_low _ _ (fun i _ => by unfold mon; rw [if_neg (by omega), Int.mul_zero])
/-- the right side of the equation of the Weierstrass series -/
def weiB (a3 a4 a6 : Int) (w : Nat → Int) : Nat → Int := fun n => (mon 0 a3 n + mon 1 a4 n) + w n * a6
def weiA (a1 a2 a3 a4 a6 : Int) (w : Nat → Int) : Nat → Int := fun n => (mon 1 a1 n + mon 2 a2 n) + mul w (weiB a3 a4 a6 w) n
def weiF (a1 a2 a3 a4 a6 : Int) (w : Nat → Int) : Nat → Int := fun n => mon 3 1 n + mul w (weiA a1 a2 a3 a4 a6 w) n
theorem weiA_zero (a1 a2 a3 a4 a6 : Int) {w : Nat → Int} (h : w 0 = 0) : weiA a1 a2 a3 a4 a6 w 0 = 0 := by
  show mon 1 a1 0 + mon 2 a2 0 + cv 0 w _ = 0
  rw [cv_zero, h]; simp [mon]
theorem weiF_zero (a1 a2 a3 a4 a6 : Int) {w : Nat → Int} (h : w 0 = 0) : weiF a1 a2 a3 a4 a6 w 0 = 0 := by
  show mon 3 1 0 + cv 0 w _ = 0
  rw [cv_zero, h]; simp [mon]
theorem weiB_congr {m : Int} {k : Nat} (a3 a4 a6 : Int) {w w' : Nat → Int} (h : Eq m k w w') : Eq m k (weiB a3 a4 a6 w) (weiB a3 a4 a6 w') := fun i hi => add_cong rfl (mul_cong (h i hi) rfl)
theorem weiA_congr {m : Int} {k : Nat} (a1 a2 a3 a4 a6 : Int) {w w' : Nat → Int} (h : Eq m k w w') : Eq m k (weiA a1 a2 a3 a4 a6 w) (weiA a1 a2 a3 a4 a6 w') := fun i hi => add_cong rfl (Eq.mul h (weiB_congr a3 a4 a6 h) i hi)
/-- one degree more is right -/
theorem weiF_congr {m : Int} {k : Nat} (a1 a2 a3 a4 a6 : Int) {w w' : Nat → Int} (h0 : w 0 = 0) (h0' : w' 0 = 0) (h : Eq m k w w') : Eq m (k + 1) (weiF a1 a2 a3 a4 a6 w) (weiF a1 a2 a3 a4 a6 w') := by
  intro i hi
  refine add_cong rfl ?_
  by_cases hk : i ≤ k
  · exact Eq.mul h (weiA_congr a1 a2 a3 a4 a6 h) i hk
  · obtain rfl : i = k + 1 := by omega
    exact cv_congr_curves h0 h0' (weiA_zero _ _ _ _ _ h0) (weiA_zero _ _ _ _ _ h0') h (weiA_congr a1 a2 a3 a4 a6 h)
theorem weiF_at (a1 a2 a3 a4 a6 : Int) (w : Nat → Int) (n : Nat) (hn : 3 ≤ n) :
    weiF a1 a2 a3 a4 a6 w n = mon 3 1 n + (a1 * w (n - 1) + a2 * w (n - 2) + (a3 * mul w w n + a4 * mul w w (n - 1) + a6 * mul (mul w w) w n)) := by
  have e1 : mul w (weiA a1 a2 a3 a4 a6 w) n = cv n w (mon 1 a1) + cv n w (mon 2 a2) + cv n w (mul w (weiB a3 a4 a6 w)) := by
    show mul w (fun i => (mon 1 a1 i + mon 2 a2 i) + mul w (weiB a3 a4 a6 w) i) n = _
    rw [mul_add w (fun i => mon 1 a1 i + mon 2 a2 i), mul_add w (mon 1 a1)]; rfl
  have e2 : cv n w (mul w (weiB a3 a4 a6 w)) = cv n (mul w w) (mon 0 a3) + cv n (mul w w) (mon 1 a4) + a6 * mul (mul w w) w n := by
    rw [← cv_assoc]
    show mul (mul w w) (fun i => (mon 0 a3 i + mon 1 a4 i) + w i * a6) n = _
    rw [mul_add (mul w w) (fun i => mon 0 a3 i + mon 1 a4 i), mul_add (mul w w) (mon 0 a3)]
    rw [show (fun i => w i * a6) = fun i => a6 * w i from funext fun i => Int.mul_comm _ _, mul_smul]
    rfl
  show mon 3 1 n + mul w (weiA a1 a2 a3 a4 a6 w) n = _
  rw [e1, e2, cv_mon, cv_mon, cv_mon, cv_mon, if_pos (by omega), if_pos (by omega), if_pos (by omega), if_pos (by omega), Nat.sub_zero]

/-- the program's rounds -/
def addL (m : Int) (d : Nat) (l l' : List Int) : List Int := cut m d fun n => co l n + co l' n
def mulK (m : Int) (d : Nat) (l : List Int) (k : Int) : List Int := cut m d fun n => co l n * k
def monL (m : Int) (d k : Nat) (c : Int) : List Int := cut m d (mon k c)
theorem addL_eq {m : Int} {d : Nat} {l l' : List Int} {f g : Nat → Int} (h : Eq m d (co l) f) (k : Eq m d (co l') g) : Eq m d (co (addL m d l l')) (fun n => f n + g n) := (co_cut_eq _ _ _).trans (h.add k)
theorem mulK_eq {m : Int} {d : Nat} {l : List Int} {f : Nat → Int} (h : Eq m d (co l) f) (k : Int) : Eq m d (co (mulK m d l k)) (fun n => f n * k) := (co_cut_eq _ _ _).trans (fun i hi => mul_cong (h i hi) rfl)
theorem mulL_eq {m : Int} {d : Nat} {l l' : List Int} {f g : Nat → Int} (h : Eq m d (co l) f) (k : Eq m d (co l') g) : Eq m d (co (mulL m d l l')) (mul f g) := (co_cut_eq _ _ _).trans (h.mul k)
def weiQ (m : Int) (d : Nat) (a3 a4 a6 : Int) (L : List Int) : List Int := addL m d (addL m d (monL m d 0 a3) (monL m d 1 a4)) (mulK m d L a6)
def weiS (m : Int) (d : Nat) (a1 a2 a3 a4 a6 : Int) (L : List Int) : List Int := addL m d (addL m d (monL m d 1 a1) (monL m d 2 a2)) (mulL m d L (weiQ m d a3 a4 a6 L))
def weiP (m : Int) (d : Nat) (a1 a2 a3 a4 a6 : Int) (L : List Int) : List Int := addL m d (monL m d 3 1) (mulL m d L (weiS m d a1 a2 a3 a4 a6 L))
def weiL (m : Int) (d : Nat) (a1 a2 a3 a4 a6 : Int) : Nat → List Int
  | 0 => monL m d 0 0
  | k + 1 => weiP m d a1 a2 a3 a4 a6 (weiL m d a1 a2 a3 a4 a6 k)
theorem weiP_eq (m : Int) (d : Nat) (a1 a2 a3 a4 a6 : Int) (L : List Int) : Eq m d (co (weiP m d a1 a2 a3 a4 a6 L)) (weiF a1 a2 a3 a4 a6 (co L)) := by
  have hq : Eq m d (co (weiQ m d a3 a4 a6 L)) (weiB a3 a4 a6 (co L)) := addL_eq (addL_eq (co_cut_eq _ _ _) (co_cut_eq _ _ _)) (mulK_eq (Eq.refl _ _ _) a6)
  have hs : Eq m d (co (weiS m d a1 a2 a3 a4 a6 L)) (weiA a1 a2 a3 a4 a6 (co L)) := addL_eq (addL_eq (co_cut_eq _ _ _) (co_cut_eq _ _ _)) (mulL_eq (Eq.refl _ _ _) hq)
  exact addL_eq (co_cut_eq _ _ _) (mulL_eq (Eq.refl _ _ _) hs)
theorem weiL_length (m : Int) (d : Nat) (a1 a2 a3 a4 a6 : Int) (k : Nat) : (weiL m d a1 a2 a3 a4 a6 k).length = d + 1 := by cases k <;> exact cut_length _ _ _
theorem weiL_red {m : Int} (hm : 0 < m) (d : Nat) (a1 a2 a3 a4 a6 : Int) (k : Nat) : Red m (weiL m d a1 a2 a3 a4 a6 k) := by cases k <;> exact cut_red hm _ _
theorem weiL_zero {m : Int} (hm : 0 < m) (d : Nat) (a1 a2 a3 a4 a6 : Int) (k : Nat) : co (weiL m d a1 a2 a3 a4 a6 k) 0 = 0 := by
  induction k with
  | zero =>
    show co (cut m d (mon 0 0)) 0 = 0
    rw [co_cut (Nat.zero_le _)]
    simp [mon]
  | succ k ih =>
    have h := weiP_eq m d a1 a2 a3 a4 a6 (weiL m d a1 a2 a3 a4 a6 k) 0 (Nat.zero_le _)
    rw [weiF_zero _ _ _ _ _ ih] at h
    have r := weiL_red hm d a1 a2 a3 a4 a6 (k + 1) 0
    rw [show co (weiL m d a1 a2 a3 a4 a6 (k + 1)) 0 = co (weiP m d a1 a2 a3 a4 a6 (weiL m d a1 a2 a3 a4 a6 k)) 0 from rfl] at r ⊢
    rw [Int.emod_eq_of_lt r.1 r.2] at h
    simpa using h
/-- what the model's list is when the coefficients below n have come -/
structure WeiN (m : Int) (D : Nat) (a1 a2 a3 a4 a6 : Int) (L : List Int) (n : Nat) : Prop where
  len : L.length = D + 1
  red : Red m L
  zero : ∀ i, i < 3 → co L i = 0
  last : ∀ i, n ≤ i → co L i = 0
  fix : ∀ i, i < n → co L i = weiF a1 a2 a3 a4 a6 (co L) i % m
theorem weiF_low (a1 a2 a3 a4 a6 : Int) {w : Nat → Int} (h : ∀ i, i < 3 → w i = 0) (i : Nat) (hi : i < 3) : weiF a1 a2 a3 a4 a6 w i = 0 := by
  have : cv i w (weiA a1 a2 a3 a4 a6 w) = 0 := by
    rw [cv_psum]
    exact psum_low _ _ (fun j hj => by rw [h j (by omega), Int.zero_mul])
  show mon 3 1 i + cv i w _ = 0
  rw [this]
  unfold mon
  rw [if_neg (by omega)]; rfl
theorem co_zeros0 (n i : Nat) : co (List.replicate n (0 : Int)) i = 0 := co_zeros n i
theorem WeiN.start {m : Int} (hm : 0 < m) (D : Nat) (a1 a2 a3 a4 a6 : Int) : WeiN m D a1 a2 a3 a4 a6 (List.replicate (D + 1) 0) 3 := by
  have z : ∀ i, co (List.replicate (D + 1) (0 : Int)) i = 0 := fun i => co_zeros0 _ i
  refine ⟨List.length_replicate, fun i => by rw [z]; omega, fun i _ => z i, fun i _ => z i, fun i hi => ?_⟩
  rw [weiF_low _ _ _ _ _ (fun j _ => z j) i hi, z, Int.zero_emod]
theorem WeiN.step {m : Int} (hm : 0 < m) {D : Nat} {a1 a2 a3 a4 a6 : Int} {L : List Int} {n : Nat} (h : WeiN m D a1 a2 a3 a4 a6 L n) (hn : 3 ≤ n) (hD : n ≤ D) {v : Int} (hv : v = weiF a1 a2 a3 a4 a6 (co L) n % m) : WeiN m D a1 a2 a3 a4 a6 (L.set n v) (n + 1) := by
  have hs : ∀ i, co (L.set n v) i = if i = n then v else co L i := fun i => co_set (by rw [h.len]; omega) _ i
  have he : ∀ k, k < n → Eq m k (co (L.set n v)) (co L) := fun k hk i hi => by rw [hs, if_neg (by omega)]
  have h0 : co L 0 = 0 := h.zero 0 (by omega)
  have h0' : co (L.set n v) 0 = 0 := by rw [hs, if_neg (by omega), h0]
  refine ⟨by rw [List.length_set, h.len], fun i => ?_, fun i hi => ?_, fun i hi => ?_, fun i hi => ?_⟩
  · rw [hs]
    split
    · rw [hv]; exact ⟨Int.emod_nonneg _ (by omega), Int.emod_lt_of_pos _ hm⟩
    · exact h.red i
  · rw [hs, if_neg (by omega)]; exact h.zero i hi
  · rw [hs, if_neg (by omega)]; exact h.last i (by omega)
  · rcases i with _ | i
    · rw [h0', weiF_zero _ _ _ _ _ h0', Int.zero_emod]
    · have := weiF_congr a1 a2 a3 a4 a6 h0' h0 (he i (by omega)) (i + 1) (Nat.le_refl _)
      rw [this, hs]
      by_cases hi' : i + 1 = n
      · rw [if_pos hi', hv, hi']
      · rw [if_neg hi']; exact h.fix (i + 1) (by omega)
/-- when all have come it is the program's -/
theorem WeiN.done {m : Int} (hm : 0 < m) {D : Nat} {a1 a2 a3 a4 a6 : Int} {L : List Int} {n : Nat} (h : WeiN m D a1 a2 a3 a4 a6 L n) (hn : D < n) : L = weiL m D a1 a2 a3 a4 a6 D := by
  have key : ∀ k, k ≤ D → Eq m k (co (weiL m D a1 a2 a3 a4 a6 k)) (co L) := by
    intro k
    induction k with
    | zero =>
      intro _ i hi
      obtain rfl : i = 0 := by omega
      rw [weiL_zero hm, h.zero 0 (by omega)]
    | succ k ih =>
      intro hk i hi
      rw [show co (weiL m D a1 a2 a3 a4 a6 (k + 1)) i = co (weiP m D a1 a2 a3 a4 a6 (weiL m D a1 a2 a3 a4 a6 k)) i from rfl, weiP_eq m D a1 a2 a3 a4 a6 _ i (by omega),
        weiF_congr a1 a2 a3 a4 a6 (weiL_zero hm D a1 a2 a3 a4 a6 k) (h.zero 0 (by omega)) (ih (by omega)) i hi, h.fix i (by omega), Int.emod_emod]
  exact red_unique h.len (weiL_length _ _ _ _ _ _ _ _) h.red (weiL_red hm _ _ _ _ _ _ _) (key D (Nat.le_refl _)).symm
/-- the model's next coefficient: sq and cu its square and cube up to n -/
theorem wei_val {m : Int} {a1 a2 a3 a4 a6 : Int} {L : List Int} {n : Nat} (hn : 3 ≤ n) (sq cu : Nat → Int) (hsq : Eq m n sq (mul (co L) (co L))) (hcu : Eq m n cu (mul sq (co L))) :
    (a1 * co L (n - 1) + a2 * co L (n - 2) + a3 * sq n + a4 * sq (n - 1) + a6 * cu n + mon 3 1 n) % m = weiF a1 a2 a3 a4 a6 (co L) n % m := by
  rw [weiF_at _ _ _ _ _ _ n hn]
  have e1 := hsq n (Nat.le_refl _)
  have e2 := hsq (n - 1) (by omega)
  have e3 : cu n % m = mul (mul (co L) (co L)) (co L) n % m := (hcu n (Nat.le_refl _)).trans (cv_congr n hsq (Eq.refl _ _ _))
  rw [show a1 * co L (n - 1) + a2 * co L (n - 2) + a3 * sq n + a4 * sq (n - 1) + a6 * cu n + mon 3 1 n = mon 3 1 n + (a1 * co L (n - 1) + a2 * co L (n - 2) + (a3 * sq n + a4 * sq (n - 1) + a6 * cu n)) by omega]
  exact add_cong rfl (add_cong rfl (add_cong (add_cong (mul_cong rfl e1) (mul_cong rfl e2)) (mul_cong rfl e3)))

/-! square roots -/
def rtL (m : Int) (d : Nat) (h : Int) (a : Nat → Int) : Nat → List Int
  | 0 => cut m d (mon 0 1)
  | k + 1 => (rtL m d h a k).set (k + 1) ((h * (a (k + 1) - cv (k + 1) (co (rtL m d h a k)) (co (rtL m d h a k)))) % m)
theorem rtL_length (m : Int) (d : Nat) (h : Int) (a : Nat → Int) (k : Nat) : (rtL m d h a k).length = d + 1 := by
  induction k with
  | zero => exact cut_length _ _ _
  | succ k ih => show (List.set _ _ _).length = _; rw [List.length_set, ih]
theorem rtL_red {m : Int} (hm : 0 < m) (d : Nat) (h : Int) (a : Nat → Int) (k : Nat) (hk : k ≤ d) : Red m (rtL m d h a k) := by
  induction k with
  | zero => exact cut_red hm _ _
  | succ k ih =>
    intro i
    rw [show co (rtL m d h a (k + 1)) i = co ((rtL m d h a k).set (k + 1) _) i from rfl, co_set (by rw [rtL_length]; omega)]
    split
    · exact ⟨Int.emod_nonneg _ (by omega), Int.emod_lt_of_pos _ hm⟩
    · exact ih (by omega) i
theorem rtL_at {m : Int} (m1 : 2 ≤ m) {d : Nat} (h : Int) (a : Nat → Int) (k : Nat) (hk : k ≤ d) : co (rtL m d h a k) 0 = 1 ∧ ∀ i, k < i → co (rtL m d h a k) i = 0 := by
  induction k with
  | zero =>
    refine ⟨?_, fun i hi => ?_⟩
    · show co (cut m d (mon 0 1)) 0 = 1
      rw [co_cut (Nat.zero_le _)]
      exact Int.emod_eq_of_lt (by simp [mon]) (by simp [mon]; omega)
    · show co (cut m d (mon 0 1)) i = 0
      by_cases hd : i ≤ d
      · rw [co_cut hd]; unfold mon; rw [if_neg (by omega), Int.zero_emod]
      · exact co_over (by rw [cut_length]; omega)
  | succ k ih =>
    have hs : ∀ i, co (rtL m d h a (k + 1)) i = if i = k + 1 then (h * (a (k + 1) - cv (k + 1) (co (rtL m d h a k)) (co (rtL m d h a k)))) % m else co (rtL m d h a k) i := fun i => co_set (by rw [rtL_length]; omega) _ i
    refine ⟨?_, fun i hi => ?_⟩
    · rw [hs, if_neg (by omega)]; exact (ih (by omega)).1
    · rw [hs, if_neg (by omega)]; exact (ih (by omega)).2 i (by omega)
/-- the sum of the terms between both ends -/
def midS (r : Nat → Int) (n : Nat) (k : Nat) : Int := psum (fun i => r (i + 1) * r (n - (i + 1))) k
theorem cv_mid (r : Nat → Int) (n : Nat) (hn : 1 ≤ n) (h0 : r n = 0) : cv n r r = midS r n (n - 1) := by
  rw [cv_psum]
  obtain ⟨k, rfl⟩ : ∃ k, n = k + 1 := ⟨n - 1, by omega⟩
  rw [psum_left]
  show r 0 * r (k + 1 - 0) + psum (fun i => r (i + 1) * r (k + 1 - (i + 1))) (k + 1) = _
  rw [psum]
  unfold midS
  rw [Nat.sub_zero, Nat.add_sub_cancel, h0, Int.mul_zero, Int.zero_mul, Int.zero_add, Int.add_zero]
end Ser
end Go.Proofs.Ytilfjhnkjdfcoaa

/- Contracts of square roots of series and of the root of Euler's law, of the program. -/
namespace Go.Proofs.Ytilfjhnkjdfcoaa
open Go.RowKit Go.WideShapes Go.ChangeShapes Go.ChangeAt

theorem sq_call {w w' : World} {g g' b o : Nat} {m m' : Int} {A A' : Option Addr} {n c n' c' : Nat} {x : Value} (hb : Below w.heap.size w w')
    (h : (w.cell? ⟨g, 0, none⟩ = some (.int .i64 m) ∧ w.cell? ⟨g, 1, none⟩ = some (.slice A n c) ∧ g < w.heap.size) ∧ (w.cell? ⟨g', 0, none⟩ = some (.int .i64 m') ∧ w.cell? ⟨g', 1, none⟩ = some (.slice A' n' c') ∧ g' < w.heap.size) ∧ w.cell? ⟨b, o, none⟩ = some x) :
    (w'.cell? ⟨g, 0, none⟩ = some (.int .i64 m) ∧ w'.cell? ⟨g, 1, none⟩ = some (.slice A n c) ∧ g < w'.heap.size) ∧ (w'.cell? ⟨g', 0, none⟩ = some (.int .i64 m') ∧ w'.cell? ⟨g', 1, none⟩ = some (.slice A' n' c') ∧ g' < w'.heap.size) ∧ w'.cell? ⟨b, o, none⟩ = some x :=
  ⟨(box22_call hb ⟨h.1, h.2.1⟩).1, (box22_call hb ⟨h.1, h.2.1⟩).2, (hb.cell (p := ⟨b, o, none⟩) (World.block_lt_of_cell? w ⟨b, o, none⟩ h.2.2)).trans h.2.2⟩
theorem sq_set {w : World} {g g' b0 b o i : Nat} {m m' : Int} {A A' : Option Addr} {n c n' c' : Nat} {x : Value} {u : Value} (hne : b ≠ g) (hne' : b ≠ g') (hn3 : b ≠ b0)
    (h : (w.cell? ⟨g, 0, none⟩ = some (.int .i64 m) ∧ w.cell? ⟨g, 1, none⟩ = some (.slice A n c) ∧ g < w.heap.size) ∧ (w.cell? ⟨g', 0, none⟩ = some (.int .i64 m') ∧ w.cell? ⟨g', 1, none⟩ = some (.slice A' n' c') ∧ g' < w.heap.size) ∧ w.cell? ⟨b0, o, none⟩ = some x) :
    ((w.setCell ⟨b, i, none⟩ u).cell? ⟨g, 0, none⟩ = some (.int .i64 m) ∧ (w.setCell ⟨b, i, none⟩ u).cell? ⟨g, 1, none⟩ = some (.slice A n c) ∧ g < (w.setCell ⟨b, i, none⟩ u).heap.size) ∧
    ((w.setCell ⟨b, i, none⟩ u).cell? ⟨g', 0, none⟩ = some (.int .i64 m') ∧ (w.setCell ⟨b, i, none⟩ u).cell? ⟨g', 1, none⟩ = some (.slice A' n' c') ∧ g' < (w.setCell ⟨b, i, none⟩ u).heap.size) ∧ (w.setCell ⟨b, i, none⟩ u).cell? ⟨b0, o, none⟩ = some x :=
  ⟨(box22_set hne hne' ⟨h.1, h.2.1⟩).1, (box22_set hne hne' ⟨h.1, h.2.1⟩).2, by rw [World.cell?_setCell_other _ _ _ _ (by intro e; injection e with e; exact hn3 e)]; exact h.2.2⟩
set_option maxHeartbeats 8000000 in
set_option maxRecDepth 100000 in
theorem squareRoot_any (m : Int) (d : Nat) (A : Option Addr) (c : Nat) (l : List Int) (w : World) (hs : SerOk m d l) (hr : RI w A l) :
    Calls Try.prog 57 #[.agg #[.int .i64 m, .slice A l.length c]] w fun e w' => ∃ v, e = .returned (.agg #[.int .i64 m, v]) ∧ OwnI w' w.heap.size v (Ser.rtL m d ((m + 1) / 2) (Ser.co l) d) ∧ Below w.heap.size w w' := by
  obtain ⟨W1, hW, b1, v3, hwb⟩ := spro1 w m A l.length c
  have B1 := Lib.hid b1
  have V1 := Lib.hid v3
  have HB := Lib.hid hwb
  have HW := Lib.hid hW
  have HR0 := Lib.hid hr
  have HSZ : w.heap.size + 1 < W1.heap.size := v3.lt
  have Y1 := B1
  have m1 := hs.m1
  have m2 := hs.m2
  have hd := hs.d2
  have hd1 := hs.d1
  have HDG := Lib.hid (fun W0 => degree_nat m A l.length c d W0 hs.len (by omega))
  have HMO := Lib.hid (fun W0 => monomial_any m d 0 1 W0 (by omega) m2 (by omega) (by omega) (by omega))
  have HSO := Lib.hid hs
  obtain ⟨a, ha⟩ : ∃ a, Ser.co l = a := ⟨_, rfl⟩
  have HAE := Lib.hid ha
  obtain ⟨L0, hL0⟩ : ∃ L0, Ser.cut m d (Ser.mon 0 1) = L0 := ⟨_, rfl⟩
  obtain ⟨h, hh⟩ : ∃ h, (m + 1) / 2 = h := ⟨_, rfl⟩
  have hh1 : 0 ≤ h := by omega
  have hh2 : h ≤ 5001 := by omega
  have wm : IntKind.i64.wrap (m + 1) = m + 1 := by rw [IntKind.wrap_i64]; omega
  have wt : (m + 1).tdiv 2 = h := by rw [Int.tdiv_eq_ediv_of_nonneg (by omega)]; exact hh
  have wh : IntKind.i64.wrap h = h := by rw [IntKind.wrap_i64]; omega
  rw [hh]
  have HL0 := Lib.hid (show L0 = Ser.rtL m d h a 0 by rw [← hL0]; rfl)
  rw [hL0] at HMO
  rw [ha]
  obtain ⟨y1, y2, y3⟩ := b1
  clear v3 hwb hW hr hs hL0 ha
  go_enter Try.func57, Try.ntmps57
  go_upto_region 2 with fail
  rw [HW.out]
  clear y1 y2 y3
  go_cut [4] (fun s7 wx => ∃ g A1 c1, s7 = .pointer (some ⟨g, 0, none⟩) ∧ Var2 wx g (.int .i64 m) (.slice A1 L0.length c1) ∧ OwnI wx W1.heap.size (.slice A1 L0.length c1) L0 ∧ Below W1.heap.size W1 wx ∧ W1.heap.size ≤ g)
  case first =>
    go_region_held3 (fun w' => (w'.cell? ⟨w.heap.size, 0, none⟩ = some (.int .i64 m) ∧ w'.cell? ⟨w.heap.size, 1, none⟩ = some (.slice A l.length c)) ∧ True ∧ Below W1.heap.size W1 w') (first | exact one_in Y1.out (below_drew0 _) | exact one_in Y1.out hka | exact one_in Y1.out hbel | exact one_in Y1.out (below_alloc _ (trd (by assumption))) | exact one_in Y1.out (below_alloc _ hbel) | exact one_in Y1.out (reg_fin2 hwg hgc hv hod hbel m).2.2.1) (first
      | (go_at_call 58; refine (HDG.out _).mono ?_; rintro e wa ⟨rfl, hba⟩; obtain ⟨hka, -⟩ := reg_end (by assumption) hba)
      | (go_at_call 40; refine (HMO.out _).mono ?_; rintro e wd ⟨sd, rfl, hod, hbd⟩; obtain ⟨Ad, cd, rfl, -⟩ := hod.form; obtain ⟨hbel, hle⟩ := reg_end (by assumption) hbd; first | (refine use_it (var_keep ((Var2.new W1 _ _).drew.keep hba) hbd) ?_; rintro ⟨hv, hgc⟩; have hwg := var_at (k := W1.heap.size) hv (Nat.le_refl _); have q0 := hv.c0; have q1 := hv.c1; have q2 := hv.fz 0; have q3 := hv.fz 1) | (refine use_it (var_keep (Var2.new _ _ _).drew hbd) ?_; rintro ⟨hv, hgc⟩; have hwg := var_at (k := W1.heap.size) hv (Nat.le_refl _); have q0 := hv.c0; have q1 := hv.c1; have q2 := hv.fz 0; have q3 := hv.fz 1) | (refine use_it (var_keep (Var2.new _ _ _) hbd) ?_; rintro ⟨hv, hgc⟩; have hwg := var_at (k := W1.heap.size) hv hka.size; have q0 := hv.c0; have q1 := hv.c1; have q2 := hv.fz 0; have q3 := hv.fz 1) | skip))
    all_goals
      go_wp2_with fail
      go_meet
      case rel => first | exact ⟨_, _, _, rfl, reg_new2 hle hod hbel m⟩ | exact ⟨_, _, _, rfl, reg_fin2 hwg hgc hv hod hbel m⟩
  case rest =>
    obtain ⟨w2, hwc⟩ : ∃ w9, w9 = wc := ⟨_, rfl⟩
    subst hwc
    obtain ⟨g7, A7, c7, rfl, v7, o7, hb7, hg7⟩ := hcut
    rw [HL0.out] at v7 o7
    have hll := Ser.rtL_length m d h a 0
    rw [hll] at v7 o7
    obtain ⟨gl, cl, hvl⟩ := o7.openv (by intro h; rw [h] at hll; simp at hll)
    rw [hll] at hvl
    have O7 := Lib.hid o7
    have V7 := Lib.hid v7
    have V2 := Lib.hid (V1.out.keep hb7)
    have Y2 := Lib.hid (Y1.out.keep hb7)
    have B7 := Lib.hid (below_step HB.out hb7)
    have G7 := Lib.hid hg7
    have SZ := hb7.size
    injection hvl with e1 e2 e3
    subst e1 e3
    have hgl := (o7.lt gl rfl).1
    clear v7 o7 hb7 Y1 HMO HB B1 V1 hll e2
    go_wp2
    go_loopw [5] (fun s6 wr => ∃ n k : Nat, n = k + 1 ∧ k ≤ d ∧ s6 = .int .i64 (n : Int) ∧ OwnI wr W1.heap.size (.slice (some ⟨gl, 0, none⟩) (d + 1) c7) (Ser.rtL m d h a k) ∧ Var2 wr g7 (.int .i64 m) (.slice (some ⟨gl, 0, none⟩) (d + 1) c7) ∧ Var2 wr (w.heap.size + 1) (.int .i64 0) (.slice none 0 0) ∧ Box wr w.heap.size m A l.length c ∧ Below w.heap.size w wr) (fun s6 _ => d + 2 - (intOf s6).toNat)
    case atStart => exact ⟨1, 0, rfl, Nat.zero_le _, rfl, O7.out, V7.out, V2.out, Y2.out, B7.out⟩
    case round =>
      obtain ⟨n, k, hkn, hk, rfl, own, v7, v2, y2, hbl⟩ := hrel
      have OW := Lib.hid own
      have V8 := Lib.hid v7
      have V9 := Lib.hid v2
      have Y9 := Lib.hid y2
      have HB := Lib.hid hbl
      obtain ⟨x1, x2, -⟩ := y2
      have hlk := Ser.rtL_length m d h a k
      clear own v7 v2 hbl O7 V7 V2 Y2 B7
      by_cases hlt : n ≤ d
      · have hlt2 : (n : Int) ≤ (d : Int) := by omega
        have sk : SerOk m d (Ser.rtL m d h a k) := ⟨m1, m2, hd1, hd, hlk, Ser.rtL_red (by omega) d h a k hk⟩
        go_wp2_with fail
        refine (HDG.out _).mono ?_
        rintro e w3 ⟨rfl, hb3⟩
        have Y4 := Lib.hid (Y9.out.keep hb3)
        have V4 := Lib.hid (V8.out.keep hb3)
        have OW4 := Lib.hid (OW.out.keep hb3)
        have V5 := Lib.hid (V9.out.keep hb3)
        have HB4 := Lib.hid (below_step HB.out hb3)
        have R4 := Lib.hid (HR0.out.below HB4.out)
        clear x1 x2 hb3
        obtain ⟨x1, x2, x3⟩ := Y4.out
        obtain ⟨y1, y2, y3⟩ := (⟨V4.out.c0, V4.out.c1, V4.out.lt⟩ : _ ∧ _ ∧ _)
        obtain ⟨P, hP⟩ : ∃ P, Ser.cv n (Ser.co (Ser.rtL m d h a k)) (Ser.co (Ser.rtL m d h a k)) = P := ⟨_, rfl⟩
        have hbd := cv_bd m2 sk.red sk.red n (by omega)
        rw [hP] at hbd
        have han := HSO.out.red n
        rw [HAE.out] at han
        obtain ⟨bA, offA, hAe, hAb, hAc0⟩ := HR0.out.at n (by have := HSO.out.len; omega)
        have hAc := (HB4.out.cell (p := ⟨bA, offA + n, none⟩) hAb).trans hAc0
        clear hAc0
        rw [HAE.out] at hAc
        have hst : (Ser.rtL m d h a k).set (k + 1) ((h * (a (k + 1) - Ser.cv (k + 1) (Ser.co (Ser.rtL m d h a k)) (Ser.co (Ser.rtL m d h a k)))) % m) = Ser.rtL m d h a (k + 1) := rfl
        rw [← hkn, hP] at hst
        obtain ⟨U, hU⟩ : ∃ U, a n = U := ⟨_, rfl⟩
        rw [hU] at hst han hAc
        have HST := Lib.hid hst
        have HP := Lib.hid (fun W0 (h0 : Below w3.heap.size w3 W0) => by
          have := productAt_any m d n (some ⟨gl, 0, none⟩) c7 (Ser.rtL m d h a k) m (some ⟨gl, 0, none⟩) c7 (Ser.rtL m d h a k) W0 sk sk ((OW4.out.ri).below h0) ((OW4.out.ri).below h0) hlt
          rw [hP, hlk] at this
          exact this)
        have p1 : -2000000000000000 ≤ h * (U - P) ∧ h * (U - P) ≤ 2000000000000000 := by
          have z1 := Int.mul_le_mul_of_nonneg_left (c := h) (show U - P ≤ 10000 by omega) hh1
          have z2 := Int.mul_le_mul_of_nonneg_left (c := h) (show -200000000000 ≤ U - P by omega) hh1
          have z3 : h * (-200000000000) = -(h * 200000000000) := Int.mul_neg _ _
          omega
        have j1 : (0 : Int) ≤ (n : Int) := by omega
        have j2 : (n : Int) < (d : Int) + 1 := by omega
        have w1 : IntKind.i64.wrap (U - P) = U - P := by rw [IntKind.wrap_i64]; omega
        have w2 : IntKind.i64.wrap (h * (U - P)) = h * (U - P) := by rw [IntKind.wrap_i64]; omega
        have hlen : (n : Int) < (l.length : Int) := by have := HSO.out.len; omega
        subst hAe
        clear hst hbd hP sk hkn han hU
        go_wp2
        go_region_held3 (fun w' => (w'.cell? ⟨w.heap.size, 0, none⟩ = some (.int .i64 m) ∧ w'.cell? ⟨w.heap.size, 1, none⟩ = some (.slice (some ⟨bA, offA, none⟩) l.length c) ∧ w.heap.size < w'.heap.size) ∧ (w'.cell? ⟨g7, 0, none⟩ = some (.int .i64 m) ∧ w'.cell? ⟨g7, 1, none⟩ = some (.slice (some ⟨gl, 0, none⟩) (d + 1) c7) ∧ g7 < w'.heap.size) ∧ w'.cell? ⟨bA, offA + n, none⟩ = some (.int .i64 U)) (first | exact ⟨⟨x1, x2, x3⟩, ⟨y1, y2, y3⟩, hAc⟩ | exact sq_call (by assumption) (by assumption) | exact (by assumption) | exact sq_set ne1 ne2 ne3 (by assumption)) (first
          | (go_at_call 69; refine (HP.out _ (below_drew0 _)).mono ?_; rintro e w4 ⟨rfl, hb4⟩; have ow5 := OW4.out.keep (below_step (below_drew0 _) hb4); obtain ⟨-, -, o3, o4⟩ := ow5.cells; have ne1 : gl ≠ w.heap.size := (by omega); have ne2 : gl ≠ g7 := fun e => own_ne_var (V4.out.keep (below_step (below_drew0 _) hb4)) ow5 (by rw [e]; rfl); have ne3 : gl ≠ bA := (by omega); have hd1 := o3 n (by omega); have hf1 := o4 n)
          | (go_at_call 51; refine (remainder_big _ _ _ (by omega) m2 (by omega) (by omega)).mono ?_; rintro e w5 ⟨rfl, rfl⟩))
        all_goals
          have ow6 := ow5.set n (h * (U - P) % m)
          rw [HST.out] at ow6
          have v6 := (V4.out.keep (below_step (below_drew0 _) hb4)).far gl n (.int .i64 (h * (U - P) % m)) ne2
          have v7 := (V5.out.keep (below_step (below_drew0 _) hb4)).far gl n (.int .i64 (h * (U - P) % m)) (by omega)
          have b7 := (below_step HB4.out (below_step (below_drew0 _) hb4)).setCell (p := ⟨gl, n, none⟩) (by show w.heap.size ≤ gl; omega) (.int .i64 (h * (U - P) % m))
          have Z1 := Lib.hid ow6
          have Z2 := Lib.hid v6
          have Z3 := Lib.hid v7
          have Z4 := Lib.hid b7
          have Z5 := Lib.hid ((Y4.out.keep (below_step (below_drew0 _) hb4)).set1 gl n (.int .i64 (h * (U - P) % m)) ne1)
          clear ow6 v6 v7 b7 ow5 o3 o4 hb4 hd1 hf1
          go_wp2
          go_roundw
          case rel => exact ⟨n + 1, n, rfl, hlt, by first | rfl | go_num, Z1.out, Z2.out, Z3.out, Z5.out, Z4.out⟩
          case measure => simp only [intOf]; omega
      · have hlt2 : ¬ (n : Int) ≤ (d : Int) := by omega
        obtain rfl : k = d := by omega
        have ow := OW.out
        have OWF := Lib.hid ow
        clear ow hlt
        go_wp2_with fail
        refine (HDG.out _).mono ?_
        rintro e w3 ⟨rfl, hb3⟩
        have v5 := V9.out.keep hb3
        have v4 := V8.out.keep hb3
        have z1 := v4.c0
        have z2 := v4.c1
        have z3 := v5.c0
        have z4 := v5.c1
        have z5 := v5.fz 0
        have z6 := v5.fz 1
        have f2 := (v5.set2 (.int .i64 m) (.slice (some ⟨gl, 0, none⟩) (k + 1) c7))
        have F1 := f2.c0
        have F2 := f2.c1
        have F3 := Lib.hid (((OWF.out.keep hb3).set2 v5 (.int .i64 m) (.slice (some ⟨gl, 0, none⟩) (k + 1) c7)).more (show w.heap.size ≤ W1.heap.size by omega))
        have F4 := Lib.hid (below_set2 (below_step HB.out hb3) (by omega : w.heap.size ≤ w.heap.size + 1) (.int .i64 m) (.slice (some ⟨gl, 0, none⟩) (k + 1) c7))
        unfold set2 at F1 F2 F3 F4
        clear f2 v4 v5 hb3
        go_wp2
        exact bodyPost_ret (v := .agg #[.int .i64 m, .slice (some ⟨gl, 0, none⟩) (k + 1) c7]) (by simp [results, Try.results57, go_sem, F1, F2]) rfl ⟨_, rfl, F3.out, F4.out⟩
/-- the series whose root the law of Euler takes, and this root -/
def eqL (m : Int) (d : Nat) (a e : Int) : List Int := Ser.addL m d (Ser.addL m d (Ser.monL m d 0 1) (Ser.monL m d 2 (-2 * a))) (Ser.monL m d 4 e)
def erL (m : Int) (d : Nat) (a e : Int) : List Int := Ser.rtL m d ((m + 1) / 2) (Ser.co (eqL m d a e)) d
theorem ok_cut {m : Int} {d : Nat} (m1 : 2 ≤ m) (m2 : m ≤ 10000) (d1 : 1 ≤ d) (d2 : d ≤ 10) (f : Nat → Int) : SerOk m d (Ser.cut m d f) := ⟨m1, m2, d1, d2, Ser.cut_length _ _ _, Ser.cut_red (by omega) _ _⟩
set_option maxHeartbeats 4000000 in
set_option maxRecDepth 100000 in
theorem eulerRoot_any (m : Int) (d : Nat) (a e : Int) (w : World) (m1 : 2 ≤ m) (m2 : m ≤ 10000) (d1 : 1 ≤ d) (d2 : d ≤ 10) (a0 : 0 ≤ a) (a1 : a < m) (e0 : 0 ≤ e) (e1 : e < m) :
    Calls Try.prog 36 #[.int .i64 m, .int .i64 d, .int .i64 a, .int .i64 e] w fun x w' => ∃ v, x = .returned (.agg #[.int .i64 m, v]) ∧ OwnI w' w.heap.size v (erL m d a e) ∧ Below w.heap.size w w' := by
  obtain ⟨W, hW, v3, hwb⟩ : ∃ W, w.alloc (.cells #[.int .i64 0, .slice none 0 0] 52) = W ∧ Var2 W w.heap.size (.int .i64 0) (.slice none 0 0) ∧ Below w.heap.size w W := ⟨_, rfl, Var2.new _ _ _, below_one _ _⟩
  have HM1 := Lib.hid (fun W0 => monomial_any m d 0 1 W0 (by omega) m2 (by omega) (by omega) (by omega))
  have HM2 := Lib.hid (fun W0 => monomial_any m d 2 (-2 * a) W0 (by omega) m2 (by omega) (by omega) (by omega))
  have HM3 := Lib.hid (fun W0 => monomial_any m d 4 e W0 (by omega) m2 (by omega) (by omega) (by omega))
  have okc := fun f => ok_cut (m := m) (d := d) m1 m2 d1 d2 f
  have HP := Lib.hid (fun (f g : Nat → Int) (A1 : Option Addr) (c1 : Nat) (A2 : Option Addr) (c2 : Nat) (W0 : World) (h1 : RI W0 A1 (Ser.cut m d f)) (h2 : RI W0 A2 (Ser.cut m d g)) => by
    have := plus_any m d A1 c1 (Ser.cut m d f) m A2 c2 (Ser.cut m d g) W0 (okc f) (okc g) h1 h2
    rw [Ser.cut_length, Ser.cut_length] at this
    exact this)
  have HSQ := Lib.hid (fun (A1 : Option Addr) (c1 : Nat) (W0 : World) (h1 : RI W0 A1 (eqL m d a e)) => by
    have := squareRoot_any m d A1 c1 (eqL m d a e) W0 (okc _) h1
    rw [show (eqL m d a e).length = d + 1 from Ser.cut_length _ _ _] at this
    exact this)
  have hrl : (erL m d a e).length = d + 1 := Ser.rtL_length _ _ _ _ _
  change Hid (∀ (A1 : Option Addr) (c1 : Nat) (W0 : World), RI W0 A1 (eqL m d a e) → Calls Try.prog 57 #[.agg #[.int .i64 m, .slice A1 (d + 1) c1]] W0 fun x w' => ∃ v, x = .returned (.agg #[.int .i64 m, v]) ∧ OwnI w' W0.heap.size v (erL m d a e) ∧ Below W0.heap.size W0 w') at HSQ
  obtain ⟨R, hR⟩ : ∃ R, erL m d a e = R := ⟨_, rfl⟩
  rw [hR] at HSQ hrl ⊢
  have wa : IntKind.i64.wrap (-2 * a) = -2 * a := by rw [IntKind.wrap_i64]; omega
  have V3 := Lib.hid v3
  have HB := Lib.hid hwb
  have HW := Lib.hid hW
  have l0 : ∀ f, (Ser.cut m d f).length = d + 1 := fun f => Ser.cut_length _ _ _
  have HL := Lib.hid l0
  clear v3 hwb hW hR okc l0
  go_enter Try.func36, Try.ntmps36
  go_wp2_with fail
  rw [HW.out]
  refine (HM1.out _).mono ?_
  rintro x wa1 ⟨v, rfl, ho1, hb1⟩
  obtain ⟨A1, c1, rfl, r1⟩ := ho1.form
  rw [HL.out] at ho1 ⊢
  clear ho1
  go_wp2_with fail
  refine (HM2.out _).mono ?_
  rintro x wa2 ⟨v, rfl, ho2, hb2⟩
  obtain ⟨A2, c2, rfl, r2⟩ := ho2.form
  rw [HL.out] at ho2 ⊢
  have r1 := r1.below hb2
  have b2 := below_step hb1 hb2
  clear ho2 hb1 hb2
  go_wp2_with fail
  refine (HP.out _ _ _ _ _ _ _ r1 r2).mono ?_
  rintro x wa3 ⟨v, rfl, ho3, hb3⟩
  obtain ⟨A3, c3, rfl, r3⟩ := ho3.form
  rw [HL.out] at ho3 ⊢
  have b3 := below_step b2 hb3
  clear ho3 r1 r2 hb3 b2
  go_wp2_with fail
  refine (HM3.out _).mono ?_
  rintro x wa4 ⟨v, rfl, ho4, hb4⟩
  obtain ⟨A4, c4, rfl, r4⟩ := ho4.form
  rw [HL.out] at ho4 ⊢
  have r3 := r3.below hb4
  have b4 := below_step b3 hb4
  clear ho4 hb4 b3
  go_wp2_with fail
  refine (HP.out _ _ _ _ _ _ _ r3 r4).mono ?_
  rintro x wa5 ⟨v, rfl, ho5, hb5⟩
  obtain ⟨A5, c5, rfl, r5⟩ := ho5.form
  rw [HL.out] at ho5 ⊢
  have b5 := below_step b4 hb5
  have r5 : RI (wa5.alloc (.cells #[.int .i64 m, .slice A5 (d + 1) c5] 52)) A5 (eqL m d a e) := r5.below (below_one _ _)
  have b6 := below_alloc (.cells #[.int .i64 m, .slice A5 (d + 1) c5] 52) b5
  clear ho5 hb5 b4 r3 r4 b5
  go_wp2_with fail
  refine (HSQ.out _ _ _ r5).mono ?_
  rintro x wa6 ⟨v, rfl, ho6, hb6⟩
  obtain ⟨A6, c6, rfl, -⟩ := ho6.form
  rw [hrl] at ho6 ⊢
  have b7 := below_step b6 hb6
  have hv := V3.out.keep b7
  have z1 := hv.c0
  have z2 := hv.c1
  have z3 := hv.fz 0
  have z4 := hv.fz 1
  have hz := b6.size
  have hz2 := V3.out.lt
  obtain ⟨f0, f1, f2, f3⟩ := fin_var (w := w) hv ho6 (by omega) (Nat.le_refl _) (below_step HB.out b7) (.int .i64 m) (.slice A6 (d + 1) c6)
  have F2 := Lib.hid (OwnI.more (b' := w.heap.size) f2 (by omega))
  have F3 := Lib.hid f3
  clear f2 f3 hv ho6 b7 b6 hb6 r5
  go_wp2
  exact bodyPost_ret (v := .agg #[.int .i64 m, .slice A6 (d + 1) c6]) (by simp [results, Try.results36, go_sem, f0, f1]) rfl ⟨_, rfl, F2.out, F3.out⟩
end Go.Proofs.Ytilfjhnkjdfcoaa

/- Contracts of MultiplyPlanes, of the program and of the model. -/
namespace Go.Proofs.Ytilfjhnkjdfcoaa
open Go.RowKit Go.WideShapes Go.ChangeShapes Go.ChangeAt

set_option maxHeartbeats 16000000 in
set_option maxRecDepth 100000 in
theorem l03Times_any (m : Int) (d : Nat) (A : Option Addr) (c : Nat) (t : List (List Int)) (A' : Option Addr) (c' : Nat) (t' : List (List Int)) (w : World) (hs : Pl.Ok m d t) (hs' : Pl.Ok m d t') (hr : RP w A t) (hr' : RP w A' t') :
    Calls Try.prog 53 #[.int .i64 m, .slice A t.length c, .slice A' t'.length c'] w fun e w' => ∃ v, e = .returned v ∧ OwnR w' w.heap.size w'.heap.size v (Pl.tab m d (Pl.mul2 (Pl.pc t) (Pl.pc t'))) ∧ Below w.heap.size w w' := by
  have HR := Lib.hid hr
  have HR' := Lib.hid hr'
  have HS := Lib.hid hs
  have HS' := Lib.hid hs'
  have hd2 := hs.d2
  have m1 := hs.m1
  have m2 := hs.m2
  have hm0 : ¬ m = 0 := by omega
  have HZ := Lib.hid (l03Zero_any m d w (by omega))
  obtain ⟨L, hL⟩ : ∃ L, t.length = L := ⟨_, rfl⟩
  obtain ⟨L', hL'⟩ : ∃ L, t'.length = L := ⟨_, rfl⟩
  have HL := Lib.hid (hL.symm.trans hs.len)
  have HL' := Lib.hid (hL'.symm.trans hs'.len)
  have hLd : (L : Int) - 1 = (d : Int) := by have := hs.len; omega
  have hLb : L ≤ 11 := by have := hs.len; omega
  rw [hL, hL']
  clear hr hr' hs hs' hL hL'
  go_enter Try.func53, Try.ntmps53
  go_wp2_with fail
  refine HZ.out.mono ?_
  rintro e w1 ⟨v, rfl, ho, hb⟩
  rw [← Pl.S2_tab_zero m d (Pl.pc t) (Pl.pc t')] at ho
  obtain ⟨g, cv, rfl⟩ := ho.openv (by rw [Pl.tab_length]; omega)
  rw [Pl.tab_length] at ho ⊢
  have HO1 := Lib.hid ho
  have HB1 := Lib.hid hb
  clear ho hb
  go_wp2
  go_loopw [9] (fun i wr => ∃ i0 : Nat, i0 ≤ L ∧ i = .int .i64 i0 ∧ OwnR wr w.heap.size wr.heap.size (.slice (some ⟨g, 0, none⟩) (d + 1) cv) (Pl.tab m d (Pl.S2 d (Pl.pc t) (Pl.pc t') i0 0)) ∧ Below w.heap.size w wr) (fun i _ => L - (intOf i).toNat)
  case atStart => exact ⟨0, Nat.zero_le _, rfl, HO1.out, HB1.out⟩
  case round =>
    clear HO1 HB1
    obtain ⟨i, hi, rfl, hown, hbel⟩ := hrel
    have HB := Lib.hid hbel
    have HO := Lib.hid hown
    clear hown hbel
    by_cases hlt : i < L
    · have i1 : (i : Int) < (L : Int) := by omega
      go_wp2
      go_loopw [10] (fun j wr => ∃ j0 : Nat, i + j0 ≤ L ∧ j = .int .i64 j0 ∧ OwnR wr w.heap.size wr.heap.size (.slice (some ⟨g, 0, none⟩) (d + 1) cv) (Pl.tab m d (Pl.S2 d (Pl.pc t) (Pl.pc t') i j0)) ∧ Below w.heap.size w wr) (fun j _ => L - (intOf j).toNat)
      case atStart => exact ⟨0, by omega, rfl, HO.out, HB.out⟩
      case round =>
        clear HO HB
        obtain ⟨j, hj, rfl, hown, hbel⟩ := hrel
        have HB := Lib.hid hbel
        have HO := Lib.hid hown
        have hLd' := HL.out
        by_cases hjt : i + j < L
        · obtain ⟨ba, offa, bi, offi, ci, rfl, hba, ka1, hbi, ka2⟩ := HR.out.num i j (by rw [HS.out.len]; omega) (by rw [HS.out.row i (by omega)]; omega)
          rw [HS.out.row i (by omega)] at ka1
          obtain ⟨N, hN⟩ : ∃ N, d - i + 1 = N := ⟨_, rfl⟩
          rw [hN] at ka1
          have r1 := HS.out.pc i j
          have hskip := Pl.S2_skip m d (Pl.pc t) (Pl.pc t') i j
          obtain ⟨X, hX⟩ : ∃ X, Pl.pc t i j = X := ⟨_, rfl⟩
          have HX := Lib.hid hX
          rw [hX] at ka2 r1 hskip
          have KA1 := Lib.hid ka1
          have KA2 := Lib.hid ka2
          have a1 := (hbel.cell (p := ⟨ba, offa + i, none⟩) hba).trans ka1
          have a2 := (hbel.cell (p := ⟨bi, offi + j, none⟩) hbi).trans ka2
          obtain ⟨r1, r2⟩ := r1
          have j0 : (0 : Int) ≤ (i : Int) := by omega
          have j1 : (0 : Int) ≤ (j : Int) := by omega
          have j2 : (i : Int) + (j : Int) < (L : Int) := by omega
          have j3 : (j : Int) < (N : Int) := by omega
          clear hX ka1 ka2 hown hbel hN hLd'
          by_cases hX0 : X = 0
          · have HSK := Lib.hid (hskip hX0)
            subst hX0
            clear hskip
            go_wp2
            go_roundw
            case rel => exact ⟨j + 1, by omega, by go_num, by rw [← HSK.out]; exact HO.out, HB.out⟩
            case measure => simp only [intOf]; omega
          · obtain ⟨n1, n2⟩ := ne_facts hX0
            clear hskip
            have ho := HO.out
            rw [← Pl.T2_tab_zero] at ho
            have HO2 := Lib.hid ho
            clear ho HO
            go_wp2
            go_loopw [11] (fun k wr => ∃ k0 : Nat, i + j + k0 ≤ L ∧ k = .int .i64 k0 ∧ OwnR wr w.heap.size wr.heap.size (.slice (some ⟨g, 0, none⟩) (d + 1) cv) (Pl.tab m d (Pl.T2 d (Pl.pc t) (Pl.pc t') i j k0 0)) ∧ Below w.heap.size w wr) (fun k _ => L - (intOf k).toNat)
            case atStart => exact ⟨0, by omega, rfl, HO2.out, HB.out⟩
            case round =>
              clear HO2 HB a1 a2
              obtain ⟨k, hk, rfl, hown, hbel⟩ := hrel
              have HB := Lib.hid hbel
              have HO := Lib.hid hown
              have hLd' := HL.out
              by_cases hkt : i + j + k < L
              · obtain ⟨bb, offb, A2, ck, rfl, hbb, kb1, -, hri⟩ := HR'.out.at k (by rw [HS'.out.len]; omega)
                obtain ⟨bk, offk, rfl, -⟩ := hri.at 0 (by rw [HS'.out.row k (by omega)]; omega)
                have HRI := Lib.hid hri
                rw [HS'.out.row k (by omega)] at kb1
                obtain ⟨M, hM⟩ : ∃ M, d - k + 1 = M := ⟨_, rfl⟩
                rw [hM] at kb1
                have b1 := (hbel.cell (p := ⟨bb, offb + k, none⟩) hbb).trans kb1
                obtain ⟨br, cr, g1, g2, g3, g4, hcel⟩ := HO.out.numB (i + k) j (d - (i + k) + 1) (by rw [Pl.tab_length]; omega) (by rw [Pl.tab_row m d _ (i + k) (by omega), Ser.cut_length]) (by omega)
                obtain ⟨c4, -⟩ := hcel wr (Below.refl _ _)
                obtain ⟨Q, hQ⟩ : ∃ Q, d - (i + k) + 1 = Q := ⟨_, rfl⟩
                rw [hQ] at c4
                obtain ⟨s, hsik⟩ : ∃ s, i + k = s := ⟨_, rfl⟩
                rw [hsik] at c4
                have q1 : (i : Int) + (k : Int) = (s : Int) := by omega
                have q2 : (s : Int) < (d : Int) + 1 := by omega
                have q3 : (0 : Int) ≤ (s : Int) := by omega
                have q4 : (0 : Int) ≤ (k : Int) := by omega
                have q5 : (k : Int) < (L' : Int) := by have := HL'.out; omega
                have q6 : (i : Int) + (j : Int) + (k : Int) < (L : Int) := by omega
                have HQ := Lib.hid hQ
                have HMM := Lib.hid hM
                have HIK := Lib.hid hsik
                clear hown hbel hcel hQ hM hsik kb1 hLd' hri
                go_wp2
                go_quiet (fail)
                go_wp2
                go_loopw [14] (fun l wr => ∃ l0 : Nat, i + j + k + l0 ≤ L ∧ l = .int .i64 l0 ∧ OwnR wr w.heap.size wr.heap.size (.slice (some ⟨g, 0, none⟩) (d + 1) cv) (Pl.tab m d (Pl.T2 d (Pl.pc t) (Pl.pc t') i j k l0)) ∧ wr.cell? ⟨g, s, none⟩ = some (.slice (some ⟨br, 0, none⟩) Q cr) ∧ Below w.heap.size w wr) (fun l _ => L - (intOf l).toNat)
                case atStart => exact ⟨0, by omega, rfl, HO.out.keep (below_drewN (Below.refl _ _) _), c4, below_drewN HB.out _⟩
                case round =>
                  clear HO HB c4 b1
                  obtain ⟨l, hl, rfl, hown, hc4, hbel⟩ := hrel
                  have HB := Lib.hid hbel
                  have HO := Lib.hid hown
                  have HC4 := Lib.hid hc4
                  have hLd' := HL.out
                  by_cases hlt4 : i + j + k + l < L
                  · obtain ⟨b3, o3, e3, hb3, kc⟩ := HRI.out.at l (by rw [HS'.out.row k (by omega)]; omega)
                    injection e3 with e3
                    injection e3 with e3a e3b
                    subst e3a e3b
                    have a1 := (hbel.cell (p := ⟨ba, offa + i, none⟩) hba).trans KA1.out
                    have a2 := (hbel.cell (p := ⟨bi, offi + j, none⟩) hbi).trans KA2.out
                    have b2 := (hbel.cell (p := ⟨bk, offk + l, none⟩) hb3).trans kc
                    change wr.cell? _ = some (.int .i64 (Pl.pc t' k l)) at b2
                    obtain ⟨b4, c3, h1, h2, h3, h4, hcel⟩ := HO.out.numB (i + k) (j + l) (d - (i + k) + 1) (by rw [Pl.tab_length]; omega) (by rw [Pl.tab_row m d _ (i + k) (by omega), Ser.cut_length]) (by omega)
                    obtain ⟨c4, c5, c6, c7⟩ := hcel wr.drew (below_drew0 wr)
                    have hst := Pl.T2_step m d (Pl.pc t) (Pl.pc t') i j k l (by omega)
                    have hzb := (HS.out.tab (Pl.T2 d (Pl.pc t) (Pl.pc t') i j k l)).pc (i + k) (j + l)
                    have hyb := HS'.out.pc k l
                    obtain ⟨u, hu⟩ : ∃ u, j + l = u := ⟨_, rfl⟩
                    rw [HQ.out, HIK.out] at c4
                    rw [HIK.out] at hst hzb c5 c7
                    rw [hu] at hst hzb c5 c6 c7
                    obtain ⟨Z, hZ⟩ : ∃ Z, Pl.pc (Pl.tab m d (Pl.T2 d (Pl.pc t) (Pl.pc t') i j k l)) s u = Z := ⟨_, rfl⟩
                    obtain ⟨Y, hY⟩ : ∃ Y, Pl.pc t' k l = Y := ⟨_, rfl⟩
                    rw [hZ] at hst hzb c5
                    rw [hY] at hst hyb b2
                    rw [HX.out] at hst
                    have e4 : some (Value.slice (some ⟨br, 0, none⟩) Q cr) = some (Value.slice (some ⟨b4, 0, none⟩) Q c3) := hc4.symm.trans c4
                    injection e4 with e4
                    injection e4 with e4a e4b e4c
                    injection e4a with e4a
                    injection e4a with e4a
                    subst e4a e4c
                    have h8 := c7 ((Z + X * Y) % m)
                    rw [hst] at h8
                    have hpr := Pl.prod_bd r1 (by omega) hyb.1 (by omega)
                    have HO2 := Lib.hid (h8.more (show wr.heap.size ≤ (wr.drew.setCell ⟨br, u, none⟩ (.int .i64 ((Z + X * Y) % m))).heap.size by show wr.heap.size ≤ (wr.heap.modify _ _).size; simp))
                    have HB2 := Lib.hid (hbel.drew.setCell (p := ⟨br, u, none⟩) g2 (.int .i64 ((Z + X * Y) % m)))
                    have HC5 : Hid ((wr.drew.setCell ⟨br, u, none⟩ (.int .i64 ((Z + X * Y) % m))).cell? ⟨g, s, none⟩ = some (.slice (some ⟨br, 0, none⟩) Q cr)) :=
                      Lib.hid ((World.cell?_of_block (w := wr.drew) (Below.heap_setCell wr.drew ⟨br, u, none⟩ _ g (fun e => g4 e.symm))).trans hc4)
                    have p1 : IntKind.i64.wrap (X * Y) = X * Y := by rw [IntKind.wrap_i64]; omega
                    have p2 : IntKind.i64.wrap (Z + X * Y) = Z + X * Y := by rw [IntKind.wrap_i64]; omega
                    have p3 : 0 ≤ Z + X * Y := by omega
                    have p5 : (0 : Int) ≤ (j : Int) + (l : Int) := by omega
                    have p6 : (j : Int) + (l : Int) < (Q : Int) := by have := HQ.out; have := HIK.out; omega
                    have p7 : (0 : Int) ≤ (l : Int) := by omega
                    have p8 : (l : Int) < (M : Int) := by have := HMM.out; omega
                    have p9 : (i : Int) + (j : Int) + (k : Int) + (l : Int) < (L : Int) := by omega
                    have p10 : IntKind.i64.wrap ((j : Int) + (l : Int)) = (j : Int) + (l : Int) := by rw [IntKind.wrap_i64]; omega
                    have p11 : ((j : Int) + (l : Int)).toNat = u := by omega
                    clear hcel c4 c7 h8 hst hzb hyb hZ hY hown hbel hc4 hLd' kc hpr hu e4b h1 h2 h3 h4
                    go_wp2
                    go_still_tail 26, (by kernel_rfl)
                    change wpList _ _ _ _ _ wr.drew
                    go_wp2
                    go_roundw
                    case rel => exact ⟨l + 1, by omega, by go_num, HO2.out, HC5.out, HB2.out⟩
                    case measure => simp only [intOf]; omega
                  · have hlL : i + j + k + l = L := by omega
                    have ho := HO.out
                    rw [Pl.T2_rowend m d _ _ i j k l (by omega)] at ho
                    have HO2 := Lib.hid ho
                    have p9 : ¬ ((i : Int) + (j : Int) + (k : Int) + (l : Int) < (L : Int)) := by omega
                    clear hown hbel hc4 hLd' ho hlL
                    go_wp2
                    go_roundw
                    case rel => exact ⟨k + 1, by omega, by go_num, HO2.out, HB.out⟩
                    case measure => simp only [intOf]; omega
              · have hkL : i + j + k = L := by omega
                have ho := HO.out
                rw [Pl.T2_end m d _ _ i j k (by omega)] at ho
                have HO2 := Lib.hid ho
                have p9 : ¬ ((i : Int) + (j : Int) + (k : Int) < (L : Int)) := by omega
                clear hown hbel hLd' ho hkL
                go_wp2
                go_roundw
                case rel => exact ⟨j + 1, by omega, by go_num, HO2.out, HB.out⟩
                case measure => simp only [intOf]; omega
        · have hjL : i + j = d + 1 := by omega
          have ho := HO.out
          rw [Pl.S2_next m d _ _ i j hjL] at ho
          have HO2 := Lib.hid ho
          have p9 : ¬ ((i : Int) + (j : Int) < (L : Int)) := by omega
          clear hown hbel hLd' ho hjL
          go_wp2
          go_roundw
          case rel => exact ⟨i + 1, by omega, by go_num, HO2.out, HB.out⟩
          case measure => simp only [intOf]; omega
    · obtain rfl : i = d + 1 := by have := HL.out; omega
      have ho := HO.out
      rw [Pl.S2_last] at ho
      have HF := Lib.hid ho
      clear ho
      go_wp2
      go_ret
      exact ⟨_, rfl, HF.out, HB.out⟩
end Go.Proofs.Ytilfjhnkjdfcoaa

