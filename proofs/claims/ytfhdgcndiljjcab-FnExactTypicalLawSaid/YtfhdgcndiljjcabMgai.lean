/- Texts of contracts, joined. -/
import Derived.Test.YtfhdgcndiljjcabMgah
import Derived.Test.YtfhdgcndiljjcabMgab
import Derived.WalkSpells
import Derived.Test.YtfhdgcndiljjcabMgac
import Derived.StillTailTactics
import Derived.Test.YtfhdgcndiljjcabMgaa
import Derived.ProofKit
import Derived.OpenShut
import Derived.ChangeSame
import Derived.Deep.DeepCutAuto
import Derived.Test.YtfhdgcndiljjcabMgag
/- Contracts of IsLaw and LawFault, of the program. -/
namespace Go.Proofs.Ytfhdgcndiljjcab
open Go.RowKit Go.WideShapes Go.ChangeShapes Go.ChangeAt

/-- a table is a law's -/
def isL (m : Int) (t : List (List Int)) : Bool := isP m t && (Pl.fau m (t.length - 1) (Pl.pc t)).isNone
theorem isL_no {m : Int} {t : List (List Int)} (h : isP m t = false) : isL m t = false := by unfold isL; rw [h]; rfl
theorem isL_fau {m : Int} {t : List (List Int)} {d : Nat} (h : isP m t = true) (e : t.length = d + 1) : isL m t = (Pl.fau m d (Pl.pc t)).isNone := by
  unfold isL; rw [h, e]; rfl
theorem isL_of {m : Int} {t : List (List Int)} (h : isL m t = true) : isP m t = true ∧ ∃ d, t.length = d + 1 ∧ Pl.Ok m d t ∧ Pl.fau m d (Pl.pc t) = none := by
  unfold isL at h
  rw [Bool.and_eq_true] at h
  obtain ⟨h1, h2⟩ := h
  obtain ⟨d, e, ok⟩ := plOk_of h1
  refine ⟨h1, d, e, ok, ?_⟩
  rw [e] at h2
  simpa using h2
/-- the model of LawFault -/
def faultL (m : Int) (t : List (List Int)) : List Int × Int := if isP m t = true then (match Pl.fau m (t.length - 1) (Pl.pc t) with | none => ([], 4) | some x => (x, 0)) else ([], 1)
theorem fau_len {m : Int} {d : Nat} {F : Nat → Nat → Int} {x : List Int} (h : Pl.fau m d F = some x) : 0 < x.length ∧ x.length ≤ 4 := by
  have key : ∀ (p : Nat → Option (List Int)) (q : List Int → Prop), (∀ i y, p i = some y → q y) → ∀ n k y, Pl.srch p n k = some y → q y := by
    intro p q hp n
    induction n with
    | zero => intro k y hy; exact absurd hy (by simp [Pl.srch])
    | succ n ih =>
      intro k y hy
      rw [Pl.srch_step] at hy
      cases hc : p k with
      | none => rw [hc] at hy; exact ih (k + 1) y hy
      | some z => rw [hc] at hy; injection hy with hy; subst hy; exact hp k z hc
  unfold Pl.fau at h
  cases h1 : Pl.fauP d F with
  | some y =>
    rw [h1] at h; injection h with h; subst h
    exact key _ (fun y => 0 < y.length ∧ y.length ≤ 4) (fun i y hy => by
      unfold Pl.fau0 at hy
      split at hy
      · cases hy
      · injection hy with hy; subst hy; simp) _ _ _ h1
  | none =>
    rw [h1, Pl.orE_none] at h
    cases h2 : Pl.fauS d F with
    | some y =>
      rw [h2] at h; injection h with h; subst h
      exact key _ (fun y => 0 < y.length ∧ y.length ≤ 4) (fun i y hy => key _ (fun y => 0 < y.length ∧ y.length ≤ 4) (fun j z hz => by
        unfold Pl.fau1j at hz
        split at hz
        · cases hz
        · injection hz with hz; subst hz; simp) _ _ _ hy) _ _ _ h2
    | none =>
      rw [h2, Pl.orE_none] at h
      exact key _ (fun y => 0 < y.length ∧ y.length ≤ 4) (fun i y hy => key _ (fun y => 0 < y.length ∧ y.length ≤ 4) (fun j z hz => key _ (fun y => 0 < y.length ∧ y.length ≤ 4) (fun l u hu => by
        unfold Pl.fau2c at hu
        split at hu
        · cases hu
        · injection hu with hu; subst hu; simp) _ _ _ hz) _ _ _ hy) _ _ _ h
theorem faultL_len (m : Int) (t : List (List Int)) : (faultL m t).1.length ≤ 1048576 := by
  unfold faultL
  split
  · split
    · simp
    · rename_i x h
      have := (fau_len h).2
      dsimp only
      omega
  · simp
end Go.Proofs.Ytfhdgcndiljjcab

/- Contracts of the codes of a plane and one series, of the program and of the model. -/
namespace Go.Proofs.Ytfhdgcndiljjcab
open Go.RowKit Go.WideShapes Go.ChangeShapes Go.ChangeAt

/-- the code of a plane and one series -/
def codePS (m : Int) (t : List (List Int)) (m' : Int) (l : List Int) : Int := if isP m t = true ∧ isS m' l = true then (if m' = m ∧ l.length = t.length then 0 else 2) else 1
theorem codePS_ok {m : Int} {t : List (List Int)} {m' : Int} {l : List Int} (h : codePS m t m' l = 0) : m' = m ∧ ∃ d, t.length = d + 1 ∧ l.length = d + 1 ∧ Pl.Ok m d t ∧ SerOk m d l := by
  unfold codePS at h
  by_cases h1 : isP m t = true ∧ isS m' l = true
  · rw [if_pos h1] at h
    by_cases h2 : m' = m ∧ l.length = t.length
    · obtain ⟨rfl, h2⟩ := h2
      obtain ⟨d, e, s⟩ := plOk_of h1.1
      obtain ⟨d', e', s'⟩ := serOk_of h1.2
      obtain rfl : d' = d := by omega
      exact ⟨rfl, d', e, e', s, s'⟩
    · rw [if_neg h2] at h; exact absurd h (by decide)
  · rw [if_neg h1] at h; exact absurd h (by decide)
end Go.Proofs.Ytfhdgcndiljjcab

/- Lists of series that a call takes: where they lie; contracts of the codes of a plane and such a list, of the program and of the model. -/
namespace Go.Proofs.Ytfhdgcndiljjcab
open Go.RowKit Go.WideShapes Go.ChangeShapes Go.ChangeAt

/-- block g holds series, one after the other: modulus, address, capacity, numbers -/
def SL (w : World) (g : Nat) (xs : List (Int × Option Addr × Nat × List Int)) : Prop :=
  g < w.heap.size ∧ ∀ k m A c l, xs[k]? = some (m, A, c, l) → w.cell? ⟨g, k * 2, none⟩ = some (.int .i64 m) ∧ w.cell? ⟨g, k * 2 + 1, none⟩ = some (.slice A l.length c) ∧ RI w A l ∧ l.length ≤ 1048576
theorem SL.keep {w w' : World} {g : Nat} {xs : List (Int × Option Addr × Nat × List Int)} (h : SL w g xs) (hb : Below w.heap.size w w') : SL w' g xs :=
  ⟨Nat.lt_of_lt_of_le h.1 hb.size, fun k m A c l hx => by
    obtain ⟨a, b, r, z⟩ := h.2 k m A c l hx
    exact ⟨(hb.cell (p := ⟨g, k * 2, none⟩) h.1).trans a, (hb.cell (p := ⟨g, k * 2 + 1, none⟩) h.1).trans b, r.below hb, z⟩⟩
theorem SL.one {w : World} {g : Nat} {m : Int} {A : Option Addr} {c : Nat} {l : List Int} (hx : Box w g m A l.length c) (hr : RI w A l) (hl : l.length ≤ 1048576) : SL w g [(m, A, c, l)] :=
  ⟨hx.2.2, fun k m' A' c' l' h => by
    match k, h with
    | 0, h =>
      simp at h
      obtain ⟨rfl, rfl, rfl, rfl⟩ := h
      exact ⟨hx.1, hx.2.1, hr, hl⟩⟩
theorem SL.two {w : World} {g : Nat} {m : Int} {A : Option Addr} {c : Nat} {l : List Int} {m' : Int} {A' : Option Addr} {c' : Nat} {l' : List Int} (hx : Box4 w g m A l.length c m' A' l'.length c') (hr : RI w A l) (hr' : RI w A' l') (hl : l.length ≤ 1048576) (hl' : l'.length ≤ 1048576) :
    SL w g [(m, A, c, l), (m', A', c', l')] :=
  ⟨hx.1.2.2, fun k m0 A0 c0 l0 h => by
    match k, h with
    | 0, h =>
      simp at h
      obtain ⟨rfl, rfl, rfl, rfl⟩ := h
      exact ⟨hx.1.1, hx.1.2.1, hr, hl⟩
    | 1, h =>
      simp at h
      obtain ⟨rfl, rfl, rfl, rfl⟩ := h
      exact ⟨hx.2.1, hx.2.2, hr', hl'⟩⟩
def allS (xs : List (Int × Option Addr × Nat × List Int)) : Bool := xs.all fun x => isS x.1 x.2.2.2
def alkS (m : Int) (n : Nat) (xs : List (Int × Option Addr × Nat × List Int)) : Bool := xs.all fun x => decide (x.1 = m ∧ x.2.2.2.length = n)
def curS (xs : List (Int × Option Addr × Nat × List Int)) : Bool := xs.all fun x => isC x.1 x.2.2.2
/-- the code of something (ok: it is what it should be) and a list of series -/
def codeL (ok : Bool) (m : Int) (n : Nat) (xs : List (Int × Option Addr × Nat × List Int)) : Int := if ok = true ∧ allS xs = true then (if alkS m n xs = true then 0 else 2) else 1
theorem and_t {a b : Bool} (h : a = true) (k : b = true) : (a && b) = true := by rw [h, k]; rfl
theorem all_take {α : Type} (f : α → Bool) (xs : List α) (k : Nat) (x : α) (h : xs[k]? = some x) : (xs.take (k + 1)).all f = ((xs.take k).all f && f x) := by
  have hk := (List.getElem?_eq_some_iff.1 h).1
  rw [List.take_add_one, h, List.all_append]; simp
theorem all_bad {α : Type} (f : α → Bool) (xs : List α) (k : Nat) (x : α) (h : xs[k]? = some x) (hf : f x = false) : xs.all f = false := by
  rw [List.all_eq_false]
  exact ⟨x, List.mem_of_getElem? h, by simp [hf]⟩
theorem all_whole {α : Type} (f : α → Bool) (xs : List α) (k : Nat) (h : xs.length ≤ k) : (xs.take k).all f = xs.all f := by rw [List.take_of_length_le h]
theorem all_isS {xs : List (Int × Option Addr × Nat × List Int)} (h : allS xs = true) {k : Nat} {m : Int} {A : Option Addr} {c : Nat} {l : List Int} (hx : xs[k]? = some (m, A, c, l)) : isS m l = true :=
  (List.all_eq_true.1 h) _ (List.mem_of_getElem? hx)
/-- with the look at curves behind it -/
def codeLC (ok : Bool) (m : Int) (n : Nat) (xs : List (Int × Option Addr × Nat × List Int)) : Int := if codeL ok m n xs = 0 then (if curS xs = true then 0 else 5) else codeL ok m n xs
end Go.Proofs.Ytfhdgcndiljjcab

/- Contract of the model's product of lists. -/
namespace Go.Proofs.Ytfhdgcndiljjcab
open Go.RowKit Go.WideShapes Go.ChangeShapes Go.ChangeAt

theorem timS_red {m : Int} (hm : 0 < m) (d : Nat) (a b : Nat → Int) (i : Nat) : Ser.Red m (Ser.timS m d a b i) := Ser.cut_red hm _ _
theorem timP_red {m : Int} (hm : 0 < m) (d : Nat) (a b : Nat → Int) (i k : Nat) : Ser.Red m (Ser.timP m d a b i k) := Ser.cut_red hm _ _

theorem timP_null (m : Int) (d : Nat) (a b : Nat → Int) (i k : Nat) (h : a i = 0) : Ser.timP m d a b i k = Ser.timS m d a b (i + 1) := by
  unfold Ser.timP Ser.timS
  refine Ser.cut_congr (Ser.Eq.of m d (fun n hn => ?_))
  rw [Ser.psum]
  unfold Ser.tr
  rw [h]
  simp
end Go.Proofs.Ytfhdgcndiljjcab

/- Contracts of AddSeries, of the program. -/
namespace Go.Proofs.Ytfhdgcndiljjcab
open Go.RowKit Go.WideShapes Go.ChangeShapes Go.ChangeAt

theorem code2_iff {m : Int} {l : List Int} {m' : Int} {l' : List Int} (h : code2 m l m' l' = 0) : isS m l = true ∧ isS m' l' = true ∧ m = m' ∧ l.length = l'.length := by
  unfold code2 at h
  by_cases h1 : isS m l = true ∧ isS m' l' = true
  · rw [if_pos h1] at h
    by_cases h2 : m = m' ∧ l.length = l'.length
    · exact ⟨h1.1, h1.2, h2.1, h2.2⟩
    · rw [if_neg h2] at h; exact absurd h (by decide)
  · rw [if_neg h1] at h; exact absurd h (by decide)
theorem code2_ok {m : Int} {l : List Int} {m' : Int} {l' : List Int} (h : code2 m l m' l' = 0) : m = m' ∧ ∃ d, l.length = d + 1 ∧ l'.length = d + 1 ∧ SerOk m d l ∧ SerOk m d l' := by
  obtain ⟨h1, h2, rfl, h4⟩ := code2_iff h
  obtain ⟨d, e1, s1⟩ := serOk_of h1
  obtain ⟨d', e2, s2⟩ := serOk_of h2
  obtain rfl : d = d' := by omega
  exact ⟨rfl, d, e1, e2, s1, s2⟩

/-- a function of two series that are alike -/
def twoM (f : Int → Nat → List Int → List Int → List Int) (m : Int) (l : List Int) (m' : Int) (l' : List Int) : Int × List Int × Int :=
  if code2 m l m' l' = 0 then (m, f m (l.length - 1) l l', 0) else (0, [], code2 m l m' l')
def addL (m : Int) (d : Nat) (l l' : List Int) : List Int := Ser.cut m d fun n => Ser.co l n + Ser.co l' n
/-- the world behind both boxes, the result's variable and the list of both -/
theorem box4_new (w : World) (m m' : Int) (A A' : Option Addr) (n c n' c' : Nat) (W : World) (hW : ((((w.alloc (.cells #[.int .i64 m, .slice A n c] 62)).alloc (.cells #[.int .i64 m', .slice A' n' c'] 62)).alloc (.cells #[.int .i64 0, .slice none 0 0] 62)).alloc (.cells #[.int .i64 m, .slice A n c, .int .i64 m', .slice A' n' c'] 62)) = W) :
    Box W w.heap.size m A n c ∧ Box W (w.heap.size + 1) m' A' n' c' ∧ Var2 W (w.heap.size + 1 + 1) (.int .i64 0) (.slice none 0 0) ∧ Box4 W (w.heap.size + 1 + 1 + 1) m A n c m' A' n' c' ∧ Below w.heap.size w W := by
  obtain ⟨W0, hW0⟩ : ∃ W0, (((w.alloc (.cells #[.int .i64 m, .slice A n c] 62)).alloc (.cells #[.int .i64 m', .slice A' n' c'] 62)).alloc (.cells #[.int .i64 0, .slice none 0 0] 62)) = W0 := ⟨_, rfl⟩
  obtain ⟨h1, h2, h3, h4⟩ := box3_new w m m' A A' n c n' c' W0 hW0
  have hs : W0.heap.size = w.heap.size + 1 + 1 + 1 := by rw [← hW0]; simp
  rw [hW0] at hW
  subst hW
  refine ⟨h1.keep (below_one _ _), h2.keep (below_one _ _), h3.keep (below_one _ _), ?_, below_alloc _ h4⟩
  rw [← hs]
  exact Box4.new _ _ _ _ _ _ _ _ _

theorem OwnI.nil' (w : World) (base : Nat) : OwnI w base (.slice none 0 0) [] := OwnI.nil w base

end Go.Proofs.Ytfhdgcndiljjcab

/- Contracts of the model's functions that look at series and make them. -/
namespace Go.Proofs.Ytfhdgcndiljjcab
open Go.RowKit Go.WideShapes Go.ChangeShapes Go.ChangeAt

end Go.Proofs.Ytfhdgcndiljjcab

/- Contracts of MultiplySeries, of the program and of the model. -/
namespace Go.Proofs.Ytfhdgcndiljjcab
open Go.RowKit Go.WideShapes Go.ChangeShapes Go.ChangeAt

set_option maxHeartbeats 1000000 in
theorem timesC_any (n : Nat) (g g' : Nat) (m : Int) (d : Nat) (A : Option Addr) (c : Nat) (l : List Int) (m' : Int) (A' : Option Addr) (c' : Nat) (l' : List Int) (W : World)
    (hb : Box W g m A l.length c) (hb' : Box W g' m' A' l'.length c') (hs : SerOk m d l) (hs' : SerOk m d l') (hr : RI W A l) (hr' : RI W A' l') (hn : n ≤ d) :
    Calls Try.prog 91 #[.int .i64 n, .pointer (some ⟨g, 0, none⟩), .pointer (some ⟨g', 0, none⟩)] W fun e w' => e = .returned (.int .i64 (Ser.cv n (Ser.co l) (Ser.co l'))) ∧ Below W.heap.size W w' := by
  obtain ⟨x1, x2, _⟩ := hb
  obtain ⟨y1, y2, _⟩ := hb'
  have HP := Lib.hid (productAt_any m d n A c l m' A' c' l' W hs hs' hr hr' hn)
  clear hs hs' hr hr'
  go_enter Try.func91, Try.ntmps91
  go_wp2_with fail
  refine HP.out.mono ?_
  rintro e w1 ⟨rfl, hb1⟩
  go_wp2
  go_ret
  exact ⟨rfl, hb1⟩

theorem psum_bd (f : Nat → Int) (B : Int) (hf : ∀ i, 0 ≤ f i ∧ f i ≤ B) : ∀ n : Nat, 0 ≤ Ser.psum f n ∧ Ser.psum f n ≤ n * B := by
  intro n
  induction n with
  | zero => simp [Ser.psum]
  | succ n ih =>
    have := hf n
    have e : ((n + 1 : Nat) : Int) * B = n * B + B := by rw [show ((n + 1 : Nat) : Int) = (n : Int) + 1 by omega, Int.add_mul, Int.one_mul]
    rw [Ser.psum, e]
    omega
theorem cv_bd {m : Int} {l l' : List Int} (m2 : m ≤ 10000) (h : Ser.Red m l) (h' : Ser.Red m l') (n : Nat) (hn : n ≤ 1000) : 0 ≤ Ser.cv n (Ser.co l) (Ser.co l') ∧ Ser.cv n (Ser.co l) (Ser.co l') ≤ 100100000000 := by
  rw [Ser.cv_psum]
  have := psum_bd (fun i => Ser.co l i * Ser.co l' (n - i)) 100000000 (fun i => by
    have h1 := h i
    have h2 := h' (n - i)
    exact ⟨Int.mul_nonneg h1.1 h2.1, (mul_bd h1.1 (by omega) (by omega) (by omega)).2⟩) (n + 1)
  refine ⟨this.1, Int.le_trans this.2 ?_⟩
  omega

set_option maxHeartbeats 2000000 in
set_option maxRecDepth 100000 in
theorem times_any (m : Int) (d : Nat) (A : Option Addr) (c : Nat) (l : List Int) (m' : Int) (A' : Option Addr) (c' : Nat) (l' : List Int) (w : World) (hs : SerOk m d l) (hs' : SerOk m d l') (hr : RI w A l) (hr' : RI w A' l') :
    Calls Try.prog 86 #[.agg #[.int .i64 m, .slice A l.length c], .agg #[.int .i64 m', .slice A' l'.length c']] w fun e w' => ∃ v, e = .returned (.agg #[.int .i64 m, v]) ∧ OwnI w' w.heap.size v (Ser.mulL m d l l') ∧ Below w.heap.size w w' := by
  obtain ⟨W, hW⟩ : ∃ W, (((w.alloc (.cells #[.int .i64 m, .slice A l.length c] 62)).alloc (.cells #[.int .i64 m', .slice A' l'.length c'] 62)).alloc (.cells #[.int .i64 0, .slice none 0 0] 62)) = W := ⟨_, rfl⟩
  obtain ⟨b1, b2, v3, hwb⟩ := box3_new w m m' A A' l.length c l'.length c' W hW
  have B1 := Lib.hid b1
  have B2 := Lib.hid b2
  have V3 := Lib.hid v3
  have HB := Lib.hid hwb
  have HW := Lib.hid hW
  have R1 := Lib.hid (hr.below hwb)
  have R2 := Lib.hid (hr'.below hwb)
  have HS := Lib.hid (fun W0 (h0 : Below W.heap.size W W0) => seriesOf_any m d 91 #[.pointer (some ⟨w.heap.size, 0, none⟩), .pointer (some ⟨w.heap.size + 1, 0, none⟩)] (Ser.mul (Ser.co l) (Ser.co l')) W0 (by have := hs.m1; omega) hs.m2 (by have := hs.d2; omega)
    (fun n hn => by have := cv_bd hs.m2 hs.red hs'.red n (by have := hs.d2; omega); rw [Ser.mul_at]; omega)
    (enters_fn Try.func91 (of_decide_eq_true (by kernel_rfl)) rfl)
    (fun n W1 hn hb => by
      have hb2 := h0.trans (hb.mono h0.size)
      exact timesC_any n _ _ m d A c l m' A' c' l' W1 (B1.out.keep hb2) (B2.out.keep hb2) hs hs' (R1.out.below hb2) (R2.out.below hb2) hn))
  have HL := Lib.hid hs.len
  have HD := Lib.hid hs.d2
  obtain ⟨L, hLL⟩ : ∃ L, Ser.mulL m d l l' = L := ⟨_, rfl⟩
  unfold Ser.mulL at hLL ⊢
  rw [hLL] at HS ⊢
  clear b1 b2 v3 hwb hW hr hr' hs hs' hLL
  go_enter Try.func86, Try.ntmps86
  go_wp2
  rw [HW.out]
  obtain ⟨x1, x2, x3⟩ := B1.out
  go_region_held3 (fun w' => w'.cell? ⟨w.heap.size, 0, none⟩ = some (.int .i64 m) ∧ w'.cell? ⟨w.heap.size, 1, none⟩ = some (.slice A l.length c) ∧ w.heap.size < w'.heap.size) (first | exact ⟨x1, x2, x3⟩ | exact box_store (by omega) (by assumption) | exact box_call (by assumption) (by assumption)) (first
    | (go_at_call 74; refine (degree_nat _ _ _ _ d _ HL.out (by have := HD.out; omega)).mono ?_; rintro e1 w1 ⟨rfl, hb1⟩)
    | (go_at_call 72; refine (HS.out _ ((below_drew0 W).trans hb1)).mono ?_; rintro e2 w2 ⟨v, rfl, ho2, hb2⟩; obtain ⟨A2, c2, rfl, _⟩ := ho2.form; have hv := V3.out.keep (((below_drew0 W).trans hb1).trans (hb2.mono ((below_drew0 W).trans hb1).size)); have q0 := hv.c0; have q1 := hv.c1; have q2 := hv.fz 0; have q3 := hv.fz 1))
  all_goals
    have hz := ((below_drew0 W).trans hb1).size
    have hg := x3
    have hw2 : Below w.heap.size w w2 := (HB.out.trans (((below_drew0 W).trans hb1).mono HB.out.size)).trans (hb2.mono (by have := HB.out.size; omega))
    obtain ⟨f0, f1, f2, f3⟩ := fin_var (w := w) hv ho2 (by have := V3.out.lt; omega) (by omega) hw2 (.int .i64 m) (.slice A2 L.length c2)
    have F2 := Lib.hid f2
    have F3 := Lib.hid f3
    clear f2 f3 hw2 ho2 hb2 hb1
    go_wp2
    refine bodyPost_ret (v := .agg #[.int .i64 m, .slice A2 L.length c2]) (by simp [results, Try.results86, go_sem, f0, f1]) rfl ⟨_, rfl, F2.out, F3.out⟩

end Go.Proofs.Ytfhdgcndiljjcab

/- A series among a law's arguments: what its reading tells. -/
namespace Go.Proofs.Ytfhdgcndiljjcab
open Go.RowKit Go.WideShapes Go.ChangeShapes Go.ChangeAt

theorem use_it {p q : Prop} (h : p) (k : p → q) : q := k h
theorem Var2.drew {w : World} {g : Nat} {x y : Value} (h : Var2 w g x y) : Var2 w.drew g x y := h
theorem cells_i64 : Try.prog.cellsOf 2 = 1 := by kernel_rfl
theorem cells_i64s : Try.prog.cellsOf 22 = 1 := by kernel_rfl
end Go.Proofs.Ytfhdgcndiljjcab

/- Variables of series: what a store into one leaves alone; making one of a monomial. -/
namespace Go.Proofs.Ytfhdgcndiljjcab
open Go.RowKit Go.WideShapes Go.ChangeShapes Go.ChangeAt

theorem t_ne : ¬ (2 : TypeId) = (62 : TypeId) := by decide
theorem own_ne_var {w : World} {g base : Nat} {x y : Value} {v : Value} {l : List Int} (hv : Var2 w g x y) (h : OwnI w base v l) : v.ownBlock ≠ some g := by
  intro e
  unfold OwnI at h
  unfold Var2 at hv
  rcases h.2 with ⟨rfl, _⟩ | ⟨g', cap, cur, rfl, _, hg, _⟩
  · simp [Value.ownBlock] at e
  · simp [Value.ownBlock] at e
    subst e
    rw [hg] at hv
    injection hv with hv
    injection hv with _ hv
    exact t_ne hv
theorem OwnI.set2 {w : World} {g base : Nat} {x y : Value} {v : Value} {l : List Int} (h : OwnI w base v l) (hv : Var2 w g x y) (x' y' : Value) : OwnI (set2 w g x' y') base v l :=
  h.other (grown_set2 w g x' y') (.inr (own_ne_var hv h))
theorem Var2.set2' {w : World} {g g' : Nat} {x y : Value} (h : Var2 w g x y) (hne : g' ≠ g) (x' y' : Value) : Var2 (Proofs.Ytfhdgcndiljjcab.set2 w g' x' y') g x y := (h.far g' 0 x' hne).far g' 1 y' hne
theorem RI.set2 {w : World} {g : Nat} {x : Int} {A' : Option Addr} {n c : Nat} {A : Option Addr} {l : List Int} (h : RI w A l) (hv : Var2 w g (.int .i64 x) (.slice A' n c)) (hl : 2 ≤ l.length) (x' y' : Value) : RI (Proofs.Ytfhdgcndiljjcab.set2 w g x' y') A l := by
  intro hne
  obtain ⟨b, off, e, hlt, hc⟩ := h hne
  have hbg : b ≠ g := by
    rintro rfl
    have h0 := hc 0 (by omega)
    have h1 := hc 1 (by omega)
    unfold Var2 at hv
    simp only [World.cell?, hv] at h0 h1
    match off, h0, h1 with
    | 0, h0, h1 => simp at h1
    | off + 1, h0, h1 => simp at h1
  refine ⟨b, off, e, by simpa [Proofs.Ytfhdgcndiljjcab.set2, World.setCell] using hlt, fun k hk => ?_⟩
  have h1 : (w.setCell ⟨g, 0, none⟩ x').cell? ⟨b, off + k, none⟩ = w.cell? ⟨b, off + k, none⟩ := World.cell?_setCell_other _ _ _ _ (by intro e; injection e with e; exact hbg e.symm)
  have h2 : (Proofs.Ytfhdgcndiljjcab.set2 w g x' y').cell? ⟨b, off + k, none⟩ = (w.setCell ⟨g, 0, none⟩ x').cell? ⟨b, off + k, none⟩ := World.cell?_setCell_other _ _ _ _ (by intro e; injection e with e; exact hbg e.symm)
  rw [h2, h1]
  exact hc k hk
theorem RI.drew {w : World} {A : Option Addr} {l : List Int} (h : RI w A l) : RI w.drew A l := h

/-- a variable made of a result: the store comes into a variable that lay there before the call, or into a new one -/
theorem reg_fin2 {wk cur wd : World} {g : Nat} {A : Option Addr} {n c : Nat} {l : List Int} {x y : Value} (hk : wk.heap.size ≤ g) (hgc : g < cur.heap.size) (hv : Var2 wd g x y) (ho : OwnI wd cur.heap.size (.slice A n c) l) (hb : Below wk.heap.size wk wd) (M : Int) :
    Var2 ((wd.setCell ⟨g, 0, none⟩ (.int .i64 M)).setCell ⟨g, 1, none⟩ (.slice A n c)) g (.int .i64 M) (.slice A n c) ∧ OwnI ((wd.setCell ⟨g, 0, none⟩ (.int .i64 M)).setCell ⟨g, 1, none⟩ (.slice A n c)) wk.heap.size (.slice A n c) l ∧
    Below wk.heap.size wk ((wd.setCell ⟨g, 0, none⟩ (.int .i64 M)).setCell ⟨g, 1, none⟩ (.slice A n c)) ∧ wk.heap.size ≤ g := by
  obtain ⟨f0, f1, f2, f3⟩ := fin_var (w := wk) hv ho hgc hk hb (.int .i64 M) (.slice A n c)
  exact ⟨hv.set2 _ _, f2, f3, hk⟩
theorem reg_new2 {wk cur wd : World} {A : Option Addr} {n c : Nat} {l : List Int} (hk : wk.heap.size ≤ cur.heap.size) (ho : OwnI wd cur.heap.size (.slice A n c) l) (hb : Below wk.heap.size wk wd) (M : Int) :
    Var2 (wd.alloc (.cells #[.int .i64 M, .slice A n c] 62)) wd.heap.size (.int .i64 M) (.slice A n c) ∧ OwnI (wd.alloc (.cells #[.int .i64 M, .slice A n c] 62)) wk.heap.size (.slice A n c) l ∧
    Below wk.heap.size wk (wd.alloc (.cells #[.int .i64 M, .slice A n c] 62)) ∧ wk.heap.size ≤ wd.heap.size :=
  ⟨Var2.new _ _ _, (ho.keep (below_one _ _)).more hk, below_alloc _ hb, hb.size⟩
theorem one_in {W w' : World} {g : Nat} {m : Int} {A : Option Addr} {n c : Nat} (h : Box W g m A n c) (hb : Below W.heap.size W w') :
    (w'.cell? ⟨g, 0, none⟩ = some (.int .i64 m) ∧ w'.cell? ⟨g, 1, none⟩ = some (.slice A n c)) ∧ True ∧ Below W.heap.size W w' := ⟨box_in h hb, trivial, hb⟩
end Go.Proofs.Ytfhdgcndiljjcab

/- Contracts of InverseOfSeries, of the program and of the model. -/
namespace Go.Proofs.Ytfhdgcndiljjcab
open Go.RowKit Go.WideShapes Go.ChangeShapes Go.ChangeAt

theorem remainder_big (m n : Int) (w : World) (h1 : 1 ≤ m) (h2 : m ≤ 10000) (h3 : -1000000000000000000 ≤ n) (h4 : n ≤ 1000000000000000000) :
    Calls Try.prog 67 #[.int .i64 m, .int .i64 n] w fun e w' => e = .returned (.int .i64 (n % m)) ∧ w = w' := by
  by_cases hn : 0 ≤ n
  · have h5 := Int.emod_nonneg n (show m ≠ 0 by omega)
    have h6 := Int.emod_lt_of_pos n (show 0 < m by omega)
    go_enter Try.func67, Try.ntmps67
    go_wp2
    go_ret
    exact ⟨rfl, rfl⟩
  · obtain ⟨r, a1, a2, a3, a4, a5⟩ := rem_neg m n (by omega) (by omega)
    have H4 := Lib.hid a4
    clear a4 a5
    by_cases hr : r = 0
    · subst hr
      go_enter Try.func67, Try.ntmps67
      go_wp2
      go_ret
      exact ⟨ret_int (by rw [H4.out]; simp), rfl⟩
    · have hr' : 0 < r := by omega
      clear hr
      go_enter Try.func67, Try.ntmps67
      go_wp2
      go_ret
      exact ⟨ret_int (by rw [H4.out, if_neg (by omega)]; omega), rfl⟩

/-- the program's list while the inverse is made -/
def ivL (m u : Int) (a : Nat → Int) (d n : Nat) : List Int := Ser.invC m u a n ++ List.replicate (d - n) 0
theorem ivL_len (m u : Int) (a : Nat → Int) (d n : Nat) (h : n ≤ d) : (ivL m u a d n).length = d + 1 := by
  unfold ivL; rw [List.length_append, Ser.invC_length, List.length_replicate]; omega
theorem ivL_red {m u : Int} (hm : 0 < m) (h1 : 0 ≤ u) (h2 : u < m) (a : Nat → Int) (d n : Nat) : Ser.Red m (ivL m u a d n) := by
  intro i
  unfold ivL
  rw [Ser.co_pad]
  exact Ser.invC_red hm h1 h2 a n i
theorem ivL_zero {m u : Int} (h1 : 0 ≤ u) (h2 : u < m) (a : Nat → Int) (d : Nat) : Ser.cut m d (Ser.mon 0 u) = ivL m u a d 0 := by
  refine Ser.list_ext (by rw [Ser.cut_length, ivL_len _ _ _ _ _ (Nat.zero_le _)]) (fun i hi => ?_)
  rw [Ser.cut_length] at hi
  unfold ivL
  rw [Ser.co_pad, Ser.co_cut (by omega)]
  unfold Ser.mon
  cases i with
  | zero => rw [if_pos rfl, Int.emod_eq_of_lt h1 h2]; rfl
  | succ i => rw [if_neg (by omega), Int.zero_emod, Ser.co_over (by simp [Ser.invC])]
theorem ivL_step (m u : Int) (a : Nat → Int) (d n : Nat) (h : n + 1 ≤ d) : (ivL m u a d n).set (n + 1) ((-u * Ser.cv (n + 1) a (Ser.co (ivL m u a d n))) % m) = ivL m u a d (n + 1) := by
  have e : Ser.co (ivL m u a d n) = Ser.co (Ser.invC m u a n) := by unfold ivL; rw [Ser.co_pad]
  rw [e]
  unfold ivL
  rw [List.set_append_right _ _ (by rw [Ser.invC_length]; omega), Ser.invC_length, Nat.sub_self, show d - n = (d - (n + 1)) + 1 by omega, List.replicate_succ, List.set_cons_zero, Ser.invC, List.append_assoc]
  rfl
theorem ivL_all (m u : Int) (a : Nat → Int) (d : Nat) : ivL m u a d d = Ser.invC m u a d := by unfold ivL; rw [Nat.sub_self]; simp

theorem Box.set1 {w : World} {g : Nat} {m : Int} {A : Option Addr} {n c : Nat} (h : Box w g m A n c) (b i : Nat) (x : Value) (hne : b ≠ g) : Box (w.setCell ⟨b, i, none⟩ x) g m A n c := by
  refine ⟨?_, ?_, by simpa [World.setCell] using h.2.2⟩
  · rw [World.cell?_setCell_other _ _ _ _ (by intro e; injection e with e; exact hne e)]; exact h.1
  · rw [World.cell?_setCell_other _ _ _ _ (by intro e; injection e with e; exact hne e)]; exact h.2.1
theorem box22_set {w : World} {g g' b i : Nat} {m m' : Int} {A A' : Option Addr} {n c n' c' : Nat} {x : Value} (hne : b ≠ g) (hne' : b ≠ g')
    (h : (w.cell? ⟨g, 0, none⟩ = some (.int .i64 m) ∧ w.cell? ⟨g, 1, none⟩ = some (.slice A n c) ∧ g < w.heap.size) ∧ (w.cell? ⟨g', 0, none⟩ = some (.int .i64 m') ∧ w.cell? ⟨g', 1, none⟩ = some (.slice A' n' c') ∧ g' < w.heap.size)) :
    ((w.setCell ⟨b, i, none⟩ x).cell? ⟨g, 0, none⟩ = some (.int .i64 m) ∧ (w.setCell ⟨b, i, none⟩ x).cell? ⟨g, 1, none⟩ = some (.slice A n c) ∧ g < (w.setCell ⟨b, i, none⟩ x).heap.size) ∧
    ((w.setCell ⟨b, i, none⟩ x).cell? ⟨g', 0, none⟩ = some (.int .i64 m') ∧ (w.setCell ⟨b, i, none⟩ x).cell? ⟨g', 1, none⟩ = some (.slice A' n' c') ∧ g' < (w.setCell ⟨b, i, none⟩ x).heap.size) := by
  refine ⟨⟨?_, ?_, by simpa [World.setCell] using h.1.2.2⟩, ⟨?_, ?_, by simpa [World.setCell] using h.2.2.2⟩⟩
  · rw [World.cell?_setCell_other _ _ _ _ (by intro e; injection e with e; exact hne e)]; exact h.1.1
  · rw [World.cell?_setCell_other _ _ _ _ (by intro e; injection e with e; exact hne e)]; exact h.1.2.1
  · rw [World.cell?_setCell_other _ _ _ _ (by intro e; injection e with e; exact hne' e)]; exact h.2.1
  · rw [World.cell?_setCell_other _ _ _ _ (by intro e; injection e with e; exact hne' e)]; exact h.2.2.1
/-! a box and one number of its list, across a call -/
theorem bc_call {w w' : World} {g : Nat} {m : Int} {A : Option Addr} {n c b o : Nat} {x : Value} (hb : Below w.heap.size w w')
    (h : (w.cell? ⟨g, 0, none⟩ = some (.int .i64 m) ∧ w.cell? ⟨g, 1, none⟩ = some (.slice A n c) ∧ g < w.heap.size) ∧ (w.cell? ⟨b, o, none⟩ = some x ∧ b < w.heap.size)) :
    (w'.cell? ⟨g, 0, none⟩ = some (.int .i64 m) ∧ w'.cell? ⟨g, 1, none⟩ = some (.slice A n c) ∧ g < w'.heap.size) ∧ (w'.cell? ⟨b, o, none⟩ = some x ∧ b < w'.heap.size) :=
  ⟨box_call hb h.1, (hb.cell (p := ⟨b, o, none⟩) h.2.2).trans h.2.1, Nat.lt_of_lt_of_le h.2.2 hb.size⟩

def ivsM (m : Int) (l : List Int) : Int × List Int × Int :=
  if isS m l = true then (if gcdI (Ser.co l 0) m = 1 then (m, Ser.invC m (egI m (Ser.co l 0)).2 (Ser.co l) (l.length - 1), 0) else (0, [], 5)) else (0, [], 1)
theorem ivsM_len (m : Int) (l : List Int) : (ivsM m l).2.1.length ≤ 1048576 := by
  unfold ivsM
  split
  · rename_i h
    obtain ⟨d, e, s⟩ := serOk_of h
    have := s.d2
    split
    · dsimp only; rw [Ser.invC_length]; omega
    · simp
  · simp
end Go.Proofs.Ytfhdgcndiljjcab

/- Contracts of ComposeSeries, of the program. -/
namespace Go.Proofs.Ytfhdgcndiljjcab
open Go.RowKit Go.WideShapes Go.ChangeShapes Go.ChangeAt

theorem horC_one {m : Int} {d : Nat} {a f : Nat → Int} (h1 : 0 ≤ a d) (h2 : a d < m) : Ser.horC m d a f 1 = Ser.cut m d (Ser.mon 0 (a d)) := by
  refine Ser.list_ext (by rw [Ser.horC_length, Ser.cut_length]) (fun i hi => ?_)
  rw [Ser.horC_length] at hi
  rw [Ser.horC, Ser.co_set (by rw [Ser.cut_length]; omega), Ser.co_cut (a := Ser.mon 0 (a d)) (by omega)]
  unfold Ser.mon
  by_cases h : i = 0
  · rw [if_pos h, if_pos h, Nat.sub_zero, Int.emod_eq_of_lt h1 h2]
  · rw [if_neg h, if_neg h, Ser.co_cut (by omega), Ser.mul_at]
    have e : Ser.co (Ser.horC m d a f 0) = fun _ => 0 := by funext j; rw [Ser.horC, Ser.co_zeros]
    rw [e, Ser.cv_zero_left]

theorem bcb {W w' : World} {g b o : Nat} {m x : Int} {A : Option Addr} {n c : Nat} (h : Box W g m A n c) (hc : W.cell? ⟨b, o, none⟩ = some (.int .i64 x)) (hlt : b < W.heap.size) (hb : Below W.heap.size W w') :
    (w'.cell? ⟨g, 0, none⟩ = some (.int .i64 m) ∧ w'.cell? ⟨g, 1, none⟩ = some (.slice A n c)) ∧ (w'.cell? ⟨b, o, none⟩ = some (.int .i64 x)) ∧ Below W.heap.size W w' := ⟨box_in h hb, (hb.cell (p := ⟨b, o, none⟩) hlt).trans hc, hb⟩
def cmpF (m : Int) (d : Nat) (l l' : List Int) : List Int := Ser.cmpL m d l l'
def cmpM (m : Int) (l : List Int) (m' : Int) (l' : List Int) : Int × List Int × Int :=
  if code2 m l m' l' = 0 then (if Ser.co l' 0 = 0 then (m, Ser.cmpL m (l.length - 1) l l', 0) else (0, [], 5)) else (0, [], code2 m l m' l')
theorem cmpM_len (m : Int) (l : List Int) (m' : Int) (l' : List Int) : (cmpM m l m' l').2.1.length ≤ 1048576 := by
  unfold cmpM
  split
  · rename_i h
    obtain ⟨_, d, e, _, s, _⟩ := code2_ok h
    have := s.d2
    split
    · dsimp only
      rw [Ser.cmpL_length]
      omega
    · simp
  · simp
theorem SerOk.hor {m : Int} {d : Nat} {l l' : List Int} (h : SerOk m d l) (j : Nat) : SerOk m d (Ser.horC m d (Ser.co l) (Ser.co l') j) :=
  ⟨h.m1, h.m2, h.d1, h.d2, Ser.horC_length _ _ _ _ _, Ser.horC_red (by have := h.m1; omega) _ _ _ h.red j⟩

set_option maxHeartbeats 8000000 in
set_option maxRecDepth 100000 in
theorem composed_any (m : Int) (d : Nat) (A : Option Addr) (c : Nat) (l : List Int) (m' : Int) (A' : Option Addr) (c' : Nat) (l' : List Int) (w : World) (hs : SerOk m d l) (hs' : SerOk m d l') (hr : RI w A l) (hr' : RI w A' l') :
    Calls Try.prog 89 #[.agg #[.int .i64 m, .slice A l.length c], .agg #[.int .i64 m', .slice A' l'.length c']] w fun e w' => ∃ v, e = .returned (.agg #[.int .i64 m, v]) ∧ OwnI w' w.heap.size v (Ser.cmpL m d l l') ∧ Below w.heap.size w w' := by
  obtain ⟨W, hW⟩ : ∃ W, (((w.alloc (.cells #[.int .i64 m, .slice A l.length c] 62)).alloc (.cells #[.int .i64 m', .slice A' l'.length c'] 62)).alloc (.cells #[.int .i64 0, .slice none 0 0] 62)) = W := ⟨_, rfl⟩
  obtain ⟨b1, b2, v3, hwb⟩ := box3_new w m m' A A' l.length c l'.length c' W hW
  have B1 := Lib.hid b1
  have B2 := Lib.hid b2
  have V3 := Lib.hid v3
  have HB := Lib.hid hwb
  have HW := Lib.hid hW
  have HR := Lib.hid hr
  have HR' := Lib.hid hr'
  have HSZ : w.heap.size + 1 + 1 < W.heap.size := v3.lt
  have m1 := hs.m1
  have m2 := hs.m2
  have hd := hs.d2
  have hd1 := hs.d1
  have HS := Lib.hid hs
  have HS' := Lib.hid hs'
  obtain ⟨b, off, rfl, hbb, hcd⟩ := hr.at d (by rw [hs.len]; omega)
  have hcd1 := (hwb.cell (p := ⟨b, off + d, none⟩) hbb).trans hcd
  obtain ⟨X, hX⟩ : ∃ X, Ser.co l d = X := ⟨_, rfl⟩
  obtain ⟨r1, r2⟩ := hs.red d
  rw [hX] at hcd1 r1 r2
  have HDG := Lib.hid (fun W0 => degree_nat m (some ⟨b, off, none⟩) l.length c d W0 hs.len (by omega))
  have HMO := Lib.hid (fun W0 => monomial_any m d 0 X W0 (by omega) m2 (by omega) (by omega) (by omega))
  obtain ⟨L0, hL0⟩ : ∃ L0, Ser.cut m d (Ser.mon 0 X) = L0 := ⟨_, rfl⟩
  have HL0 := Lib.hid (show L0 = Ser.horC m d (Ser.co l) (Ser.co l') 1 by rw [← hL0, ← hX]; exact (horC_one (by rw [hX]; exact r1) (by rw [hX]; exact r2)).symm)
  rw [hL0] at HMO
  have z1 : (0 : Int) ≤ (d : Int) := by omega
  have z2 : (d : Int) < (l.length : Int) := by have := hs.len; omega
  have hWb : b < W.heap.size := Nat.lt_of_lt_of_le hbb hwb.size
  clear b1 b2 v3 hwb hW hr hr' hs hs' hcd hX hL0
  go_enter Try.func89, Try.ntmps89
  go_wp2_with fail
  rw [HW.out]
  refine (HDG.out _).mono ?_
  rintro e W1 ⟨rfl, hb1⟩
  have Y1 := Lib.hid (B1.out.keep hb1)
  have Y2 := Lib.hid (B2.out.keep hb1)
  have V1 := Lib.hid (V3.out.keep hb1)
  have HB1 := Lib.hid (below_step HB.out hb1)
  have HSZ1 : w.heap.size + 1 + 1 < W1.heap.size := (V3.out.keep hb1).lt
  have hcd2 := (hb1.cell (p := ⟨b, off + d, none⟩) hWb).trans hcd1
  have hW1b : b < W1.heap.size := Nat.lt_of_lt_of_le hWb hb1.size
  clear hb1 hcd1 HDG B1 B2 V3 HB
  obtain ⟨x1, x2, x3⟩ := Y1.out
  go_wp2
  go_cut [6] (fun s7 wx => ∃ g A1 c1, s7 = .pointer (some ⟨g, 0, none⟩) ∧ Var2 wx g (.int .i64 m) (.slice A1 L0.length c1) ∧ OwnI wx W1.heap.size (.slice A1 L0.length c1) L0 ∧ Below W1.heap.size W1 wx ∧ W1.heap.size ≤ g)
  case first =>
    go_region_held3 (fun w' => (w'.cell? ⟨w.heap.size, 0, none⟩ = some (.int .i64 m) ∧ w'.cell? ⟨w.heap.size, 1, none⟩ = some (.slice (some ⟨b, off, none⟩) l.length c)) ∧ (w'.cell? ⟨b, off + d, none⟩ = some (.int .i64 X)) ∧ Below W1.heap.size W1 w') (first | exact bcb Y1.out hcd2 hW1b (below_drew0 _) | exact bcb Y1.out hcd2 hW1b hbel | exact bcb Y1.out hcd2 hW1b (below_alloc _ (trd (by assumption))) | exact bcb Y1.out hcd2 hW1b (below_alloc _ hbel) | exact bcb Y1.out hcd2 hW1b (reg_fin2 hwg hgc hv hod hbel m).2.2.1 | exact (by assumption)) (first
      | (go_at_call 55; refine (HMO.out _).mono ?_; rintro e wd ⟨sd, rfl, hod, hbd⟩; obtain ⟨Ad, cd, rfl, -⟩ := hod.form; obtain ⟨hbel, hle⟩ := reg_end (by assumption) hbd; first | (refine use_it (var_keep (Var2.new _ _ _).drew hbd) ?_; rintro ⟨hv, hgc⟩; have hwg := var_at (k := W1.heap.size) hv (Nat.le_refl _); have q0 := hv.c0; have q1 := hv.c1; have q2 := hv.fz 0; have q3 := hv.fz 1) | (refine use_it (var_keep (Var2.new _ _ _) hbd) ?_; rintro ⟨hv, hgc⟩; have hwg := var_at (k := W1.heap.size) hv (Nat.le_refl _); have q0 := hv.c0; have q1 := hv.c1; have q2 := hv.fz 0; have q3 := hv.fz 1) | skip))
    all_goals
      go_wp2_with fail
      go_meet
      case rel => first | exact ⟨_, _, _, rfl, reg_new2 hle hod hbel m⟩ | exact ⟨_, _, _, rfl, reg_fin2 hwg hgc hv hod hbel m⟩
  case rest =>
    obtain ⟨w2, hwc⟩ : ∃ w9, w9 = wc := ⟨_, rfl⟩
    subst hwc
    obtain ⟨g7, A7, c7, rfl, v7, o7, hb7, hg7⟩ := hcut
    rw [HL0.out] at v7 o7
    rw [Ser.horC_length] at v7 o7
    have O7 := Lib.hid o7
    have V7 := Lib.hid v7
    have B7 := Lib.hid hb7
    clear v7 o7 hb7 HMO x1 x2 x3 hcd2
    go_wp2
    go_loopw [7] (fun s7 wr => ∃ (j t : Nat) (I : Int) (A1 : Option Addr) (c1 : Nat), j + t = d ∧ I = (t : Int) - 1 ∧ s7 = .int .i64 I ∧ Var2 wr g7 (.int .i64 m) (.slice A1 (d + 1) c1) ∧ OwnI wr W1.heap.size (.slice A1 (d + 1) c1) (Ser.horC m d (Ser.co l) (Ser.co l') (j + 1)) ∧ Below W1.heap.size W1 wr) (fun s7 _ => (intOf s7 + 1).toNat)
    case atStart => exact ⟨0, d, _, A7, c7, by omega, rfl, rfl, V7.out, O7.out, B7.out⟩
    case round =>
      obtain ⟨j, t, I, A1, c1, hjt, hI, rfl, v1, o1, hb1⟩ := hrel
      have VV := Lib.hid v1
      have OO := Lib.hid o1
      have BB := Lib.hid hb1
      have YA := Lib.hid (Y1.out.keep hb1)
      have YB := Lib.hid (Y2.out.keep hb1)
      have VR := Lib.hid (V1.out.keep hb1)
      have RA := Lib.hid (HR.out.below (below_step HB1.out hb1))
      have RB := Lib.hid (HR'.out.below (below_step HB1.out hb1))
      clear v1 o1 hb1 V7 O7 B7
      rcases t with _ | i
      · obtain rfl : j = d := by omega
        obtain rfl : I = -1 := by omega
        clear hI hjt
        have hfin : Ser.horC m j (Ser.co l) (Ser.co l') (j + 1) = Ser.cmpL m j l l' := rfl
        have o1 := OO.out
        rw [hfin] at o1
        have z3 := VV.out.c0
        have z4 := VV.out.c1
        have z5 := VR.out.c0
        have z6 := VR.out.c1
        have z7 := VR.out.fz 0
        have z8 := VR.out.fz 1
        have f2 := (VR.out.set2 (.int .i64 m) (.slice A1 (j + 1) c1))
        have F1 := f2.c0
        have F2 := f2.c1
        have F3 := Lib.hid ((o1.set2 VR.out (.int .i64 m) (.slice A1 (j + 1) c1)).more (show w.heap.size ≤ W1.heap.size by omega))
        have F4 := Lib.hid (below_set2 (below_step HB1.out BB.out) (by omega : w.heap.size ≤ w.heap.size + 1 + 1) (.int .i64 m) (.slice A1 (j + 1) c1))
        unfold set2 at F1 F2 F3 F4
        clear f2 o1 hfin
        go_wp2
        exact bodyPost_ret (v := .agg #[.int .i64 m, .slice A1 (j + 1) c1]) (by simp [results, Try.results89, go_sem, F1, F2]) rfl ⟨_, rfl, F3.out, F4.out⟩
      · obtain rfl : I = (i : Int) := by omega
        clear hI
        have sh : SerOk m d (Ser.horC m d (Ser.co l) (Ser.co l') (j + 1)) := HS.out.hor _
        have ht := times_any m d A1 c1 _ m' A' c' l' wr sh HS'.out (by have := OO.out.form; obtain ⟨A0, c0, he, hri⟩ := this; rw [Ser.horC_length] at he; injection he with e1; rw [e1]; exact hri) RB.out
        rw [Ser.horC_length] at ht
        have HT := Lib.hid ht
        obtain ⟨L3, hL3⟩ : ∃ L3, Ser.mulL m d (Ser.horC m d (Ser.co l) (Ser.co l') (j + 1)) l' = L3 := ⟨_, rfl⟩
        have hlen3 : L3.length = d + 1 := by rw [← hL3, Ser.mulL_length]
        rw [hL3] at HT
        have hst : L3.set 0 (Ser.co l i) = Ser.horC m d (Ser.co l) (Ser.co l') (j + 1 + 1) := by
          rw [← hL3]
          have e : d - (j + 1) = i := by omega
          show (Ser.cut m d (Ser.mul (Ser.co (Ser.horC m d (Ser.co l) (Ser.co l') (j + 1))) (Ser.co l'))).set 0 (Ser.co l i) = (Ser.cut m d (Ser.mul (Ser.co (Ser.horC m d (Ser.co l) (Ser.co l') (j + 1))) (Ser.co l'))).set 0 (Ser.co l (d - (j + 1)))
          rw [e]
        obtain ⟨x3, x4⟩ := (⟨VV.out.c0, VV.out.c1⟩ : _ ∧ _)
        obtain ⟨y3, y4, -⟩ := YB.out
        clear ht sh hL3
        go_wp2_with fail
        refine HT.out.mono ?_
        rintro e w3 ⟨s3, rfl, ho3, hb3⟩
        obtain ⟨g3, c3, rfl⟩ := ho3.openv (by intro h; rw [h] at hlen3; simp at hlen3)
        rw [hlen3] at ho3 ⊢
        have v3 := VV.out.keep hb3
        have q5 := v3.c0
        have q6 := v3.c1
        have q7 := v3.fz 0
        have q8 := v3.fz 1
        clear x3 x4 y3 y4
        have hb9 := below_step BB.out hb3
        obtain ⟨X9, hX9⟩ : ∃ X9, set2 w3 g7 (.int .i64 m) (.slice (some ⟨g3, 0, none⟩) (d + 1) c3) = X9 := ⟨_, rfl⟩
        have vx : Var2 X9 g7 (.int .i64 m) (.slice (some ⟨g3, 0, none⟩) (d + 1) c3) := by rw [← hX9]; exact v3.set2 _ _
        have ox : OwnI X9 wr.heap.size (.slice (some ⟨g3, 0, none⟩) (d + 1) c3) L3 := by rw [← hX9]; exact ho3.set2 v3 _ _
        have bx : Below W1.heap.size W1 X9 := by rw [← hX9]; exact below_set2 hb9 hg7 _ _
        have ya : Box X9 w.heap.size m (some ⟨b, off, none⟩) l.length c := Y1.out.keep bx
        obtain ⟨b', off', hbe, hbb', hci⟩ := (HR.out.below (below_step HB1.out bx)).at i (by have := HS.out.len; omega)
        injection hbe with hbe
        injection hbe with hbe1 hbe2
        subst hbe1 hbe2
        obtain ⟨Z, hZ⟩ : ∃ Z, Ser.co l i = Z := ⟨_, rfl⟩
        rw [hZ] at hci hst
        obtain ⟨-, -, o3, o4⟩ := ox.cells
        have d1 := o3 0 (by omega)
        have f1 := o4 0
        have hset := ox.set 0 Z
        rw [hst] at hset
        have hg3 := (ox.lt g3 rfl).1
        have hwr := BB.out.size
        have HSET := Lib.hid (hset.more hwr)
        have ne2 : g3 ≠ g7 := fun e => own_ne_var vx ox (by rw [e]; rfl)
        have V9 := Lib.hid (vx.far g3 0 (.int .i64 Z) ne2)
        have BX := Lib.hid (bx.setCell (p := ⟨g3, 0, none⟩) (by show W1.heap.size ≤ g3; omega) (.int .i64 Z)).drew
        obtain ⟨x5, x6, -⟩ := ya
        obtain ⟨x7, x8⟩ := (⟨vx.c0, vx.c1⟩ : _ ∧ _)
        have j0 : (0 : Int) ≤ (i : Int) := by omega
        have j1 : (i : Int) < (l.length : Int) := by have := HS.out.len; omega
        have j2 : (0 : Int) < (d : Int) + 1 := by omega
        unfold set2 at hX9
        have HX := Lib.hid hX9
        clear ho3 hb3 v3 hb9 vx ox bx hZ hst o3 o4 hset hX9
        go_upto_region 7 with fail
        rw [HX.out]
        clear HX q5 q6 q7 q8
        go_still_tail 8, (by kernel_rfl)
        change wpList _ _ _ _ _ X9.drew
        go_wp2
        go_roundw
        case rel => exact ⟨j + 1, i, _, _, c3, by omega, rfl, by first | rfl | go_num, V9.out, HSET.out, BX.out⟩
        case measure => simp only [intOf]; omega

theorem isC_ok {m : Int} {l : List Int} (h : isS m l = true) : isC m l = (Ser.co l 0 == 0) := by unfold isC; rw [h]; rfl
end Go.Proofs.Ytfhdgcndiljjcab

