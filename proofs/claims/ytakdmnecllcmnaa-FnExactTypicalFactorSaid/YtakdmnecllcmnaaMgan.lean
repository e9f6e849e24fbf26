/- Texts of contracts, joined. -/
import Derived.Test.YtakdmnecllcmnaaMgab
import Derived.Test.YtakdmnecllcmnaaMgam
import Derived.Test.YtakdmnecllcmnaaMgae
import Derived.Test.YtakdmnecllcmnaaMgaf
import Derived.Test.YtakdmnecllcmnaaMgai
import Derived.Test.YtakdmnecllcmnaaMgaj
/- Contracts of the codes of a plane and one series, of the program and of the model. -/
namespace Go.Proofs.Ytakdmnecllcmnaa
open Go.RowKit Go.WideShapes Go.ChangeShapes Go.ChangeAt

/-- the code of a plane and one series -/
def codePS (m : Int) (t : List (List Int)) (m' : Int) (l : List Int) : Int := if isP m t = true ∧ isS m' l = true then (if m' = m ∧ l.length = t.length then 0 else 2) else 1
theorem codePS_ok {m : Int} {t : List (List Int)} {m' : Int} {l : List Int} (h : codePS m t m' l = 0) : m' = m ∧ ∃ d, t.length = d + 1 ∧ l.length = d + 1 ∧ Pl.Ok m d t ∧ SerOk m d l := by
  unfold codePS at h
  by_cases h1 : isP m t = true ∧ isS m' l = true
  · rw [if_pos h1] at h
    by_cases h2 : m' = m ∧ l.length = t.length
    · obtain ⟨rfl, h2⟩ := h2
      obtain ⟨d, e, s⟩ := plOk_of h1.1
      obtain ⟨d', e', s'⟩ := serOk_of h1.2
      obtain rfl : d' = d := by omega
      exact ⟨rfl, d', e, e', s, s'⟩
    · rw [if_neg h2] at h; exact absurd h (by decide)
  · rw [if_neg h1] at h; exact absurd h (by decide)
end Go.Proofs.Ytakdmnecllcmnaa

/- Lists of series that a call takes: where they lie; contracts of the codes of a plane and such a list, of the program and of the model. -/
namespace Go.Proofs.Ytakdmnecllcmnaa
open Go.RowKit Go.WideShapes Go.ChangeShapes Go.ChangeAt

/-- block g holds series, one after the other: modulus, address, capacity, numbers -/
def SL (w : World) (g : Nat) (xs : List (Int × Option Addr × Nat × List Int)) : Prop :=
  g < w.heap.size ∧ ∀ k m A c l, xs[k]? = some (m, A, c, l) → w.cell? ⟨g, k * 2, none⟩ = some (.int .i64 m) ∧ w.cell? ⟨g, k * 2 + 1, none⟩ = some (.slice A l.length c) ∧ RI w A l ∧ l.length ≤ 1048576
theorem SL.keep {w w' : World} {g : Nat} {xs : List (Int × Option Addr × Nat × List Int)} (h : SL w g xs) (hb : Below w.heap.size w w') : SL w' g xs :=
  ⟨Nat.lt_of_lt_of_le h.1 hb.size, fun k m A c l hx => by
    obtain ⟨a, b, r, z⟩ := h.2 k m A c l hx
    exact ⟨(hb.cell (p := ⟨g, k * 2, none⟩) h.1).trans a, (hb.cell (p := ⟨g, k * 2 + 1, none⟩) h.1).trans b, r.below hb, z⟩⟩
theorem SL.one {w : World} {g : Nat} {m : Int} {A : Option Addr} {c : Nat} {l : List Int} (hx : Box w g m A l.length c) (hr : RI w A l) (hl : l.length ≤ 1048576) : SL w g [(m, A, c, l)] :=
  ⟨hx.2.2, fun k m' A' c' l' h => by
    match k, h with
    | 0, h =>
      simp at h
      obtain ⟨rfl, rfl, rfl, rfl⟩ := h
      exact ⟨hx.1, hx.2.1, hr, hl⟩⟩
theorem SL.two {w : World} {g : Nat} {m : Int} {A : Option Addr} {c : Nat} {l : List Int} {m' : Int} {A' : Option Addr} {c' : Nat} {l' : List Int} (hx : Box4 w g m A l.length c m' A' l'.length c') (hr : RI w A l) (hr' : RI w A' l') (hl : l.length ≤ 1048576) (hl' : l'.length ≤ 1048576) :
    SL w g [(m, A, c, l), (m', A', c', l')] :=
  ⟨hx.1.2.2, fun k m0 A0 c0 l0 h => by
    match k, h with
    | 0, h =>
      simp at h
      obtain ⟨rfl, rfl, rfl, rfl⟩ := h
      exact ⟨hx.1.1, hx.1.2.1, hr, hl⟩
    | 1, h =>
      simp at h
      obtain ⟨rfl, rfl, rfl, rfl⟩ := h
      exact ⟨hx.2.1, hx.2.2, hr', hl'⟩⟩
def allS (xs : List (Int × Option Addr × Nat × List Int)) : Bool := xs.all fun x => isS x.1 x.2.2.2
def alkS (m : Int) (n : Nat) (xs : List (Int × Option Addr × Nat × List Int)) : Bool := xs.all fun x => decide (x.1 = m ∧ x.2.2.2.length = n)
def curS (xs : List (Int × Option Addr × Nat × List Int)) : Bool := xs.all fun x => isC x.1 x.2.2.2
/-- the code of something (ok: it is what it should be) and a list of series -/
def codeL (ok : Bool) (m : Int) (n : Nat) (xs : List (Int × Option Addr × Nat × List Int)) : Int := if ok = true ∧ allS xs = true then (if alkS m n xs = true then 0 else 2) else 1
theorem and_t {a b : Bool} (h : a = true) (k : b = true) : (a && b) = true := by rw [h, k]; rfl
theorem all_take {α : Type} (f : α → Bool) (xs : List α) (k : Nat) (x : α) (h : xs[k]? = some x) : (xs.take (k + 1)).all f = ((xs.take k).all f && f x) := by
  have hk := (List.getElem?_eq_some_iff.1 h).1
  rw [List.take_add_one, h, List.all_append]; simp
theorem all_bad {α : Type} (f : α → Bool) (xs : List α) (k : Nat) (x : α) (h : xs[k]? = some x) (hf : f x = false) : xs.all f = false := by
  rw [List.all_eq_false]
  exact ⟨x, List.mem_of_getElem? h, by simp [hf]⟩
theorem all_whole {α : Type} (f : α → Bool) (xs : List α) (k : Nat) (h : xs.length ≤ k) : (xs.take k).all f = xs.all f := by rw [List.take_of_length_le h]
theorem all_isS {xs : List (Int × Option Addr × Nat × List Int)} (h : allS xs = true) {k : Nat} {m : Int} {A : Option Addr} {c : Nat} {l : List Int} (hx : xs[k]? = some (m, A, c, l)) : isS m l = true :=
  (List.all_eq_true.1 h) _ (List.mem_of_getElem? hx)
/-- with the look at curves behind it -/
def codeLC (ok : Bool) (m : Int) (n : Nat) (xs : List (Int × Option Addr × Nat × List Int)) : Int := if codeL ok m n xs = 0 then (if curS xs = true then 0 else 5) else codeL ok m n xs
end Go.Proofs.Ytakdmnecllcmnaa

/- Contracts of InverseOfSeries, of the program and of the model. -/
namespace Go.Proofs.Ytakdmnecllcmnaa
open Go.RowKit Go.WideShapes Go.ChangeShapes Go.ChangeAt

theorem remainder_big (m n : Int) (w : World) (h1 : 1 ≤ m) (h2 : m ≤ 10000) (h3 : -1000000000000000000 ≤ n) (h4 : n ≤ 1000000000000000000) :
    Calls Try.prog 57 #[.int .i64 m, .int .i64 n] w fun e w' => e = .returned (.int .i64 (n % m)) ∧ w = w' := by
  by_cases hn : 0 ≤ n
  · have h5 := Int.emod_nonneg n (show m ≠ 0 by omega)
    have h6 := Int.emod_lt_of_pos n (show 0 < m by omega)
    go_enter Try.func57, Try.ntmps57
    go_wp2
    go_ret
    exact ⟨rfl, rfl⟩
  · obtain ⟨r, a1, a2, a3, a4, a5⟩ := rem_neg m n (by omega) (by omega)
    have H4 := Lib.hid a4
    clear a4 a5
    by_cases hr : r = 0
    · subst hr
      go_enter Try.func57, Try.ntmps57
      go_wp2
      go_ret
      exact ⟨ret_int (by rw [H4.out]; simp), rfl⟩
    · have hr' : 0 < r := by omega
      clear hr
      go_enter Try.func57, Try.ntmps57
      go_wp2
      go_ret
      exact ⟨ret_int (by rw [H4.out, if_neg (by omega)]; omega), rfl⟩

/-- the program's list while the inverse is made -/
def ivL (m u : Int) (a : Nat → Int) (d n : Nat) : List Int := Ser.invC m u a n ++ List.replicate (d - n) 0
theorem ivL_len (m u : Int) (a : Nat → Int) (d n : Nat) (h : n ≤ d) : (ivL m u a d n).length = d + 1 := by
  unfold ivL; rw [List.length_append, Ser.invC_length, List.length_replicate]; omega
theorem ivL_red {m u : Int} (hm : 0 < m) (h1 : 0 ≤ u) (h2 : u < m) (a : Nat → Int) (d n : Nat) : Ser.Red m (ivL m u a d n) := by
  intro i
  unfold ivL
  rw [Ser.co_pad]
  exact Ser.invC_red hm h1 h2 a n i
theorem ivL_zero {m u : Int} (h1 : 0 ≤ u) (h2 : u < m) (a : Nat → Int) (d : Nat) : Ser.cut m d (Ser.mon 0 u) = ivL m u a d 0 := by
  refine Ser.list_ext (by rw [Ser.cut_length, ivL_len _ _ _ _ _ (Nat.zero_le _)]) (fun i hi => ?_)
  rw [Ser.cut_length] at hi
  unfold ivL
  rw [Ser.co_pad, Ser.co_cut (by omega)]
  unfold Ser.mon
  cases i with
  | zero => rw [if_pos rfl, Int.emod_eq_of_lt h1 h2]; rfl
  | succ i => rw [if_neg (by omega), Int.zero_emod, Ser.co_over (by simp [Ser.invC])]
theorem ivL_step (m u : Int) (a : Nat → Int) (d n : Nat) (h : n + 1 ≤ d) : (ivL m u a d n).set (n + 1) ((-u * Ser.cv (n + 1) a (Ser.co (ivL m u a d n))) % m) = ivL m u a d (n + 1) := by
  have e : Ser.co (ivL m u a d n) = Ser.co (Ser.invC m u a n) := by unfold ivL; rw [Ser.co_pad]
  rw [e]
  unfold ivL
  rw [List.set_append_right _ _ (by rw [Ser.invC_length]; omega), Ser.invC_length, Nat.sub_self, show d - n = (d - (n + 1)) + 1 by omega, List.replicate_succ, List.set_cons_zero, Ser.invC, List.append_assoc]
  rfl
theorem ivL_all (m u : Int) (a : Nat → Int) (d : Nat) : ivL m u a d d = Ser.invC m u a d := by unfold ivL; rw [Nat.sub_self]; simp

theorem Box.set1 {w : World} {g : Nat} {m : Int} {A : Option Addr} {n c : Nat} (h : Box w g m A n c) (b i : Nat) (x : Value) (hne : b ≠ g) : Box (w.setCell ⟨b, i, none⟩ x) g m A n c := by
  refine ⟨?_, ?_, by simpa [World.setCell] using h.2.2⟩
  · rw [World.cell?_setCell_other _ _ _ _ (by intro e; injection e with e; exact hne e)]; exact h.1
  · rw [World.cell?_setCell_other _ _ _ _ (by intro e; injection e with e; exact hne e)]; exact h.2.1
theorem box22_set {w : World} {g g' b i : Nat} {m m' : Int} {A A' : Option Addr} {n c n' c' : Nat} {x : Value} (hne : b ≠ g) (hne' : b ≠ g')
    (h : (w.cell? ⟨g, 0, none⟩ = some (.int .i64 m) ∧ w.cell? ⟨g, 1, none⟩ = some (.slice A n c) ∧ g < w.heap.size) ∧ (w.cell? ⟨g', 0, none⟩ = some (.int .i64 m') ∧ w.cell? ⟨g', 1, none⟩ = some (.slice A' n' c') ∧ g' < w.heap.size)) :
    ((w.setCell ⟨b, i, none⟩ x).cell? ⟨g, 0, none⟩ = some (.int .i64 m) ∧ (w.setCell ⟨b, i, none⟩ x).cell? ⟨g, 1, none⟩ = some (.slice A n c) ∧ g < (w.setCell ⟨b, i, none⟩ x).heap.size) ∧
    ((w.setCell ⟨b, i, none⟩ x).cell? ⟨g', 0, none⟩ = some (.int .i64 m') ∧ (w.setCell ⟨b, i, none⟩ x).cell? ⟨g', 1, none⟩ = some (.slice A' n' c') ∧ g' < (w.setCell ⟨b, i, none⟩ x).heap.size) := by
  refine ⟨⟨?_, ?_, by simpa [World.setCell] using h.1.2.2⟩, ⟨?_, ?_, by simpa [World.setCell] using h.2.2.2⟩⟩
  · rw [World.cell?_setCell_other _ _ _ _ (by intro e; injection e with e; exact hne e)]; exact h.1.1
  · rw [World.cell?_setCell_other _ _ _ _ (by intro e; injection e with e; exact hne e)]; exact h.1.2.1
  · rw [World.cell?_setCell_other _ _ _ _ (by intro e; injection e with e; exact hne' e)]; exact h.2.1
  · rw [World.cell?_setCell_other _ _ _ _ (by intro e; injection e with e; exact hne' e)]; exact h.2.2.1
/-! a box and one number of its list, across a call -/
theorem bc_call {w w' : World} {g : Nat} {m : Int} {A : Option Addr} {n c b o : Nat} {x : Value} (hb : Below w.heap.size w w')
    (h : (w.cell? ⟨g, 0, none⟩ = some (.int .i64 m) ∧ w.cell? ⟨g, 1, none⟩ = some (.slice A n c) ∧ g < w.heap.size) ∧ (w.cell? ⟨b, o, none⟩ = some x ∧ b < w.heap.size)) :
    (w'.cell? ⟨g, 0, none⟩ = some (.int .i64 m) ∧ w'.cell? ⟨g, 1, none⟩ = some (.slice A n c) ∧ g < w'.heap.size) ∧ (w'.cell? ⟨b, o, none⟩ = some x ∧ b < w'.heap.size) :=
  ⟨box_call hb h.1, (hb.cell (p := ⟨b, o, none⟩) h.2.2).trans h.2.1, Nat.lt_of_lt_of_le h.2.2 hb.size⟩

def ivsM (m : Int) (l : List Int) : Int × List Int × Int :=
  if isS m l = true then (if gcdI (Ser.co l 0) m = 1 then (m, Ser.invC m (egI m (Ser.co l 0)).2 (Ser.co l) (l.length - 1), 0) else (0, [], 5)) else (0, [], 1)
theorem ivsM_len (m : Int) (l : List Int) : (ivsM m l).2.1.length ≤ 1048576 := by
  unfold ivsM
  split
  · rename_i h
    obtain ⟨d, e, s⟩ := serOk_of h
    have := s.d2
    split
    · dsimp only; rw [Ser.invC_length]; omega
    · simp
  · simp
theorem invM_unit {m a : Int} (h1 : 2 ≤ m) (h2 : m ≤ 10000) (h3 : 0 ≤ a) (h4 : a < m) (h : gcdI a m = 1) : invM m a = ((egI m a).2, 0) := by
  unfold invM; rw [if_pos ((codeU_zero m a).2 ⟨(codeN_one m a).2 ⟨h1, h2, h3, h4⟩, h⟩)]
theorem invM_not {m a : Int} (h1 : 2 ≤ m) (h2 : m ≤ 10000) (h3 : 0 ≤ a) (h4 : a < m) (h : ¬ gcdI a m = 1) : invM m a = (0, 5) := by
  have hc := (codeN_one m a).2 ⟨h1, h2, h3, h4⟩
  unfold invM
  rw [if_neg (fun e => h ((codeU_zero m a).1 e).2), codeU, if_pos hc, if_neg h]

end Go.Proofs.Ytakdmnecllcmnaa

/- Contracts of ComposeSeries, of the program. -/
namespace Go.Proofs.Ytakdmnecllcmnaa
open Go.RowKit Go.WideShapes Go.ChangeShapes Go.ChangeAt

theorem horC_one {m : Int} {d : Nat} {a f : Nat → Int} (h1 : 0 ≤ a d) (h2 : a d < m) : Ser.horC m d a f 1 = Ser.cut m d (Ser.mon 0 (a d)) := by
  refine Ser.list_ext (by rw [Ser.horC_length, Ser.cut_length]) (fun i hi => ?_)
  rw [Ser.horC_length] at hi
  rw [Ser.horC, Ser.co_set (by rw [Ser.cut_length]; omega), Ser.co_cut (a := Ser.mon 0 (a d)) (by omega)]
  unfold Ser.mon
  by_cases h : i = 0
  · rw [if_pos h, if_pos h, Nat.sub_zero, Int.emod_eq_of_lt h1 h2]
  · rw [if_neg h, if_neg h, Ser.co_cut (by omega), Ser.mul_at]
    have e : Ser.co (Ser.horC m d a f 0) = fun _ => 0 := by funext j; rw [Ser.horC, Ser.co_zeros]
    rw [e, Ser.cv_zero_left]

theorem bcb {W w' : World} {g b o : Nat} {m x : Int} {A : Option Addr} {n c : Nat} (h : Box W g m A n c) (hc : W.cell? ⟨b, o, none⟩ = some (.int .i64 x)) (hlt : b < W.heap.size) (hb : Below W.heap.size W w') :
    (w'.cell? ⟨g, 0, none⟩ = some (.int .i64 m) ∧ w'.cell? ⟨g, 1, none⟩ = some (.slice A n c)) ∧ (w'.cell? ⟨b, o, none⟩ = some (.int .i64 x)) ∧ Below W.heap.size W w' := ⟨box_in h hb, (hb.cell (p := ⟨b, o, none⟩) hlt).trans hc, hb⟩
def cmpF (m : Int) (d : Nat) (l l' : List Int) : List Int := Ser.cmpL m d l l'
def cmpM (m : Int) (l : List Int) (m' : Int) (l' : List Int) : Int × List Int × Int :=
  if code2 m l m' l' = 0 then (if Ser.co l' 0 = 0 then (m, Ser.cmpL m (l.length - 1) l l', 0) else (0, [], 5)) else (0, [], code2 m l m' l')
theorem cmpM_len (m : Int) (l : List Int) (m' : Int) (l' : List Int) : (cmpM m l m' l').2.1.length ≤ 1048576 := by
  unfold cmpM
  split
  · rename_i h
    obtain ⟨_, d, e, _, s, _⟩ := code2_ok h
    have := s.d2
    split
    · dsimp only
      rw [Ser.cmpL_length]
      omega
    · simp
  · simp
theorem SerOk.hor {m : Int} {d : Nat} {l l' : List Int} (h : SerOk m d l) (j : Nat) : SerOk m d (Ser.horC m d (Ser.co l) (Ser.co l') j) :=
  ⟨h.m1, h.m2, h.d1, h.d2, Ser.horC_length _ _ _ _ _, Ser.horC_red (by have := h.m1; omega) _ _ _ h.red j⟩

theorem isC_ok {m : Int} {l : List Int} (h : isS m l = true) : isC m l = (Ser.co l 0 == 0) := by unfold isC; rw [h]; rfl
end Go.Proofs.Ytakdmnecllcmnaa

/- Contracts of the composition of a row, which may have one number alone, and a curve of a degree not less. -/
namespace Go.Proofs.Ytakdmnecllcmnaa
open Go.RowKit Go.WideShapes Go.ChangeShapes Go.ChangeAt

end Go.Proofs.Ytakdmnecllcmnaa

/- Contract of a grid with a curve put into its second variable. -/
namespace Go.Proofs.Ytakdmnecllcmnaa
open Go.RowKit Go.WideShapes Go.ChangeShapes Go.ChangeAt

/-- a grid's box, a series' box, the result's variable -/
theorem gproB (w : World) (m : Int) (d : Nat) (A : Option Addr) (n c : Nat) (m' : Int) (A' : Option Addr) (n' c' : Nat) : ∃ W, ((w.alloc (.cells #[.int .i64 m, .int .i64 d, .slice A n c] 96)).alloc (.cells #[.int .i64 m', .slice A' n' c'] 30)).alloc (.cells #[.int .i64 0, .int .i64 0, .slice none 0 0] 96) = W ∧
    GBox W w.heap.size m d A n c ∧ Box W (w.heap.size + 1) m' A' n' c' ∧ VarC 96 W (w.heap.size + 1 + 1) #[.int .i64 0, .int .i64 0, .slice none 0 0] ∧ Below w.heap.size w W := by
  refine ⟨_, rfl, ((GBox.new _ _ _ _ _ _ _).keep (below_one _ _)).keep (below_one _ _), ?_, ?_, below_alloc _ (below_alloc _ (below_one _ _))⟩
  · have := (Box.newT 30 (w.alloc (.cells #[.int .i64 m, .int .i64 d, .slice A n c] 96)) m' A' n' c').keep (below_one _ (.cells #[.int .i64 0, .int .i64 0, .slice none 0 0] 96))
    simpa using this
  · have := VarC.new 96 ((w.alloc (.cells #[.int .i64 m, .int .i64 d, .slice A n c] 96)).alloc (.cells #[.int .i64 m', .slice A' n' c'] 30)) #[.int .i64 0, .int .i64 0, .slice none 0 0]
    simpa using this
def wcyF (t : List (List Int)) (l' : List Int) : Nat → Nat → Int := fun i => Ser.comp (Pl.pc t i) (Ser.co l')
theorem wcy_row {m : Int} {d : Nat} {t : List (List Int)} {l' : List Int} (hs : Pl.Ok m d t) (hz : Ser.co l' 0 = 0) (k : Nat) : Ser.cmpL m (d - k) (Pl.rw' t k) l' = Ser.cut m (d - k) (wcyF t l' k) :=
  Ser.cmpL_cut (by have := hs.m1; omega) hz (hs.red k)
end Go.Proofs.Ytakdmnecllcmnaa

/- Contracts of a grid with curves put into both variables, and of its diagonal. -/
namespace Go.Proofs.Ytakdmnecllcmnaa
open Go.RowKit Go.WideShapes Go.ChangeShapes Go.ChangeAt

/-- a grid's box, two series' boxes, the result's variable -/
theorem gproC (w : World) (m : Int) (d : Nat) (A : Option Addr) (n c : Nat) (m1 : Int) (A1 : Option Addr) (n1 c1 : Nat) (m2 : Int) (A2 : Option Addr) (n2 c2 : Nat) :
    ∃ W, (((w.alloc (.cells #[.int .i64 m, .int .i64 d, .slice A n c] 96)).alloc (.cells #[.int .i64 m1, .slice A1 n1 c1] 30)).alloc (.cells #[.int .i64 m2, .slice A2 n2 c2] 30)).alloc (.cells #[.int .i64 0, .int .i64 0, .slice none 0 0] 96) = W ∧
    GBox W w.heap.size m d A n c ∧ Box W (w.heap.size + 1) m1 A1 n1 c1 ∧ Box W (w.heap.size + 1 + 1) m2 A2 n2 c2 ∧ VarC 96 W (w.heap.size + 1 + 1 + 1) #[.int .i64 0, .int .i64 0, .slice none 0 0] ∧ Below w.heap.size w W := by
  refine ⟨_, rfl, (((GBox.new _ _ _ _ _ _ _).keep (below_one _ _)).keep (below_one _ _)).keep (below_one _ _), ?_, ?_, ?_, below_alloc _ (below_alloc _ (below_alloc _ (below_one _ _)))⟩
  · have := ((Box.newT 30 (w.alloc (.cells #[.int .i64 m, .int .i64 d, .slice A n c] 96)) m1 A1 n1 c1).keep (below_one _ (.cells #[.int .i64 m2, .slice A2 n2 c2] 30))).keep (below_one _ (.cells #[.int .i64 0, .int .i64 0, .slice none 0 0] 96))
    simpa using this
  · have := (Box.newT 30 ((w.alloc (.cells #[.int .i64 m, .int .i64 d, .slice A n c] 96)).alloc (.cells #[.int .i64 m1, .slice A1 n1 c1] 30)) m2 A2 n2 c2).keep (below_one _ (.cells #[.int .i64 0, .int .i64 0, .slice none 0 0] 96))
    simpa using this
  · have := VarC.new 96 (((w.alloc (.cells #[.int .i64 m, .int .i64 d, .slice A n c] 96)).alloc (.cells #[.int .i64 m1, .slice A1 n1 c1] 30)).alloc (.cells #[.int .i64 m2, .slice A2 n2 c2] 30)) #[.int .i64 0, .int .i64 0, .slice none 0 0]
    simpa using this
theorem GBox.far {w : World} {g : Nat} {m : Int} {d : Nat} {A : Option Addr} {n c : Nat} (h : GBox w g m d A n c) (b i : Nat) (u : Value) (hne : b ≠ g) : GBox (w.setCell ⟨b, i, none⟩ u) g m d A n c := by
  have hb := Below.heap_setCell w ⟨b, i, none⟩ u g (fun e => hne e.symm)
  exact ⟨(World.cell?_of_block (a := ⟨g, 0, none⟩) hb).trans h.1, (World.cell?_of_block (a := ⟨g, 1, none⟩) hb).trans h.2.1, (World.cell?_of_block (a := ⟨g, 2, none⟩) hb).trans h.2.2.1, by simpa [World.setCell] using h.2.2.2⟩
theorem Box.far {w : World} {g : Nat} {m : Int} {A : Option Addr} {n c : Nat} (h : Box w g m A n c) (b i : Nat) (u : Value) (hne : b ≠ g) : Box (w.setCell ⟨b, i, none⟩ u) g m A n c := by
  have hb := Below.heap_setCell w ⟨b, i, none⟩ u g (fun e => hne e.symm)
  exact ⟨(World.cell?_of_block (a := ⟨g, 0, none⟩) hb).trans h.1, (World.cell?_of_block (a := ⟨g, 1, none⟩) hb).trans h.2.1, by simpa [World.setCell] using h.2.2⟩
/-- what lies in three boxes is kept by a call and by a store elsewhere -/
theorem k3_call {w w' : World} {g g1 g2 : Nat} {m : Int} {d : Nat} {A : Option Addr} {n c : Nat} {m1 : Int} {A1 : Option Addr} {n1 c1 : Nat} {m2 : Int} {A2 : Option Addr} {n2 c2 : Nat} (hb : Below w.heap.size w w')
    (h : (w.cell? ⟨g, 0, none⟩ = some (.int .i64 m) ∧ w.cell? ⟨g, 1, none⟩ = some (.int .i64 d) ∧ w.cell? ⟨g, 2, none⟩ = some (.slice A n c) ∧ g < w.heap.size) ∧ (w.cell? ⟨g1, 0, none⟩ = some (.int .i64 m1) ∧ w.cell? ⟨g1, 1, none⟩ = some (.slice A1 n1 c1) ∧ g1 < w.heap.size) ∧ (w.cell? ⟨g2, 0, none⟩ = some (.int .i64 m2) ∧ w.cell? ⟨g2, 1, none⟩ = some (.slice A2 n2 c2) ∧ g2 < w.heap.size)) :
    (w'.cell? ⟨g, 0, none⟩ = some (.int .i64 m) ∧ w'.cell? ⟨g, 1, none⟩ = some (.int .i64 d) ∧ w'.cell? ⟨g, 2, none⟩ = some (.slice A n c) ∧ g < w'.heap.size) ∧ (w'.cell? ⟨g1, 0, none⟩ = some (.int .i64 m1) ∧ w'.cell? ⟨g1, 1, none⟩ = some (.slice A1 n1 c1) ∧ g1 < w'.heap.size) ∧ (w'.cell? ⟨g2, 0, none⟩ = some (.int .i64 m2) ∧ w'.cell? ⟨g2, 1, none⟩ = some (.slice A2 n2 c2) ∧ g2 < w'.heap.size) :=
  ⟨GBox.keep (show GBox w g m d A n c from h.1) hb, Box.keep (show Box w g1 m1 A1 n1 c1 from h.2.1) hb, Box.keep (show Box w g2 m2 A2 n2 c2 from h.2.2) hb⟩
theorem k3_store {w : World} {b g g1 g2 : Nat} {m : Int} {d : Nat} {A : Option Addr} {n c : Nat} {m1 : Int} {A1 : Option Addr} {n1 c1 : Nat} {m2 : Int} {A2 : Option Addr} {n2 c2 : Nat} {x y z : Value} (e0 : b ≠ g) (e1 : b ≠ g1) (e2 : b ≠ g2)
    (h : (w.cell? ⟨g, 0, none⟩ = some (.int .i64 m) ∧ w.cell? ⟨g, 1, none⟩ = some (.int .i64 d) ∧ w.cell? ⟨g, 2, none⟩ = some (.slice A n c) ∧ g < w.heap.size) ∧ (w.cell? ⟨g1, 0, none⟩ = some (.int .i64 m1) ∧ w.cell? ⟨g1, 1, none⟩ = some (.slice A1 n1 c1) ∧ g1 < w.heap.size) ∧ (w.cell? ⟨g2, 0, none⟩ = some (.int .i64 m2) ∧ w.cell? ⟨g2, 1, none⟩ = some (.slice A2 n2 c2) ∧ g2 < w.heap.size)) :
    let w' := ((w.setCell ⟨b, 0, none⟩ x).setCell ⟨b, 1, none⟩ y).setCell ⟨b, 2, none⟩ z
    (w'.cell? ⟨g, 0, none⟩ = some (.int .i64 m) ∧ w'.cell? ⟨g, 1, none⟩ = some (.int .i64 d) ∧ w'.cell? ⟨g, 2, none⟩ = some (.slice A n c) ∧ g < w'.heap.size) ∧ (w'.cell? ⟨g1, 0, none⟩ = some (.int .i64 m1) ∧ w'.cell? ⟨g1, 1, none⟩ = some (.slice A1 n1 c1) ∧ g1 < w'.heap.size) ∧ (w'.cell? ⟨g2, 0, none⟩ = some (.int .i64 m2) ∧ w'.cell? ⟨g2, 1, none⟩ = some (.slice A2 n2 c2) ∧ g2 < w'.heap.size) :=
  ⟨(((show GBox w g m d A n c from h.1).far b 0 x e0).far b 1 y e0).far b 2 z e0, (((show Box w g1 m1 A1 n1 c1 from h.2.1).far b 0 x e1).far b 1 y e1).far b 2 z e1, (((show Box w g2 m2 A2 n2 c2 from h.2.2).far b 0 x e2).far b 1 y e2).far b 2 z e2⟩

theorem wc_tables {m : Int} {d : Nat} {t : List (List Int)} {l1 l2 : List Int} (z1 : Ser.co l1 0 = 0) (z2 : Ser.co l2 0 = 0) :
    Pl.tab m d (fun i j => Pl.pc (Pl.tab m d (wcyF (Pl.tab m d fun i j => Pl.pc (Pl.tab m d (wcyF t l2)) j i) l1)) j i) = Pl.botT m d (Pl.pc t) l1 l2 := by
  unfold Pl.botT
  rw [← Pl.steps (m := m) (d := d) (F := Pl.pc t) z1 z2]
  have e : (Pl.tab m d fun i j => Pl.pc (Pl.tab m d (wcyF t l2)) j i) = Pl.tab m d fun q' i => Ser.comp (Pl.pc t i) (Ser.co l2) q' :=
    Pl.tab_congr (fun p q h => by rw [Pl.pc_tab (by omega), Int.emod_emod]; rfl)
  rw [e]
  exact Pl.tab_congr (fun p q h => by rw [Pl.pc_tab (by omega), Int.emod_emod]; rfl)


/-! the diagonal -/
end Go.Proofs.Ytakdmnecllcmnaa

