/- Plain facts about tables of coefficients in two variables: no program in sight. -/
import Derived.Test.YtjgpdgoclianlaaSeL
namespace Go.Proofs.Ytjgpdgoclianlaa
namespace Pl

/-- row i of a table; the coefficient at x^i y^j -/
def rw' (t : List (List Int)) (i : Nat) : List Int := t[i]?.getD []
def pc (t : List (List Int)) (i j : Nat) : Int := Ser.co (rw' t i) j
/-- the table of a degree with the remainders of f -/
def tab (m : Int) (d : Nat) (f : Nat → Nat → Int) : List (List Int) := (List.range (d + 1)).map fun i => Ser.cut m (d - i) (f i)
theorem tab_length (m : Int) (d : Nat) (f : Nat → Nat → Int) : (tab m d f).length = d + 1 := by simp [tab]
theorem tab_get (m : Int) (d : Nat) (f : Nat → Nat → Int) (i : Nat) (h : i ≤ d) : (tab m d f)[i]? = some (Ser.cut m (d - i) (f i)) := by
  unfold tab
  rw [List.getElem?_map, List.getElem?_range (by omega)]; rfl
theorem tab_row (m : Int) (d : Nat) (f : Nat → Nat → Int) (i : Nat) (h : i ≤ d) : rw' (tab m d f) i = Ser.cut m (d - i) (f i) := by
  unfold rw'; rw [tab_get m d f i h]; rfl
theorem rw_over {t : List (List Int)} {i : Nat} (h : t.length ≤ i) : rw' t i = [] := by
  unfold rw'; rw [List.getElem?_eq_none h]; rfl
theorem pc_tab {m : Int} {d : Nat} {f : Nat → Nat → Int} {i j : Nat} (h : i + j ≤ d) : pc (tab m d f) i j = f i j % m := by
  unfold pc; rw [tab_row m d f i (by omega), Ser.co_cut (by omega)]
theorem pc_over {m : Int} {d : Nat} {f : Nat → Nat → Int} {i j : Nat} (h : d < i + j) : pc (tab m d f) i j = 0 := by
  unfold pc
  by_cases hi : i ≤ d
  · rw [tab_row m d f i hi, Ser.co_over (by rw [Ser.cut_length]; omega)]
  · rw [rw_over (by rw [tab_length]; omega), Ser.co_over (Nat.zero_le _)]
/-- congruent up to the degree -/
def Eq (m : Int) (d : Nat) (f g : Nat → Nat → Int) : Prop := ∀ i j, i + j ≤ d → f i j % m = g i j % m
theorem Eq.refl (m : Int) (d : Nat) (f : Nat → Nat → Int) : Eq m d f f := fun _ _ _ => rfl
theorem Eq.of (m : Int) (d : Nat) {f g : Nat → Nat → Int} (h : ∀ i j, i + j ≤ d → f i j = g i j) : Eq m d f g := fun i j hij => by rw [h i j hij]
theorem Eq.symm {m : Int} {d : Nat} {f g : Nat → Nat → Int} (h : Eq m d f g) : Eq m d g f := fun i j hij => (h i j hij).symm
theorem Eq.trans {m : Int} {d : Nat} {f g k : Nat → Nat → Int} (h : Eq m d f g) (h' : Eq m d g k) : Eq m d f k := fun i j hij => (h i j hij).trans (h' i j hij)
theorem pc_tab_eq (m : Int) (d : Nat) (f : Nat → Nat → Int) : Eq m d (pc (tab m d f)) f := fun i j h => by rw [pc_tab h, Int.emod_emod]
theorem tab_congr {m : Int} {d : Nat} {f g : Nat → Nat → Int} (h : Eq m d f g) : tab m d f = tab m d g := by
  unfold tab
  refine List.map_congr_left (fun i hi => Ser.cut_congr (fun j hj => h i j ?_))
  have := List.mem_range.1 hi
  omega
theorem tab_ext {t : List (List Int)} {m : Int} {d : Nat} {f : Nat → Nat → Int} (hl : t.length = d + 1) (h : ∀ i, i ≤ d → rw' t i = Ser.cut m (d - i) (f i)) : t = tab m d f := by
  refine List.ext_getElem? (fun i => ?_)
  by_cases hi : i ≤ d
  · rw [tab_get m d f i hi]
    have := h i hi
    unfold rw' at this
    rw [List.getElem?_eq_getElem (by omega)] at this ⊢
    exact congrArg some this
  · rw [List.getElem?_eq_none (by omega), List.getElem?_eq_none (by rw [tab_length]; omega)]
theorem rw_set_self {t : List (List Int)} {p : Nat} (h : p < t.length) (r : List Int) : rw' (t.set p r) p = r := by
  unfold rw'; rw [List.getElem?_set_self h]; rfl
theorem rw_set_ne {t : List (List Int)} {p i : Nat} (h : p ≠ i) (r : List Int) : rw' (t.set p r) i = rw' t i := by
  unfold rw'; rw [List.getElem?_set_ne h]
/-- one number is written -/
theorem tab_put {m : Int} {d : Nat} {f g : Nat → Nat → Int} {p q : Nat} (h : p + q ≤ d) {y : Int} (hy : g p q % m = y) (hne : ∀ i j, i + j ≤ d → ¬ (i = p ∧ j = q) → g i j % m = f i j % m) :
    (tab m d f).set p ((rw' (tab m d f) p).set q y) = tab m d g := by
  refine tab_ext (by rw [List.length_set, tab_length]) (fun i hi => ?_)
  by_cases hip : p = i
  · subst hip
    rw [rw_set_self (by rw [tab_length]; omega), tab_row m d f p hi]
    refine Ser.list_ext (by rw [List.length_set, Ser.cut_length, Ser.cut_length]) (fun j hj => ?_)
    rw [List.length_set, Ser.cut_length] at hj
    rw [Ser.co_set (by rw [Ser.cut_length]; omega), Ser.co_cut (by omega), Ser.co_cut (by omega)]
    by_cases hjq : j = q
    · rw [if_pos hjq, hjq, hy]
    · rw [if_neg hjq, hne p j (by omega) (fun e => hjq e.2)]
  · rw [rw_set_ne hip, tab_row m d f i hi]
    refine Ser.cut_congr (fun j hj => ?_)
    exact (hne i j (by omega) (fun e => hip e.1.symm)).symm
/-- a table of a plane: its rows' lengths, its numbers remainders -/
structure Ok (m : Int) (d : Nat) (t : List (List Int)) : Prop where
  m1 : 2 ≤ m
  m2 : m ≤ 10000
  d1 : 1 ≤ d
  d2 : d ≤ 10
  len : t.length = d + 1
  row : ∀ i, i ≤ d → (rw' t i).length = d - i + 1
  red : ∀ i, Ser.Red m (rw' t i)
theorem Ok.self {m : Int} {d : Nat} {t : List (List Int)} (h : Ok m d t) : t = tab m d (pc t) :=
  tab_ext h.len (fun i hi => (Ser.cut_self (h.row i hi) (h.red i)).symm)
theorem Ok.pc {m : Int} {d : Nat} {t : List (List Int)} (h : Ok m d t) (i j : Nat) : 0 ≤ pc t i j ∧ pc t i j < m := h.red i j
theorem Ok.of_tab {m : Int} {d : Nat} (m1 : 2 ≤ m) (m2 : m ≤ 10000) (d1 : 1 ≤ d) (d2 : d ≤ 10) (f : Nat → Nat → Int) : Ok m d (tab m d f) := by
  refine ⟨m1, m2, d1, d2, tab_length _ _ _, fun i hi => by rw [tab_row m d f i hi, Ser.cut_length], fun i => ?_⟩
  by_cases hi : i ≤ d
  · rw [tab_row m d f i hi]; exact Ser.cut_red (by omega) _ _
  · rw [rw_over (by rw [tab_length]; omega)]
    intro j; rw [Ser.co_over (Nat.zero_le _)]; omega
theorem Ok.tab {m : Int} {d : Nat} {t : List (List Int)} (h : Ok m d t) (f : Nat → Nat → Int) : Ok m d (tab m d f) := Ok.of_tab h.m1 h.m2 h.d1 h.d2 f
/-- equal tables of planes have equal coefficients -/
theorem Ok.ext {m : Int} {d : Nat} {t u : List (List Int)} (h : Ok m d t) (h' : Ok m d u) (he : Eq m d (Pl.pc t) (Pl.pc u)) : t = u := by
  rw [h.self, h'.self]; exact tab_congr he
/-- the rows behind k are still empty -/
theorem tab_take_succ (m : Int) (d : Nat) (f : Nat → Nat → Int) (k : Nat) (h : k ≤ d) : (tab m d f).take (k + 1) = (tab m d f).take k ++ [Ser.cut m (d - k) (f k)] := by
  rw [List.take_succ_eq_append_getElem (by rw [tab_length]; omega)]
  simp [tab]
theorem tab_take_all (m : Int) (d : Nat) (f : Nat → Nat → Int) : (tab m d f).take (d + 1) = tab m d f := List.take_of_length_le (by rw [tab_length]; omega)
theorem tab_step (m : Int) (d : Nat) (f : Nat → Nat → Int) (k : Nat) (h : k ≤ d) (r : List Int) :
    ((tab m d f).take k ++ List.replicate (d + 1 - k) []).set k r = (tab m d f).take k ++ (r :: List.replicate (d + 1 - (k + 1)) []) := by
  have hl := tab_length m d f
  rw [List.set_append_right _ _ (by simp; omega), List.length_take, hl, Nat.min_eq_left (by omega), Nat.sub_self, show d + 1 - k = (d + 1 - (k + 1)) + 1 by omega, List.replicate_succ, List.set_cons_zero]
theorem tab_step2 (m : Int) (d : Nat) (f : Nat → Nat → Int) (k : Nat) (h : k ≤ d) (r r' : List Int) :
    ((tab m d f).take k ++ (r :: List.replicate (d + 1 - (k + 1)) [])).set k r' = (tab m d f).take k ++ (r' :: List.replicate (d + 1 - (k + 1)) []) := by
  have hl := tab_length m d f
  rw [List.set_append_right _ _ (by simp; omega), List.length_take, hl, Nat.min_eq_left (by omega), Nat.sub_self, List.set_cons_zero]
theorem tab_mid (m : Int) (d : Nat) (f : Nat → Nat → Int) (k : Nat) (h : k ≤ d) (r : List Int) : rw' ((tab m d f).take k ++ (r :: List.replicate (d + 1 - (k + 1)) [])) k = r := by
  have hl := tab_length m d f
  unfold rw'
  rw [List.getElem?_append_right (by simp; omega), List.length_take, hl, Nat.min_eq_left (by omega), Nat.sub_self]; rfl
theorem tab_mid_length (m : Int) (d : Nat) (f : Nat → Nat → Int) (k : Nat) (h : k ≤ d) (r : List Int) : ((tab m d f).take k ++ (r :: List.replicate (d + 1 - (k + 1)) [])).length = d + 1 := by
  have hl := tab_length m d f
  simp; omega
theorem tab_done (m : Int) (d : Nat) (f : Nat → Nat → Int) (k : Nat) (h : k ≤ d) : (tab m d f).take k ++ (Ser.cut m (d - k) (f k) :: List.replicate (d + 1 - (k + 1)) []) = (tab m d f).take (k + 1) ++ List.replicate (d + 1 - (k + 1)) [] := by
  rw [tab_take_succ m d f k h, List.append_assoc]; rfl
end Pl
end Go.Proofs.Ytjgpdgoclianlaa
