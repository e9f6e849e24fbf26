/- Texts of contracts, joined. -/
import Derived.Test.YtfhdgcndiljjcabMgal
import Derived.Test.YtfhdgcndiljjcabMgaa
import Derived.Test.YtfhdgcndiljjcabMgai
import Derived.Test.YtfhdgcndiljjcabMgah
import Derived.Test.YtfhdgcndiljjcabMgag
/- Contracts of the law of a plane, its lines and sums. -/
namespace Go.Proofs.Ytfhdgcndiljjcab
open Go.RowKit Go.WideShapes Go.ChangeShapes Go.ChangeAt

end Go.Proofs.Ytfhdgcndiljjcab

/- Contracts of the model's tables of a law: a list shorter than its degree put upon a plane; columns; the code of a law. -/
namespace Go.Proofs.Ytfhdgcndiljjcab
open Go.RowKit Go.WideShapes Go.ChangeShapes Go.ChangeAt

end Go.Proofs.Ytfhdgcndiljjcab

/- Contracts of the model's look for faults, of IsLaw and LawFault. -/
namespace Go.Proofs.Ytfhdgcndiljjcab
open Go.RowKit Go.WideShapes Go.ChangeShapes Go.ChangeAt

theorem OwnI.lit0 (w : World) : OwnI (w.alloc (.cells #[] 2)) w.heap.size (.slice (some ⟨w.heap.size, 0, none⟩) 0 0) [] :=
  ⟨rfl, .inr ⟨w.heap.size, 0, #[], rfl, Nat.le_refl _, heap_alloc_new w _, Nat.le_refl _, Nat.zero_le _, rfl, rfl⟩⟩
theorem OwnT.lit0 (w : World) (pre : List Value) (e : TypeId) : OwnT pre e (w.alloc (.cells #[] e)) w.heap.size (.slice (some ⟨w.heap.size, 0, none⟩) 0 0) [] :=
  ⟨[], rfl, ⟨by simp, .inr ⟨w.heap.size, 0, #[], rfl, Nat.le_refl _, heap_alloc_new w _, Nat.le_refl _, Nat.zero_le _, by simp, by simp⟩⟩, fun i t ht => by simp at ht⟩
/-- the first n coefficients of a column -/
def colL (t : List (List Int)) (n j : Nat) : List Int := (List.range n).map fun i => Pl.pc t i j
theorem colL_length (t : List (List Int)) (n j : Nat) : (colL t n j).length = n := by simp [colL]
theorem colL_succ (t : List (List Int)) (n j : Nat) : colL t (n + 1) j = colL t n j ++ [Pl.pc t n j] := by simp [colL, List.range_succ]
theorem colL_co (t : List (List Int)) (n j i : Nat) (h : i < n) : Ser.co (colL t n j) i = Pl.pc t i j := by
  unfold Ser.co colL
  rw [List.getElem?_map, List.getElem?_range h]; rfl
theorem colL_red {m : Int} {d : Nat} {t : List (List Int)} (hs : Pl.Ok m d t) (n j : Nat) : Ser.Red m (colL t n j) := by
  intro i
  by_cases h : i < n
  · rw [colL_co _ _ _ _ h]; exact hs.pc i j
  · have : Ser.co (colL t n j) i = 0 := by
      unfold Ser.co
      rw [List.getElem?_eq_none (by rw [colL_length]; omega)]; rfl
    rw [this]
    have := hs.m1
    omega

/-! the lists of tables -/
def leftT (m : Int) (d : Nat) (t : List (List Int)) (z : Nat) : List (List Int) := Pl.horq m d (colL t (d + 1 - z) z) (Pl.pc t) (d + 1 - z)
def rightT (m : Int) (d : Nat) (t : List (List Int)) (z : Nat) : List (List Int) := Pl.horq m d (Pl.rw' t z) (Pl.pc t) (d + 1 - z)
def mapT (f : Nat → List (List Int)) (n : Nat) : List (List (List Int)) := (List.range n).map f
theorem mapT_length (f : Nat → List (List Int)) (n : Nat) : (mapT f n).length = n := by simp [mapT]
theorem mapT_succ (f : Nat → List (List Int)) (n : Nat) : mapT f (n + 1) = mapT f n ++ [f n] := by simp [mapT, List.range_succ]
theorem mapT_get (f : Nat → List (List Int)) (n i : Nat) (h : i < n) : (mapT f n)[i]?.getD [] = f i := by
  unfold mapT
  rw [List.getElem?_map, List.getElem?_range h]; rfl
theorem left_br {m : Int} {d : Nat} (t : List (List Int)) (a b z : Nat) (hab : a + b ≤ d) : Pl.pc (leftT m d t z) a b = Pl.br m d (Pl.pc t) a b z := by
  have h := Pl.horq_br (m := m) (d := d) (colL t (d + 1 - z) z) (Pl.pc t) z (by rw [colL_length]) (fun i hi => colL_co _ _ _ _ (by rw [colL_length] at hi; exact hi)) a b hab
  rw [colL_length] at h
  exact h
theorem right_br {m : Int} {d : Nat} {t : List (List Int)} (hs : Pl.Ok m d t) (hy : Pl.Sym d (Pl.pc t)) (a b z : Nat) (hz : z ≤ d) (hab : a + b ≤ d) : Pl.pc (rightT m d t z) b a = Pl.br m d (Pl.pc t) a b z := by
  have hl : (Pl.rw' t z).length = d + 1 - z := by rw [hs.row z hz]; omega
  have h := Pl.horq_br' (m := m) (d := d) (Pl.rw' t z) hy z hl (fun i _ => rfl) a b hab
  rw [hl] at h
  exact h
theorem leftT_ok {m : Int} {d : Nat} {t : List (List Int)} (hs : Pl.Ok m d t) (z : Nat) : Pl.Ok m d (leftT m d t z) := Pl.horq_ok hs.m1 hs.m2 hs.d1 hs.d2 _ _ _
theorem rightT_ok {m : Int} {d : Nat} {t : List (List Int)} (hs : Pl.Ok m d t) (z : Nat) : Pl.Ok m d (rightT m d t z) := Pl.horq_ok hs.m1 hs.m2 hs.d1 hs.d2 _ _ _
theorem infoTab : (Try.prog.info? 23).map (fun i => (i.zero, i.size, i.bytes)) = some (some (.slice none 0 0), 1, 24) := by kernel_rfl
theorem tb_ne1 : (23 : TypeId) ≠ 2 := by decide
theorem tb_ne2 : (23 : TypeId) ≠ 22 := by decide
theorem OwnT.tabl {w : World} {lo : Nat} {v : Value} {ts : List (List (List Int))} (h : OwnT [] 23 w lo v ts) (i : Nat) (hi : i < ts.length) :
    ∃ g c A' c', v = .slice (some ⟨g, 0, none⟩) ts.length c ∧ g < w.heap.size ∧ w.cell? ⟨g, i, none⟩ = some (.slice A' (ts[i]?.getD []).length c') ∧ RP w A' (ts[i]?.getD []) := by
  obtain ⟨g, c, A', c', h1, h2, h3, h4, h5, h6⟩ := h.at i hi
  have e : i * (([] : List Value).length + 1) + ([] : List Value).length = i := by simp
  rw [e] at h4
  exact ⟨g, c, A', c', h1, h2, h4, h5⟩
theorem bx_in {W w' : World} {g : Nat} {m : Int} {A : Option Addr} {n c : Nat} (h : Box W g m A n c) (hb : Below W.heap.size W w') :
    (w'.cell? ⟨g, 0, none⟩ = some (.int .i64 m) ∧ w'.cell? ⟨g, 1, none⟩ = some (.slice A n c) ∧ g < w'.heap.size) ∧ Below W.heap.size W w' := ⟨h.keep hb, hb⟩
theorem bxc_in {W w' : World} {g b o : Nat} {m : Int} {A : Option Addr} {n c : Nat} {x : Value} (h : Box W g m A n c) (hc : W.cell? ⟨b, o, none⟩ = some x) (hlt : b < W.heap.size) (hb : Below W.heap.size W w') :
    (w'.cell? ⟨g, 0, none⟩ = some (.int .i64 m) ∧ w'.cell? ⟨g, 1, none⟩ = some (.slice A n c) ∧ g < w'.heap.size) ∧ w'.cell? ⟨b, o, none⟩ = some x ∧ Below W.heap.size W w' := ⟨h.keep hb, (hb.cell (p := ⟨b, o, none⟩) hlt).trans hc, hb⟩
theorem tri_num {w : World} {lo : Nat} {m : Int} {d : Nat} {t : List (List Int)} {A9 A10 : Option Addr} {n c9 c10 : Nat} (hs : Pl.Ok m d t) (hy : Pl.Sym d (Pl.pc t)) (h1 : OwnT [] 23 w lo (.slice A9 n c9) (mapT (leftT m d t) n)) (h2 : OwnT [] 23 w lo (.slice A10 n c10) (mapT (rightT m d t) n)) (hn : n = d + 1)
    (a b e : Nat) (W0 : World) (hab : a + b + e ≤ d) (h : Below w.heap.size w W0) :
    (∃ g A' c' b4 o4 b5 o5 c5, A9 = some ⟨g, 0, none⟩ ∧ W0.cell? ⟨g, e, none⟩ = some (.slice A' (d + 1) c') ∧ A' = some ⟨b4, o4, none⟩ ∧ W0.cell? ⟨b4, o4 + a, none⟩ = some (.slice (some ⟨b5, o5, none⟩) (d - a + 1) c5) ∧ W0.cell? ⟨b5, o5 + b, none⟩ = some (.int .i64 (Pl.br m d (Pl.pc t) a b e))) ∧
    (∃ g A' c' b4 o4 b5 o5 c5, A10 = some ⟨g, 0, none⟩ ∧ W0.cell? ⟨g, a, none⟩ = some (.slice A' (d + 1) c') ∧ A' = some ⟨b4, o4, none⟩ ∧ W0.cell? ⟨b4, o4 + b, none⟩ = some (.slice (some ⟨b5, o5, none⟩) (d - b + 1) c5) ∧ W0.cell? ⟨b5, o5 + e, none⟩ = some (.int .i64 (Pl.br m d (Pl.pc t) e b a))) := by
  refine ⟨?_, ?_⟩
  · obtain ⟨g, c, A', c', e0, k0, k1, k2⟩ := (h1.keep h).tabl e (by rw [mapT_length]; omega)
    rw [mapT_get _ _ _ (by omega)] at k1 k2
    have ok := leftT_ok hs e
    obtain ⟨b4, o4, b5, o5, c5, e4, -, k5, -, k6⟩ := k2.num a b (by rw [ok.len]; omega) (by rw [ok.row a (by omega)]; omega)
    rw [ok.len] at k1
    rw [ok.row a (by omega)] at k5
    rw [left_br t a b e (by omega)] at k6
    injection e0 with e0
    exact ⟨g, A', c', b4, o4, b5, o5, c5, e0, k1, e4, k5, k6⟩
  · obtain ⟨g, c, A', c', e0, k0, k1, k2⟩ := (h2.keep h).tabl a (by rw [mapT_length]; omega)
    rw [mapT_get _ _ _ (by omega)] at k1 k2
    have ok := rightT_ok hs a
    obtain ⟨b4, o4, b5, o5, c5, e4, -, k5, -, k6⟩ := k2.num b e (by rw [ok.len]; omega) (by rw [ok.row b (by omega)]; omega)
    rw [ok.len] at k1
    rw [ok.row b (by omega)] at k5
    rw [right_br hs hy e b a (by omega) (by omega)] at k6
    injection e0 with e0
    exact ⟨g, A', c', b4, o4, b5, o5, c5, e0, k1, e4, k5, k6⟩
theorem ne_turn {a b : Option Nat} (h : a = none ∨ a ≠ b) : b = none ∨ b ≠ a := by
  rcases h with h | h
  · subst h
    cases b with
    | none => exact .inl rfl
    | some x => exact .inr (fun e => by cases e)
  · exact .inr (Ne.symm h)
theorem no_pre : ∀ y, y ∈ ([] : List Value) → y.oneCell' = true := fun y hy => by simp at hy
theorem bxs_call {W w w' : World} {g : Nat} {x y : Value} (hb : Below w.heap.size w w') (h : (w.cell? ⟨g, 0, none⟩ = some x ∧ w.cell? ⟨g, 1, none⟩ = some y ∧ g < w.heap.size) ∧ Below W.heap.size W w) :
    (w'.cell? ⟨g, 0, none⟩ = some x ∧ w'.cell? ⟨g, 1, none⟩ = some y ∧ g < w'.heap.size) ∧ Below W.heap.size W w' :=
  ⟨⟨(hb.cell (p := ⟨g, 0, none⟩) h.1.2.2).trans h.1.1, (hb.cell (p := ⟨g, 1, none⟩) h.1.2.2).trans h.1.2.1, Nat.lt_of_lt_of_le h.1.2.2 hb.size⟩, below_step h.2 hb⟩
theorem bxs_push {W w w' : World} {g : Nat} {x y : Value} (hg : g < W.heap.size) (hb : Below W.heap.size w w') (h : (w.cell? ⟨g, 0, none⟩ = some x ∧ w.cell? ⟨g, 1, none⟩ = some y ∧ g < w.heap.size) ∧ Below W.heap.size W w) :
    (w'.cell? ⟨g, 0, none⟩ = some x ∧ w'.cell? ⟨g, 1, none⟩ = some y ∧ g < w'.heap.size) ∧ Below W.heap.size W w' :=
  ⟨⟨(hb.cell (p := ⟨g, 0, none⟩) hg).trans h.1.1, (hb.cell (p := ⟨g, 1, none⟩) hg).trans h.1.2.1, Nat.lt_of_lt_of_le h.1.2.2 hb.size⟩, h.2.trans hb⟩
theorem thr3 {p q r : Prop} (h : p ∧ q ∧ r) : r := h.2.2
theorem rp_num_in {W : World} {b off : Nat} {m : Int} {d : Nat} {t : List (List Int)} (hr : RP W (some ⟨b, off, none⟩) t) (hs : Pl.Ok m d t) (i j : Nat) (W0 : World) (hij : i + j ≤ d) (h : Below W.heap.size W W0) :
    ∃ b' off' c' N, N = d - i + 1 ∧ W0.cell? ⟨b, off + i, none⟩ = some (.slice (some ⟨b', off', none⟩) N c') ∧ W0.cell? ⟨b', off' + j, none⟩ = some (.int .i64 (Pl.pc t i j)) := by
  obtain ⟨b0, off0, b', off', c', e, hb, k1, hb', k2⟩ := hr.num i j (by rw [hs.len]; omega) (by rw [hs.row i (by omega)]; omega)
  injection e with e
  injection e with e1 e2
  subst e1 e2
  exact ⟨b', off', c', _, hs.row i (by omega), (h.cell (p := ⟨b, off + i, none⟩) hb).trans k1, (h.cell (p := ⟨b', off' + j, none⟩) hb').trans k2⟩
/-! the model's answers -/
theorem fau_isNone {m : Int} {d : Nat} {F : Nat → Nat → Int} : (decide ((((Pl.fau m d F).getD []).length : Int) = 0)) = (Pl.fau m d F).isNone := by
  cases h : Pl.fau m d F with
  | none => rfl
  | some x =>
    have := (fau_len h).1
    simp
    intro e
    subst e
    simp at this
end Go.Proofs.Ytfhdgcndiljjcab

/- Contracts of layers and of the agreement of two laws. -/
namespace Go.Proofs.Ytfhdgcndiljjcab
open Go.RowKit Go.WideShapes Go.ChangeShapes Go.ChangeAt

/-- the coefficients of one degree -/
def layC (m : Int) (t : List (List Int)) (n : Nat) : List Int := Ser.cut m n fun i => Pl.pc t i (n - i)
theorem layC_length (m : Int) (t : List (List Int)) (n : Nat) : (layC m t n).length = n + 1 := Ser.cut_length _ _ _
theorem layC_co {m : Int} {d : Nat} {t : List (List Int)} (hs : Pl.Ok m d t) (n i : Nat) (h : i ≤ n) : Ser.co (layC m t n) i = Pl.pc t i (n - i) := by
  unfold layC
  rw [Ser.co_cut h]
  have := hs.pc i (n - i)
  exact Int.emod_eq_of_lt this.1 this.2
/-- two tables agree in one degree -/
def eqL (m : Int) (t t' : List (List Int)) (n : Nat) : Bool := decide (layC m t n = layC m t' n)
theorem eqL_yes {m : Int} {d : Nat} {t t' : List (List Int)} (hs : Pl.Ok m d t) (hs' : Pl.Ok m d t') (n : Nat) (h : ∀ i, i ≤ n → Pl.pc t i (n - i) = Pl.pc t' i (n - i)) : eqL m t t' n = true :=
  list_same (by rw [layC_length, layC_length]) (fun j hj => by
    rw [layC_length] at hj
    rw [layC_co hs n j (by omega), layC_co hs' n j (by omega), h j (by omega)])
theorem eqL_no {m : Int} {d : Nat} {t t' : List (List Int)} (hs : Pl.Ok m d t) (hs' : Pl.Ok m d t') (n i : Nat) (hi : i ≤ n) (h : ¬ Pl.pc t i (n - i) = Pl.pc t' i (n - i)) : eqL m t t' n = false :=
  list_ne i (by rw [layC_co hs n i hi, layC_co hs' n i hi]; exact h)
/-- from k on, as far as the next degree agrees -/
def agr (E : Nat → Bool) : Nat → Nat → Nat
  | 0, k => k
  | n + 1, k => if E (k + 1) = true then agr E n (k + 1) else k
theorem agr_go {E : Nat → Bool} {d k o : Nat} (hk : k < d) (h : agr E (d - k) k = o) (he : E (k + 1) = true) : agr E (d - (k + 1)) (k + 1) = o := by
  rw [show d - k = (d - (k + 1)) + 1 by omega, agr, if_pos he] at h
  exact h
theorem agr_no {E : Nat → Bool} {d k o : Nat} (hk : k < d) (h : agr E (d - k) k = o) (he : E (k + 1) = false) : o = k := by
  rw [show d - k = (d - (k + 1)) + 1 by omega, agr, if_neg (by rw [he]; decide)] at h
  exact h.symm
theorem agr_le (E : Nat → Bool) : ∀ n k, k ≤ agr E n k ∧ agr E n k ≤ k + n := by
  intro n
  induction n with
  | zero => intro k; exact ⟨Nat.le_refl _, Nat.le_refl _⟩
  | succ n ih =>
    intro k
    rw [agr]
    split
    · have := ih (k + 1); omega
    · omega
/-- laws agree in degree 1 -/
theorem law_one {m : Int} {d : Nat} {t t' : List (List Int)} (hs : Pl.Ok m d t) (hs' : Pl.Ok m d t') (h : Pl.fau m d (Pl.pc t) = none) (h' : Pl.fau m d (Pl.pc t') = none) : eqL m t t' 1 = true := by
  have hd1 := hs.d1
  have key : ∀ {u : List (List Int)}, Pl.Ok m d u → Pl.fau m d (Pl.pc u) = none → ∀ i, i ≤ 1 → Pl.pc u i (1 - i) = 1 := by
    intro u hu hf i hi
    have hN : Pl.fauP d (Pl.pc u) = none ∧ Pl.fauS d (Pl.pc u) = none := by
      unfold Pl.fau at hf
      cases h1 : Pl.fauP d (Pl.pc u) with
      | some x => rw [h1] at hf; cases hf
      | none =>
        rw [h1, Pl.orE_none] at hf
        cases h2 : Pl.fauS d (Pl.pc u) with
        | some x => rw [h2] at hf; cases hf
        | none => exact ⟨rfl, rfl⟩
    have hn := Pl.norm_of hN.1 hN.2 (fun i j hij => hu.over i j hij)
    match i, hi with
    | 0, _ => exact (hn.y 1 (by omega)).trans rfl
    | 1, _ => exact (hn.x 1 (by omega)).trans rfl
  exact eqL_yes hs hs' 1 (fun i hi => by rw [key hs h i hi, key hs' h' i hi])
end Go.Proofs.Ytfhdgcndiljjcab

/- Plain facts of laws: their rows, lines and inverses. -/
namespace Go.Proofs.Ytfhdgcndiljjcab
open Go.RowKit Go.WideShapes Go.ChangeShapes Go.ChangeAt

namespace Pl
theorem fau_parts {m : Int} {d : Nat} {F : Nat → Nat → Int} (h : fau m d F = none) : fauP d F = none ∧ fauS d F = none := by
  unfold fau at h
  cases h1 : fauP d F with
  | some x => rw [h1] at h; cases h
  | none =>
    rw [h1, orE_none] at h
    cases h2 : fauS d F with
    | some x => rw [h2] at h; cases h
    | none => exact ⟨rfl, rfl⟩
theorem norm_law {m : Int} {d : Nat} {t : List (List Int)} (h : fau m d (pc t) = none) (hs : Ok m d t) : Norm d (pc t) := norm_of (fau_parts h).1 (fau_parts h).2 (fun i j hij => hs.over i j hij)
theorem lin_ok {m : Int} {d : Nat} (m1 : 2 ≤ m) (m2 : m ≤ 10000) (d1 : 1 ≤ d) (d2 : d ≤ 10) (u : Int) : SerOk m d (lin m d u) := ⟨m1, m2, d1, d2, Ser.cut_length _ _ _, Ser.cut_red (by omega) _ _⟩
theorem lin_zero (m : Int) (d : Nat) (u : Int) : Ser.co (lin m d u) 0 = 0 := by
  unfold lin
  rw [Ser.co_cut (Nat.zero_le _)]
  unfold Ser.mon
  simp
theorem invP_ok {m : Int} {d : Nat} (m1 : 2 ≤ m) (m2 : m ≤ 10000) (d1 : 1 ≤ d) (d2 : d ≤ 10) (F : Nat → Nat → Int) (n : Nat) : SerOk m d (invP m d F n) := ⟨m1, m2, d1, d2, invP_length _ _ _ _, invP_red (by omega) _ _ _⟩
end Pl
end Go.Proofs.Ytfhdgcndiljjcab

/- Plain facts: two laws that are equal below their degree differ by a cocycle. -/
namespace Go.Proofs.Ytfhdgcndiljjcab
open Go.RowKit

/-- the table of the second less the first -/
def gapT (m : Int) (d : Nat) (t t' : List (List Int)) : List (List Int) := Pl.tab m d fun i j => Pl.pc t' i j - Pl.pc t i j
theorem agr_ge (E : Nat → Bool) : ∀ n k, k ≤ agr E n k
  | 0, k => Nat.le_refl _
  | n + 1, k => by
    unfold agr
    split
    · have := agr_ge E n (k + 1); omega
    · exact Nat.le_refl _
theorem agr_all (E : Nat → Bool) : ∀ n k j, k < j → j ≤ agr E n k → E j = true
  | 0, k, j, h1, h2 => absurd h2 (by unfold agr; omega)
  | n + 1, k, j, h1, h2 => by
    unfold agr at h2
    by_cases e : E (k + 1) = true
    · rw [if_pos e] at h2
      by_cases ej : j = k + 1
      · rw [ej]; exact e
      · exact agr_all E n (k + 1) j (by omega) h2
    · rw [if_neg e] at h2; omega
theorem lin_norm {d : Nat} {F : Nat → Nat → Int} (h : Pl.Norm d F) (hd : 1 ≤ d) : Pl.Lin F :=
  ⟨(h.x 0 (by omega)).trans rfl, (h.x 1 hd).trans rfl, (h.y 1 hd).trans rfl⟩
theorem same_below {m : Int} {d : Nat} {t t' : List (List Int)} (ok : Pl.Ok m d t) (ok' : Pl.Ok m d t') (hn : Pl.Norm d (Pl.pc t)) (hn' : Pl.Norm d (Pl.pc t')) (ha : d - 1 ≤ agr (eqL m t t') d 0) :
    ∀ i j, i + j < d → Pl.pc t i j = Pl.pc t' i j := by
  intro i j hij
  by_cases h0 : i + j = 0
  · obtain rfl : i = 0 := by omega
    obtain rfl : j = 0 := by omega
    rw [hn.x 0 (by omega), hn'.x 0 (by omega)]
  · have h := agr_all _ _ _ (i + j) (by omega) (show i + j ≤ agr (eqL m t t') d 0 by omega)
    unfold eqL at h
    have h2 := of_decide_eq_true h
    have e1 := layC_co ok (i + j) i (by omega)
    have e2 := layC_co ok' (i + j) i (by omega)
    rw [show i + j - i = j by omega] at e1 e2
    rw [← e1, ← e2, h2]
theorem gap_some {m : Int} {d : Nat} {t t' : List (List Int)} (ok : Pl.Ok m d t) (ok' : Pl.Ok m d t') (d2 : 2 ≤ d) (hf : Pl.fau m d (Pl.pc t) = none) (hf' : Pl.fau m d (Pl.pc t') = none) (ha : d - 1 ≤ agr (eqL m t t') d 0) :
    (Cyc.facO m (layC m (gapT m d t t') d) d).isSome = true := by
  have hd2 := ok.d2
  have m1 := ok.m1
  have okg : Pl.Ok m d (gapT m d t t') := Pl.Ok.of_tab ok.m1 ok.m2 (by omega) hd2 _
  have hn := Pl.norm_law hf ok
  have hn' := Pl.norm_law hf' ok'
  have hs := same_below ok ok' hn hn' ha
  have p := Pl.fau_parts hf
  have p' := Pl.fau_parts hf'
  have sF := Pl.fauS_none p.2
  have sG := Pl.fauS_none p'.2
  have tF : Pl.fauT m d (Pl.pc t) = none := by
    unfold Pl.fau at hf
    rw [p.1, p.2] at hf
    exact hf
  have tG : Pl.fauT m d (Pl.pc t') = none := by
    unfold Pl.fau at hf'
    rw [p'.1, p'.2] at hf'
    exact hf'
  have hpc : ∀ i j, i + j ≤ d → Pl.pc (gapT m d t t') i j = (Pl.pc t' i j - Pl.pc t i j) % m := fun i j h => by unfold gapT; rw [Pl.pc_tab h]
  have hsym : Cyc.symZ (gapT m d t t') d = true := by
    rw [Cyc.symZ_iff]
    intro i hi
    refine ⟨by rw [hpc _ _ (by omega), hpc _ _ (by omega), sF i (d - i) (by omega), sG i (d - i) (by omega)], fun hx => ?_⟩
    rw [hpc _ _ (by omega)]
    rcases hx with rfl | rfl
    · rw [Nat.sub_zero, hn.y d (Nat.le_refl _), hn'.y d (Nat.le_refl _), Int.sub_self]; rfl
    · rw [Nat.sub_self, hn.x i (Nat.le_refl _), hn'.x i (Nat.le_refl _), Int.sub_self]; rfl
  have hcoc : Cyc.cocZ m (gapT m d t t') d = true := by
    rw [Cyc.cocZ_iff]
    intro a b ha hb hab
    have h := Pl.gap_coc (m := m) hd2 (lin_norm hn (by omega)) (lin_norm hn' (by omega)) hs sF sG tF tG a b ha hb hab
    rw [Cyc.cocN_emod m _ d a b hab, hpc _ _ (by omega), hpc _ _ (by omega)]
    rw [Int.sub_emod, Int.mul_emod, Int.emod_emod, ← Int.mul_emod, Int.mul_emod _ ((Pl.pc t' a (d - a) - Pl.pc t a (d - a)) % m), Int.emod_emod, ← Int.mul_emod, ← Int.sub_emod]
    exact h
  exact (Cyc.isC_iff ok.m1 ok.m2 okg d2 hd2 (l := layC m (gapT m d t t') d) (fun i hi => layC_co okg d i hi)).1 ⟨hsym, hcoc⟩
end Go.Proofs.Ytfhdgcndiljjcab

/- Plain: what a change of the last parameter that a degree needs does to the model's typical law. -/
namespace Go.Proofs.Ytfhdgcndiljjcab
open Go.RowKit
namespace Pl

theorem mul2_zero_at {a b : Nat → Nat → Int} (p q : Nat) (h : ∀ k l, k ≤ p → l ≤ q → a k l * b (p - k) (q - l) = 0) : mul2 a b p q = 0 := by
  unfold mul2
  rw [Ser.psum_ext (g := fun _ => 0) _ (fun k hk => (Ser.psum_ext (g := fun _ => 0) _ (fun l hl => h k l (by omega) (by omega))).trans (Ser.psum_zero _))]
  exact Ser.psum_zero _
theorem mul2_ext_at {a b a' b' : Nat → Nat → Int} (p q : Nat) (h : ∀ k l, k ≤ p → l ≤ q → a k l * b (p - k) (q - l) = a' k l * b' (p - k) (q - l)) : mul2 a b p q = mul2 a' b' p q := by
  unfold mul2
  exact Ser.psum_ext _ (fun k hk => Ser.psum_ext _ (fun l hl => h k l (by omega) (by omega)))
theorem pwF_low {F : Nat → Nat → Int} (h0 : F 0 0 = 0) : ∀ q i j, i + j < q → pwF F q i j = 0 := by
  intro q
  induction q with
  | zero => intro i j h; omega
  | succ q ih =>
    intro i j h
    refine mul2_zero_at i j (fun k l hk hl => ?_)
    by_cases h1 : k + l < q
    · rw [ih k l h1, Int.zero_mul]
    · rw [show i - k = 0 by omega, show j - l = 0 by omega, h0, Int.mul_zero]
theorem pwF_lead {F G : Nat → Nat → Int} (h0 : F 0 0 = 0) (g0 : G 0 0 = 0) (h : ∀ i j, i + j ≤ 1 → F i j = G i j) : ∀ q i j, i + j ≤ q → pwF F q i j = pwF G q i j := by
  intro q
  induction q with
  | zero => intro i j _; rfl
  | succ q ih =>
    intro i j hij
    refine mul2_ext_at i j (fun k l hk hl => ?_)
    by_cases h1 : k + l < q
    · rw [pwF_low h0 q k l h1, pwF_low g0 q k l h1, Int.zero_mul, Int.zero_mul]
    · by_cases h2 : k + l ≤ q
      · rw [ih k l h2, h _ _ (by omega)]
      · rw [show i - k = 0 by omega, show j - l = 0 by omega, h0, g0, Int.mul_zero, Int.mul_zero]
theorem xyF_mon : xyF = pl (mon2 0 1) (mon2 1 0) := by
  funext i j
  rfl
theorem pwF_xy : ∀ q i j, pwF xyF q i j = if i + j = q then ((Num.bin q i : Nat) : Int) else 0 := by
  intro q
  induction q with
  | zero =>
    intro i j
    show one2 1 i j = _
    unfold one2
    by_cases h : i + j = 0
    · obtain ⟨rfl, rfl⟩ : i = 0 ∧ j = 0 := by omega
      rfl
    · rw [if_neg h]
      first | rw [if_neg (by omega)] | (split <;> first | omega | rfl)
  | succ q ih =>
    intro i j
    show mul2 (pwF xyF q) xyF i j = _
    rw [xyF_mon, mul2_pl]
    show mul2 (pwF (pl (mon2 0 1) (mon2 1 0)) q) (mon2 0 1) i j + mul2 (pwF (pl (mon2 0 1) (mon2 1 0)) q) (mon2 1 0) i j = _
    rw [← xyF_mon, mul2_mon2, mul2_mon2, ih, ih]
    by_cases h : i + j = q + 1
    · rw [if_pos h]
      cases i with
      | zero =>
        rw [if_pos ⟨by omega, by omega⟩, if_pos (by omega), if_neg (by omega), Num.bin_zero, Num.bin_zero]; rfl
      | succ i =>
        rw [show i + 1 - 1 = i by omega, if_pos (show 1 ≤ i + 1 ∧ 0 ≤ j by omega), if_pos (show i + (j - 0) = q by omega), Num.bin_succ, Int.natCast_add]
        by_cases hj : 1 ≤ j
        · rw [if_pos ⟨by omega, hj⟩, if_pos (by omega), show i + 1 - 0 = i + 1 by omega]; omega
        · rw [if_neg (by omega), Num.bin_over q (i + 1) (by omega)]; simp
    · rw [if_neg h]
      by_cases h1 : 0 ≤ i ∧ 1 ≤ j
      · rw [if_pos h1, if_neg (by omega)]
        by_cases h2 : 1 ≤ i ∧ 0 ≤ j
        · rw [if_pos h2, if_neg (by omega)]; rfl
        · rw [if_neg h2]; rfl
      · rw [if_neg h1]
        by_cases h2 : 1 ≤ i ∧ 0 ≤ j
        · rw [if_pos h2, if_neg (by omega)]; rfl
        · rw [if_neg h2]; rfl
theorem lwF_low (p N : Nat) (top W : Int) (A : Nat → Int) : ∀ k i j, i + j ≤ 1 → lwF p N top W A k i j = xyF i j
  | 0, _, _, _ => rfl
  | k + 1, i, j, h => by
    show (if i + j = k + 2 ∧ 1 ≤ i ∧ 1 ≤ j then _ else lwF p N top W A k i j) = _
    rw [if_neg (by omega)]
    exact lwF_low p N top W A k i j h
theorem lwF_zero (p N : Nat) (top W : Int) (A : Nat → Int) (k : Nat) : lwF p N top W A k 0 0 = 0 := lwF_low p N top W A k 0 0 (by omega)
theorem lwF_side (p N : Nat) (top W : Int) (A : Nat → Int) : ∀ k i j, i = 0 ∨ j = 0 → lwF p N top W A k i j = xyF i j
  | 0, _, _, _ => rfl
  | k + 1, i, j, h => by
    show (if i + j = k + 2 ∧ 1 ≤ i ∧ 1 ≤ j then _ else lwF p N top W A k i j) = _
    rw [if_neg (by omega)]
    exact lwF_side p N top W A k i j h
theorem sub2_in (F : Nat → Nat → Int) (q i j : Nat) (h1 : 1 ≤ i) (h2 : 1 ≤ j) : sub2 F q i j = F i j := by
  unfold sub2 sub1
  rw [if_neg (by omega), if_neg (by omega)]; omega
theorem restF_last (p N : Nat) (A : Nat → Int) (F : Nat → Nat → Int) (i j : Nat) : restF p N A F (N + 1) i j = restF p N A F N i j + A N * sub2 (pwF F (p ^ N)) (p ^ N) i j := by
  show restF p N A F N i j + (p : Int) ^ (N - N) * A N * sub2 (pwF F (p ^ N)) (p ^ N) i j = _
  rw [Nat.sub_self, Int.pow_zero, Int.one_mul]
theorem restF_same (p N : Nat) {A A' : Nat → Int} (h : ∀ e, e < N → A e = A' e) (F : Nat → Nat → Int) (i j : Nat) : restF p N A F N i j = restF p N A' F N i j :=
  Ser.psum_ext _ (fun e he => by rw [h e he])
/-- below the degree p^N nothing changes -/
theorem lwF_same (p N : Nat) (top W : Int) {A A' : Nat → Int} (h : ∀ e, e < N → A e = A' e) : ∀ k, k + 1 < p ^ N → lwF p N top W A k = lwF p N top W A' k
  | 0, _ => rfl
  | k + 1, hk => by
    have ih := lwF_same p N top W h k (by omega)
    funext i j
    show (if i + j = k + 2 ∧ 1 ≤ i ∧ 1 ≤ j then _ else lwF p N top W A k i j) = (if i + j = k + 2 ∧ 1 ≤ i ∧ 1 ≤ j then _ else lwF p N top W A' k i j)
    rw [ih]
    by_cases hc : i + j = k + 2 ∧ 1 ≤ i ∧ 1 ≤ j
    · rw [if_pos hc, if_pos hc]
      unfold dueF
      rw [restF_last, restF_last, restF_same p N h, sub2_in _ _ _ _ hc.2.1 hc.2.2, pwF_low (lwF_zero p N top W A' k) _ _ _ (by omega), Int.mul_zero, Int.mul_zero]
    · rw [if_neg hc, if_neg hc]
/-- in the degree p^N the sum gets a multiple of the binomial number -/
theorem rest_top (p N : Nat) (top W : Int) {A A' : Nat → Int} (h : ∀ e, e < N → A e = A' e) (k i j : Nat) (hij : i + j = p ^ N) (h1 : 1 ≤ i) (h2 : 1 ≤ j) :
    restF p N A' (lwF p N top W A k) (N + 1) i j = restF p N A (lwF p N top W A k) (N + 1) i j + (A' N - A N) * ((Num.bin (p ^ N) i : Nat) : Int) := by
  rw [restF_last, restF_last, restF_same p N h, sub2_in _ _ _ _ h1 h2, pwF_lead (lwF_zero p N top W A k) rfl (lwF_low p N top W A k) _ _ _ (by omega), pwF_xy, if_pos hij, Int.sub_mul]
  omega
end Pl

namespace Nmr
theorem hs_diff (p : Int) {f g : Nat → Int} (n : Nat) (h : ∀ i, 1 ≤ i → i ≤ n → f i = g i) : hs p f (n + 1) = hs p g (n + 1) + p ^ n * (f 0 - g 0) := by
  induction n with
  | zero =>
    show 0 * p + f 0 = 0 * p + g 0 + p ^ 0 * (f 0 - g 0)
    rw [Int.pow_zero, Int.one_mul]; omega
  | succ n ih =>
    show hs p f (n + 1) * p + f (n + 1) = hs p g (n + 1) * p + g (n + 1) + p ^ (n + 1) * (f 0 - g 0)
    rw [ih (fun i h1 h2 => h i h1 (by omega)), h (n + 1) (by omega) (Nat.le_refl _), Int.add_mul, Int.pow_succ, Int.mul_assoc, Int.mul_comm (f 0 - g 0) p, ← Int.mul_assoc]
    omega
/-- the last parameter stands in the last numerator once -/
theorem num_diff {p : Nat} {v v' : Nat → Int} (n : Nat) (h : ∀ i, i < n → v i = v' i) : num p v' (n + 1) = num p v (n + 1) + (p : Int) ^ n * (v' n - v n) := by
  rw [num_succ, num_succ, hs_diff (p : Int) (g := fun i => num p v i * v (n - i) ^ p ^ i) n (fun i h1 h2 => by
    rw [num_ext n (fun k hk => (h k hk).symm) i (by omega), h (n - i) (by omega)])]
  rw [num_zero, num_zero, Nat.sub_zero, Nat.pow_zero, Int.pow_one, Int.pow_one, Int.one_mul, Int.one_mul]
end Nmr

theorem div_shift {W T M r z : Int} (hT : 0 < T) (hM : 0 < M) (hW : W = T * M) : ((r + T * z) % W / T) % M = (r % W / T + z) % M := by
  subst hW
  have hr := Int.emod_add_mul_ediv r (T * M)
  obtain ⟨r0, hr0⟩ : ∃ r0, r % (T * M) = r0 := ⟨_, rfl⟩
  obtain ⟨q, hq⟩ : ∃ q, r / (T * M) = q := ⟨_, rfl⟩
  rw [hr0, hq] at hr
  rw [hr0]
  have hd := Int.emod_add_mul_ediv r0 T
  have hb1 := Int.emod_nonneg r0 (show T ≠ 0 by omega)
  have hb2 := Int.emod_lt_of_pos r0 hT
  obtain ⟨b, hb⟩ : ∃ b, r0 % T = b := ⟨_, rfl⟩
  obtain ⟨a, ha⟩ : ∃ a, r0 / T = a := ⟨_, rfl⟩
  rw [hb, ha] at hd
  rw [hb] at hb1 hb2
  rw [ha]
  have hy := Int.emod_add_mul_ediv (a + z) M
  have hy1 := Int.emod_nonneg (a + z) (show M ≠ 0 by omega)
  have hy2 := Int.emod_lt_of_pos (a + z) hM
  obtain ⟨y0, hy0⟩ : ∃ y0, (a + z) % M = y0 := ⟨_, rfl⟩
  obtain ⟨u, hu⟩ : ∃ u, (a + z) / M = u := ⟨_, rfl⟩
  rw [hy0, hu] at hy
  rw [hy0] at hy1 hy2
  rw [hy0]
  have e1 : r + T * z = (T * y0 + b) + (T * M) * (u + q) := by
    rw [← hr, ← hd]
    have : T * (a + z) = T * (y0 + M * u) := by rw [hy]
    rw [Int.mul_add, Int.mul_add] at this
    rw [Int.mul_add (T * M), Int.mul_assoc T M u]
    omega
  have b1 : 0 ≤ T * y0 := Int.mul_nonneg (by omega) hy1
  have b2 : T * (y0 + 1) ≤ T * M := Int.mul_le_mul_of_nonneg_left (by omega) (by omega)
  rw [Int.mul_add, Int.mul_one] at b2
  have e2 : (T * y0 + b) % (T * M) = T * y0 + b := Int.emod_eq_of_lt (by omega) (by omega)
  rw [e1, Int.add_mul_emod_self_left, e2, Int.add_comm (T * y0) b, Int.add_mul_ediv_left _ _ (by omega), Int.ediv_eq_zero_of_lt hb1 hb2, Int.zero_add, Int.emod_eq_of_lt hy1 hy2]

namespace Pl
theorem bin_lay : ∀ p ∈ [2, 3, 5, 7], ∀ k ∈ List.range 4, 1 ≤ k → p ^ k ≤ 10 → ∀ i ∈ List.range 11, 1 ≤ i → i < p ^ k → ((Num.bin (p ^ k) i : Nat) : Int) = (p : Int) * layF (p ^ k) i := by decide +kernel
theorem need_pow : ∀ p ∈ [2, 3, 5, 7], ∀ k ∈ List.range 4, 1 ≤ k → p ^ k ≤ 10 → needN p (p ^ k) = k := by decide
/-- a whole combination of the coefficients of C(n) is 1 -/
theorem lay_one : ∀ n ∈ List.range 11, 2 ≤ n → n ≠ 6 → n ≠ 10 → ∃ i ∈ List.range 11, ∃ j ∈ List.range 11, i ≤ n ∧ j ≤ n ∧ (layF n i = 1 ∨ 9 * layF n i - layF n j = 1 ∨ layF n i - layF n j = 1 ∨ layF n i - 9 * layF n j = 1) := by decide +kernel
theorem unit_of {m x : Int} {n : Nat} (h2 : 2 ≤ n) (h10 : n ≤ 10) (n6 : n ≠ 6) (n0 : n ≠ 10) (h : ∀ i, i ≤ n → (x * layF n i) % m = 0) : x % m = 0 := by
  obtain ⟨i, _, j, _, hi, hj, hc⟩ := lay_one n (List.mem_range.2 (by omega)) h2 n6 n0
  have a := Int.dvd_of_emod_eq_zero (h i hi)
  have b := Int.dvd_of_emod_eq_zero (h j hj)
  refine Int.emod_eq_zero_of_dvd ?_
  obtain ⟨u, hu⟩ := a
  obtain ⟨v, hv⟩ := b
  obtain ⟨P, hP⟩ : ∃ P, layF n i = P := ⟨_, rfl⟩
  obtain ⟨Q, hQ⟩ : ∃ Q, layF n j = Q := ⟨_, rfl⟩
  rw [hP] at hc hu
  rw [hQ] at hc hv
  rcases hc with e | e | e | e
  · exact ⟨u, by rw [← hu, e, Int.mul_one]⟩
  · exact ⟨9 * u - v, by rw [Int.mul_sub, ← hv, Int.mul_left_comm, ← hu]; grind⟩
  · exact ⟨u - v, by rw [Int.mul_sub, ← hv, ← hu]; grind⟩
  · exact ⟨u - 9 * v, by rw [Int.mul_sub, ← hu, Int.mul_left_comm, ← hv]; grind⟩
end Pl
/-- the factor of a multiple of C(n) -/
theorem facM_mul {m x : Int} {n : Nat} {l : List Int} (m1 : 2 ≤ m) (m2 : m ≤ 10000) (h2 : 2 ≤ n) (h10 : n ≤ 10) (n6 : n ≠ 6) (n0 : n ≠ 10) (h : ∀ i, i ≤ n → Ser.co l i % m = (x * layF n i) % m) :
    Cyc.facM m l n = x % m ∧ (Cyc.facO m l n).isSome = true := by
  have hf : Cyc.Fits m l n (x % m) := fun i hi => by
    rw [Int.sub_emod, h i hi, Int.mul_emod, Int.emod_emod, ← Int.mul_emod, Int.sub_self, Int.zero_emod]
  have hu : ∀ c', Cyc.Fits m l n c' → c' % m = x % m := fun c' hc => by
    refine Int.emod_eq_emod_iff_emod_sub_eq_zero.2 (Pl.unit_of h2 h10 n6 n0 (fun i hi => ?_))
    have h1 := hc i hi
    rw [Int.sub_emod, h i hi, ← Int.sub_emod, ← Int.sub_mul] at h1
    exact h1
  constructor
  · exact Cyc.facM_first m1 m2 (Int.emod_nonneg _ (by omega)) hf (fun c' c0 c1 hc => by
      have := hu c' hc
      have hlt := Int.emod_lt_of_pos x (show 0 < m by omega)
      rw [Int.emod_eq_of_lt c0 (by omega)] at this
      omega)
  · cases hO : Cyc.facO m l n with
    | none => exact absurd hf (Cyc.facO_none m1 m2 hO _)
    | some X => rfl

end Go.Proofs.Ytfhdgcndiljjcab

