/- Variables of series: what a store into one leaves alone; making one of a monomial. -/
import Derived.Test.YtcnkpfikafaocaaMul
import Derived.Test.YtcnkpfikafaocaaFrm
import Derived.Deep.DeepCutAuto
namespace Go.Proofs.Ytcnkpfikafaocaa
open Go.RowKit Go.WideShapes Go.ChangeShapes Go.ChangeAt

theorem t_ne : ¬ (2 : TypeId) = (26 : TypeId) := by decide
theorem own_ne_var {w : World} {g base : Nat} {x y : Value} {v : Value} {l : List Int} (hv : Var2 w g x y) (h : OwnI w base v l) : v.ownBlock ≠ some g := by
  intro e
  unfold OwnI at h
  unfold Var2 at hv
  rcases h.2 with ⟨rfl, _⟩ | ⟨g', cap, cur, rfl, _, hg, _⟩
  · simp [Value.ownBlock] at e
  · simp [Value.ownBlock] at e
    subst e
    rw [hg] at hv
    injection hv with hv
    injection hv with _ hv
    exact t_ne hv
theorem OwnI.set2 {w : World} {g base : Nat} {x y : Value} {v : Value} {l : List Int} (h : OwnI w base v l) (hv : Var2 w g x y) (x' y' : Value) : OwnI (set2 w g x' y') base v l :=
  h.other (grown_set2 w g x' y') (.inr (own_ne_var hv h))
theorem Var2.set2' {w : World} {g g' : Nat} {x y : Value} (h : Var2 w g x y) (hne : g' ≠ g) (x' y' : Value) : Var2 (Proofs.Ytcnkpfikafaocaa.set2 w g' x' y') g x y := (h.far g' 0 x' hne).far g' 1 y' hne
theorem RI.set2 {w : World} {g : Nat} {x : Int} {A' : Option Addr} {n c : Nat} {A : Option Addr} {l : List Int} (h : RI w A l) (hv : Var2 w g (.int .i64 x) (.slice A' n c)) (hl : 2 ≤ l.length) (x' y' : Value) : RI (Proofs.Ytcnkpfikafaocaa.set2 w g x' y') A l := by
  intro hne
  obtain ⟨b, off, e, hlt, hc⟩ := h hne
  have hbg : b ≠ g := by
    rintro rfl
    have h0 := hc 0 (by omega)
    have h1 := hc 1 (by omega)
    unfold Var2 at hv
    simp only [World.cell?, hv] at h0 h1
    match off, h0, h1 with
    | 0, h0, h1 => simp at h1
    | off + 1, h0, h1 => simp at h1
  refine ⟨b, off, e, by simpa [Proofs.Ytcnkpfikafaocaa.set2, World.setCell] using hlt, fun k hk => ?_⟩
  have h1 : (w.setCell ⟨g, 0, none⟩ x').cell? ⟨b, off + k, none⟩ = w.cell? ⟨b, off + k, none⟩ := World.cell?_setCell_other _ _ _ _ (by intro e; injection e with e; exact hbg e.symm)
  have h2 : (Proofs.Ytcnkpfikafaocaa.set2 w g x' y').cell? ⟨b, off + k, none⟩ = (w.setCell ⟨g, 0, none⟩ x').cell? ⟨b, off + k, none⟩ := World.cell?_setCell_other _ _ _ _ (by intro e; injection e with e; exact hbg e.symm)
  rw [h2, h1]
  exact hc k hk
theorem RI.drew {w : World} {A : Option Addr} {l : List Int} (h : RI w A l) : RI w.drew A l := h

/-- a variable made of a result: the store comes into a variable that lay there before the call, or into a new one -/
theorem reg_fin2 {wk cur wd : World} {g : Nat} {A : Option Addr} {n c : Nat} {l : List Int} {x y : Value} (hk : wk.heap.size ≤ g) (hgc : g < cur.heap.size) (hv : Var2 wd g x y) (ho : OwnI wd cur.heap.size (.slice A n c) l) (hb : Below wk.heap.size wk wd) (M : Int) :
    Var2 ((wd.setCell ⟨g, 0, none⟩ (.int .i64 M)).setCell ⟨g, 1, none⟩ (.slice A n c)) g (.int .i64 M) (.slice A n c) ∧ OwnI ((wd.setCell ⟨g, 0, none⟩ (.int .i64 M)).setCell ⟨g, 1, none⟩ (.slice A n c)) wk.heap.size (.slice A n c) l ∧
    Below wk.heap.size wk ((wd.setCell ⟨g, 0, none⟩ (.int .i64 M)).setCell ⟨g, 1, none⟩ (.slice A n c)) ∧ wk.heap.size ≤ g := by
  obtain ⟨f0, f1, f2, f3⟩ := fin_var (w := wk) hv ho hgc hk hb (.int .i64 M) (.slice A n c)
  exact ⟨hv.set2 _ _, f2, f3, hk⟩
theorem reg_new2 {wk cur wd : World} {A : Option Addr} {n c : Nat} {l : List Int} (hk : wk.heap.size ≤ cur.heap.size) (ho : OwnI wd cur.heap.size (.slice A n c) l) (hb : Below wk.heap.size wk wd) (M : Int) :
    Var2 (wd.alloc (.cells #[.int .i64 M, .slice A n c] 26)) wd.heap.size (.int .i64 M) (.slice A n c) ∧ OwnI (wd.alloc (.cells #[.int .i64 M, .slice A n c] 26)) wk.heap.size (.slice A n c) l ∧
    Below wk.heap.size wk (wd.alloc (.cells #[.int .i64 M, .slice A n c] 26)) ∧ wk.heap.size ≤ wd.heap.size :=
  ⟨Var2.new _ _ _, (ho.keep (below_one _ _)).more hk, below_alloc _ hb, hb.size⟩
theorem one_in {W w' : World} {g : Nat} {m : Int} {A : Option Addr} {n c : Nat} (h : Box W g m A n c) (hb : Below W.heap.size W w') :
    (w'.cell? ⟨g, 0, none⟩ = some (.int .i64 m) ∧ w'.cell? ⟨g, 1, none⟩ = some (.slice A n c)) ∧ True ∧ Below W.heap.size W w' := ⟨box_in h hb, trivial, hb⟩
end Go.Proofs.Ytcnkpfikafaocaa
