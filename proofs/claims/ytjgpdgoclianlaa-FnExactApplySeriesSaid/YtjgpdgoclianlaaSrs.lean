/- Contracts of the functions that look at series, of the program. -/
import Derived.Test.YtjgpdgoclianlaaMem
import Derived.Deep.RegionHeld3
namespace Go.Proofs.Ytjgpdgoclianlaa
open Go.RowKit Go.WideShapes Go.ChangeShapes Go.ChangeAt

theorem below_alloc {w w' : World} (o : Obj) (h : Below w.heap.size w w') : Below w.heap.size w (w'.alloc o) := h.alloc h.size o
theorem below_one (w : World) (o : Obj) : Below w.heap.size w (w.alloc o) := (Below.refl _ _).alloc (Nat.le_refl _) o

theorem degree_any (m : Int) (A : Option Addr) (n c : Nat) (w : World) (hn : n ≤ 9223372036854775807) :
    Calls Try.prog 124 #[.agg #[.int .i64 m, .slice A n c]] w fun e w' => e = .returned (.int .i64 ((n : Int) - 1)) ∧ Below w.heap.size w w' := by
  go_enter Try.func124, Try.ntmps124
  go_wp2
  go_ret
  exact ⟨rfl, below_one _ _⟩

/-- the block of a series in a variable of its own -/
def Box (w : World) (g : Nat) (m : Int) (A : Option Addr) (n c : Nat) : Prop := w.cell? ⟨g, 0, none⟩ = some (.int .i64 m) ∧ w.cell? ⟨g, 1, none⟩ = some (.slice A n c) ∧ g < w.heap.size
theorem Box.new (w : World) (m : Int) (A : Option Addr) (n c : Nat) : Box (w.alloc (.cells #[.int .i64 m, .slice A n c] 49)) w.heap.size m A n c := by
  refine ⟨?_, ?_, by simp⟩ <;> rw [World.cell?_alloc_at _ _ _ _ rfl] <;> rfl
theorem Box.keep {w w' : World} {g : Nat} {m : Int} {A : Option Addr} {n c : Nat} (h : Box w g m A n c) (hb : Below w.heap.size w w') : Box w' g m A n c :=
  ⟨(hb.cell (p := ⟨g, 0, none⟩) h.2.2).trans h.1, (hb.cell (p := ⟨g, 1, none⟩) h.2.2).trans h.2.1, Nat.lt_of_lt_of_le h.2.2 hb.size⟩

theorem box_in {W w' : World} {g : Nat} {m : Int} {A : Option Addr} {n c : Nat} (h : Box W g m A n c) (hb : Below W.heap.size W w') : w'.cell? ⟨g, 0, none⟩ = some (.int .i64 m) ∧ w'.cell? ⟨g, 1, none⟩ = some (.slice A n c) :=
  ⟨(h.keep hb).1, (h.keep hb).2.1⟩
theorem box2_in {W w' : World} {g g' : Nat} {m m' : Int} {A A' : Option Addr} {n c n' c' : Nat} (h : Box W g m A n c) (h' : Box W g' m' A' n' c') (hb : Below W.heap.size W w') :
    (w'.cell? ⟨g, 0, none⟩ = some (.int .i64 m) ∧ w'.cell? ⟨g, 1, none⟩ = some (.slice A n c)) ∧ (w'.cell? ⟨g', 0, none⟩ = some (.int .i64 m') ∧ w'.cell? ⟨g', 1, none⟩ = some (.slice A' n' c')) ∧ Below W.heap.size W w' :=
  ⟨box_in h hb, box_in h' hb, hb⟩
theorem box2_next {W w w' : World} {g g' : Nat} {m m' : Int} {A A' : Option Addr} {n c n' c' : Nat} {p q : Prop} (h : Box W g m A n c) (h' : Box W g' m' A' n' c') (hb : Below w.heap.size w w') (hs : p ∧ q ∧ Below W.heap.size W w) :
    (w'.cell? ⟨g, 0, none⟩ = some (.int .i64 m) ∧ w'.cell? ⟨g, 1, none⟩ = some (.slice A n c)) ∧ (w'.cell? ⟨g', 0, none⟩ = some (.int .i64 m') ∧ w'.cell? ⟨g', 1, none⟩ = some (.slice A' n' c')) ∧ Below W.heap.size W w' :=
  box2_in h h' (hs.2.2.trans (hb.mono hs.2.2.size))
theorem box1_in {W w' : World} {g : Nat} {m : Int} {A : Option Addr} {n c : Nat} (h : Box W g m A n c) (hb : Below W.heap.size W w') :
    (w'.cell? ⟨g, 0, none⟩ = some (.int .i64 m) ∧ w'.cell? ⟨g, 1, none⟩ = some (.slice A n c)) ∧ Below W.heap.size W w' := ⟨box_in h hb, hb⟩
theorem box1_next {W w w' : World} {g : Nat} {m : Int} {A : Option Addr} {n c : Nat} {p : Prop} (h : Box W g m A n c) (hb : Below w.heap.size w w') (hs : p ∧ Below W.heap.size W w) :
    (w'.cell? ⟨g, 0, none⟩ = some (.int .i64 m) ∧ w'.cell? ⟨g, 1, none⟩ = some (.slice A n c)) ∧ Below W.heap.size W w' := box1_in h (hs.2.trans (hb.mono hs.2.size))
theorem box_call {w w' : World} {g : Nat} {m : Int} {A : Option Addr} {n c : Nat} (hb : Below w.heap.size w w') (h : w.cell? ⟨g, 0, none⟩ = some (.int .i64 m) ∧ w.cell? ⟨g, 1, none⟩ = some (.slice A n c) ∧ g < w.heap.size) :
    w'.cell? ⟨g, 0, none⟩ = some (.int .i64 m) ∧ w'.cell? ⟨g, 1, none⟩ = some (.slice A n c) ∧ g < w'.heap.size := Box.keep (show Box w g m A n c from h) hb
theorem box_store {w : World} {g b : Nat} {m : Int} {A : Option Addr} {n c : Nat} {x y : Value} (hne : b ≠ g) (h : w.cell? ⟨g, 0, none⟩ = some (.int .i64 m) ∧ w.cell? ⟨g, 1, none⟩ = some (.slice A n c) ∧ g < w.heap.size) :
    ((w.setCell ⟨b, 0, none⟩ x).setCell ⟨b, 1, none⟩ y).cell? ⟨g, 0, none⟩ = some (.int .i64 m) ∧ ((w.setCell ⟨b, 0, none⟩ x).setCell ⟨b, 1, none⟩ y).cell? ⟨g, 1, none⟩ = some (.slice A n c) ∧ g < ((w.setCell ⟨b, 0, none⟩ x).setCell ⟨b, 1, none⟩ y).heap.size := by
  refine ⟨?_, ?_, by simpa [World.setCell] using h.2.2⟩
  · rw [World.cell?_setCell_other _ _ _ _ (by intro e; injection e with e; exact hne e), World.cell?_setCell_other _ _ _ _ (by intro e; injection e with e; exact hne e)]; exact h.1
  · rw [World.cell?_setCell_other _ _ _ _ (by intro e; injection e with e; exact hne e), World.cell?_setCell_other _ _ _ _ (by intro e; injection e with e; exact hne e)]; exact h.2.1
theorem snd_of {p q : Prop} (h : p ∧ q) : q := h.2
theorem below_drew0 (w : World) : Below w.heap.size w w.drew := (Below.refl _ _).drew
theorem box2_new (w : World) (m m' : Int) (A A' : Option Addr) (n c n' c' : Nat) (W : World) (hW : ((w.alloc (.cells #[.int .i64 m, .slice A n c] 49)).alloc (.cells #[.int .i64 m', .slice A' n' c'] 49)) = W) :
    Box W w.heap.size m A n c ∧ Box W (w.heap.size + 1) m' A' n' c' ∧ Below w.heap.size w W := by
  subst hW
  have h1 := (Box.new w m A n c).keep (below_one _ (.cells #[.int .i64 m', .slice A' n' c'] 49))
  have h2 := Box.new (w.alloc (.cells #[.int .i64 m, .slice A n c] 49)) m' A' n' c'
  simp only [World.size_alloc] at h2
  exact ⟨h1, h2, below_alloc _ (below_one _ _)⟩
theorem alike_len (n n' : Nat) : ((n : Int) - 1 == (n' : Int) - 1) = decide (n = n') := by
  by_cases h : n = n'
  · subst h; simp
  · have : ¬ ((n : Int) - 1 = (n' : Int) - 1) := by omega
    simp [this, h]

set_option maxHeartbeats 1000000 in
theorem isAlike_any (m m' : Int) (A A' : Option Addr) (n c n' c' : Nat) (w : World) (hn : n ≤ 9223372036854775807) (hn' : n' ≤ 9223372036854775807) :
    Calls Try.prog 125 #[.agg #[.int .i64 m, .slice A n c], .agg #[.int .i64 m', .slice A' n' c']] w fun e w' => e = .returned (.bool (decide (m = m') && decide (n = n'))) ∧ Below w.heap.size w w' := by
  obtain ⟨W, hW⟩ : ∃ W, ((w.alloc (.cells #[.int .i64 m, .slice A n c] 49)).alloc (.cells #[.int .i64 m', .slice A' n' c'] 49)) = W := ⟨_, rfl⟩
  obtain ⟨b1, b2, hwb⟩ := box2_new w m m' A A' n c n' c' W hW
  have HB := Lib.hid hwb
  have HW := Lib.hid hW
  have B1 := Lib.hid b1
  have B2 := Lib.hid b2
  clear hwb hW b1 b2
  by_cases hm : m = m'
  · subst hm
    go_enter Try.func125, Try.ntmps125
    go_wp2
    rw [HW.out]
    go_region_held3 (fun w' => (w'.cell? ⟨w.heap.size, 0, none⟩ = some (.int .i64 m) ∧ w'.cell? ⟨w.heap.size, 1, none⟩ = some (.slice A n c)) ∧ (w'.cell? ⟨w.heap.size + 1, 0, none⟩ = some (.int .i64 m) ∧ w'.cell? ⟨w.heap.size + 1, 1, none⟩ = some (.slice A' n' c')) ∧ Below W.heap.size W w') (first | exact box2_in B1.out B2.out (below_drew0 _) | exact box2_next B1.out B2.out (by assumption) (by assumption)) (first
      | (go_at_call 124; refine (degree_any _ _ _ _ _ (by assumption)).mono ?_; rintro e1 w1 ⟨rfl, hb1⟩))
    all_goals go_wp2
    all_goals go_ret
    all_goals exact ⟨ret_bool (by show (((n : Int) - 1 == (n' : Int) - 1)) = _; rw [alike_len]; simp), HB.out.trans ((box2_next B1.out B2.out (Below.refl _ _) (by assumption)).2.2.mono HB.out.size)⟩
  · obtain ⟨n1, n2⟩ : (m == m') = false ∧ decide (m = m') = false := ⟨by simpa using hm, by simpa using hm⟩
    have N2 := Lib.hid n2
    clear n2
    obtain ⟨x1, x2, _⟩ := B1.out
    obtain ⟨y1, y2, _⟩ := B2.out
    go_enter Try.func125, Try.ntmps125
    go_wp2
    rw [HW.out]
    go_quiet (fail)
    go_wp2
    go_ret
    exact ⟨ret_bool (by rw [N2.out]; rfl), below_drewN HB.out _⟩

/-- a list of coefficients with a modulus is a series -/
def isS (m : Int) (l : List Int) : Bool := inB ((l.length : Int) - 1) 1 10 && codeN m l == 0
theorem isS_iff {m : Int} {l : List Int} (h : isS m l = true) : 2 ≤ l.length ∧ l.length ≤ 11 ∧ codeN m l = 0 := by
  unfold isS at h
  rw [Bool.and_eq_true, inB_iff] at h
  refine ⟨by omega, by omega, by simpa using h.2⟩
set_option maxHeartbeats 1000000 in
theorem IsSeries_any (m : Int) (A : Option Addr) (c : Nat) (l : List Int) (w : World) (hl : l.length ≤ 9223372036854775807) (hr : RI w A l) :
    Calls Try.prog 123 #[.agg #[.int .i64 m, .slice A l.length c]] w fun e w' => e = .returned (.bool (isS m l)) ∧ Below w.heap.size w w' := by
  have HR := Lib.hid hr
  clear hr
  by_cases h1 : inB ((l.length : Int) - 1) 1 10 = true
  · have HF := Lib.hid (show isS m l = (codeN m l == 0) by unfold isS; rw [h1]; rfl)
    go_enter Try.func123, Try.ntmps123
    go_wp2_with (first
      | (go_at_call 124; refine (degree_any _ _ _ _ _ hl).mono ?_; rintro e w1 ⟨rfl, hb1⟩; have hb2 := (below_one w (.cells #[.int .i64 m, .slice A l.length c] 49)).trans (hb1.mono (by simp)); obtain ⟨x1, x2⟩ := box_in (Box.new w m A l.length c) hb1)
      | (go_at_call 56; refine (isWithin_any _ _ _ _).mono ?_; rintro e w' ⟨rfl, rfl⟩)
      | (go_at_call 58; refine (codeOfNumbers_any _ _ _ l _ hl (HR.out.below hb2)).mono ?_; rintro e w' ⟨rfl, rfl⟩))
    go_ret
    exact ⟨ret_bool HF.out.symm, by assumption⟩
  · have h1' : inB ((l.length : Int) - 1) 1 10 = false := by simpa using h1
    have HF := Lib.hid (show isS m l = false by unfold isS; rw [h1']; rfl)
    clear h1
    go_enter Try.func123, Try.ntmps123
    go_wp2_with (first
      | (go_at_call 124; refine (degree_any _ _ _ _ _ hl).mono ?_; rintro e w1 ⟨rfl, hb1⟩; have hb2 := (below_one w (.cells #[.int .i64 m, .slice A l.length c] 49)).trans (hb1.mono (by simp)))
      | (go_at_call 56; refine (isWithin_any _ _ _ _).mono ?_; rintro e w' ⟨rfl, rfl⟩))
    go_ret
    exact ⟨ret_bool HF.out.symm, by assumption⟩
end Go.Proofs.Ytjgpdgoclianlaa
