/- Texts of contracts, joined. -/
import Derived.Test.YtfhdgcndiljjcabGreatMgad
import Derived.Test.YtfhdgcndiljjcabGreatMgaf
import Derived.Test.YtfhdgcndiljjcabGreatMgae
import Derived.Test.YtfhdgcndiljjcabGreatMgab
import Derived.Test.YtfhdgcndiljjcabGreatMgac
import Derived.StillTailTactics
import Derived.Deep.DeepCutAuto
/- Contracts of the composition of a row, which may have one number alone, and a curve of a degree not less. -/
namespace Go.Proofs.YtfhdgcndiljjcabGreat
open Go.RowKit Go.WideShapes Go.ChangeShapes Go.ChangeAt
theorem RowOk.hor {m : Int} {d : Nat} {l l' : List Int} (h : RowOk m d l) (j : Nat) : RowOk m d (Ser.horC m d (Ser.co l) (Ser.co l') j) :=
  ⟨h.m1, h.m2, h.d2, Ser.horC_length _ _ _ _ _, Ser.horC_red (by have := h.m1; omega) _ _ _ h.red j⟩
end Go.Proofs.YtfhdgcndiljjcabGreat

/- Contract of a grid with a curve put into its second variable. -/
namespace Go.Proofs.YtfhdgcndiljjcabGreat
open Go.RowKit Go.WideShapes Go.ChangeShapes Go.ChangeAt
/-- a grid's box, a series' box, the result's variable -/
theorem gproB (w : World) (m : Int) (d : Nat) (A : Option Addr) (n c : Nat) (m' : Int) (A' : Option Addr) (n' c' : Nat) : ∃ W, ((w.alloc (.cells #[.int .i64 m, .int .i64 d, .slice A n c] 55)).alloc (.cells #[.int .i64 m', .slice A' n' c'] 39)).alloc (.cells #[.int .i64 0, .int .i64 0, .slice none 0 0] 55) = W ∧
    GBox W w.heap.size m d A n c ∧ Box W (w.heap.size + 1) m' A' n' c' ∧ VarC 55 W (w.heap.size + 1 + 1) #[.int .i64 0, .int .i64 0, .slice none 0 0] ∧ Below w.heap.size w W := by
  refine ⟨_, rfl, ((GBox.new _ _ _ _ _ _ _).keep (below_one _ _)).keep (below_one _ _), ?_, ?_, below_alloc _ (below_alloc _ (below_one _ _))⟩
  · have := (Box.newT 39 (w.alloc (.cells #[.int .i64 m, .int .i64 d, .slice A n c] 55)) m' A' n' c').keep (below_one _ (.cells #[.int .i64 0, .int .i64 0, .slice none 0 0] 55))
    simpa using this
  · have := VarC.new 55 ((w.alloc (.cells #[.int .i64 m, .int .i64 d, .slice A n c] 55)).alloc (.cells #[.int .i64 m', .slice A' n' c'] 39)) #[.int .i64 0, .int .i64 0, .slice none 0 0]
    simpa using this
def wcyF (t : List (List Int)) (l' : List Int) : Nat → Nat → Int := fun i => Ser.comp (Pl.pc t i) (Ser.co l')
end Go.Proofs.YtfhdgcndiljjcabGreat

/- Contracts of a grid with curves put into both variables, and of its diagonal. -/
namespace Go.Proofs.YtfhdgcndiljjcabGreat
open Go.RowKit Go.WideShapes Go.ChangeShapes Go.ChangeAt
/-- a grid's box, two series' boxes, the result's variable -/
theorem gproC (w : World) (m : Int) (d : Nat) (A : Option Addr) (n c : Nat) (m1 : Int) (A1 : Option Addr) (n1 c1 : Nat) (m2 : Int) (A2 : Option Addr) (n2 c2 : Nat) :
    ∃ W, (((w.alloc (.cells #[.int .i64 m, .int .i64 d, .slice A n c] 55)).alloc (.cells #[.int .i64 m1, .slice A1 n1 c1] 39)).alloc (.cells #[.int .i64 m2, .slice A2 n2 c2] 39)).alloc (.cells #[.int .i64 0, .int .i64 0, .slice none 0 0] 55) = W ∧
    GBox W w.heap.size m d A n c ∧ Box W (w.heap.size + 1) m1 A1 n1 c1 ∧ Box W (w.heap.size + 1 + 1) m2 A2 n2 c2 ∧ VarC 55 W (w.heap.size + 1 + 1 + 1) #[.int .i64 0, .int .i64 0, .slice none 0 0] ∧ Below w.heap.size w W := by
  refine ⟨_, rfl, (((GBox.new _ _ _ _ _ _ _).keep (below_one _ _)).keep (below_one _ _)).keep (below_one _ _), ?_, ?_, ?_, below_alloc _ (below_alloc _ (below_alloc _ (below_one _ _)))⟩
  · have := ((Box.newT 39 (w.alloc (.cells #[.int .i64 m, .int .i64 d, .slice A n c] 55)) m1 A1 n1 c1).keep (below_one _ (.cells #[.int .i64 m2, .slice A2 n2 c2] 39))).keep (below_one _ (.cells #[.int .i64 0, .int .i64 0, .slice none 0 0] 55))
    simpa using this
  · have := (Box.newT 39 ((w.alloc (.cells #[.int .i64 m, .int .i64 d, .slice A n c] 55)).alloc (.cells #[.int .i64 m1, .slice A1 n1 c1] 39)) m2 A2 n2 c2).keep (below_one _ (.cells #[.int .i64 0, .int .i64 0, .slice none 0 0] 55))
    simpa using this
  · have := VarC.new 55 (((w.alloc (.cells #[.int .i64 m, .int .i64 d, .slice A n c] 55)).alloc (.cells #[.int .i64 m1, .slice A1 n1 c1] 39)).alloc (.cells #[.int .i64 m2, .slice A2 n2 c2] 39)) #[.int .i64 0, .int .i64 0, .slice none 0 0]
    simpa using this
theorem GBox.far {w : World} {g : Nat} {m : Int} {d : Nat} {A : Option Addr} {n c : Nat} (h : GBox w g m d A n c) (b i : Nat) (u : Value) (hne : b ≠ g) : GBox (w.setCell ⟨b, i, none⟩ u) g m d A n c := by
  have hb := Below.heap_setCell w ⟨b, i, none⟩ u g (fun e => hne e.symm)
  exact ⟨(World.cell?_of_block (a := ⟨g, 0, none⟩) hb).trans h.1, (World.cell?_of_block (a := ⟨g, 1, none⟩) hb).trans h.2.1, (World.cell?_of_block (a := ⟨g, 2, none⟩) hb).trans h.2.2.1, by simpa [World.setCell] using h.2.2.2⟩
theorem Box.far {w : World} {g : Nat} {m : Int} {A : Option Addr} {n c : Nat} (h : Box w g m A n c) (b i : Nat) (u : Value) (hne : b ≠ g) : Box (w.setCell ⟨b, i, none⟩ u) g m A n c := by
  have hb := Below.heap_setCell w ⟨b, i, none⟩ u g (fun e => hne e.symm)
  exact ⟨(World.cell?_of_block (a := ⟨g, 0, none⟩) hb).trans h.1, (World.cell?_of_block (a := ⟨g, 1, none⟩) hb).trans h.2.1, by simpa [World.setCell] using h.2.2⟩
/-- what lies in three boxes is kept by a call and by a store elsewhere -/
theorem k3_call {w w' : World} {g g1 g2 : Nat} {m : Int} {d : Nat} {A : Option Addr} {n c : Nat} {m1 : Int} {A1 : Option Addr} {n1 c1 : Nat} {m2 : Int} {A2 : Option Addr} {n2 c2 : Nat} (hb : Below w.heap.size w w')
    (h : (w.cell? ⟨g, 0, none⟩ = some (.int .i64 m) ∧ w.cell? ⟨g, 1, none⟩ = some (.int .i64 d) ∧ w.cell? ⟨g, 2, none⟩ = some (.slice A n c) ∧ g < w.heap.size) ∧ (w.cell? ⟨g1, 0, none⟩ = some (.int .i64 m1) ∧ w.cell? ⟨g1, 1, none⟩ = some (.slice A1 n1 c1) ∧ g1 < w.heap.size) ∧ (w.cell? ⟨g2, 0, none⟩ = some (.int .i64 m2) ∧ w.cell? ⟨g2, 1, none⟩ = some (.slice A2 n2 c2) ∧ g2 < w.heap.size)) :
    (w'.cell? ⟨g, 0, none⟩ = some (.int .i64 m) ∧ w'.cell? ⟨g, 1, none⟩ = some (.int .i64 d) ∧ w'.cell? ⟨g, 2, none⟩ = some (.slice A n c) ∧ g < w'.heap.size) ∧ (w'.cell? ⟨g1, 0, none⟩ = some (.int .i64 m1) ∧ w'.cell? ⟨g1, 1, none⟩ = some (.slice A1 n1 c1) ∧ g1 < w'.heap.size) ∧ (w'.cell? ⟨g2, 0, none⟩ = some (.int .i64 m2) ∧ w'.cell? ⟨g2, 1, none⟩ = some (.slice A2 n2 c2) ∧ g2 < w'.heap.size) :=
  ⟨GBox.keep (show GBox w g m d A n c from h.1) hb, Box.keep (show Box w g1 m1 A1 n1 c1 from h.2.1) hb, Box.keep (show Box w g2 m2 A2 n2 c2 from h.2.2) hb⟩
theorem k3_store {w : World} {b g g1 g2 : Nat} {m : Int} {d : Nat} {A : Option Addr} {n c : Nat} {m1 : Int} {A1 : Option Addr} {n1 c1 : Nat} {m2 : Int} {A2 : Option Addr} {n2 c2 : Nat} {x y z : Value} (e0 : b ≠ g) (e1 : b ≠ g1) (e2 : b ≠ g2)
    (h : (w.cell? ⟨g, 0, none⟩ = some (.int .i64 m) ∧ w.cell? ⟨g, 1, none⟩ = some (.int .i64 d) ∧ w.cell? ⟨g, 2, none⟩ = some (.slice A n c) ∧ g < w.heap.size) ∧ (w.cell? ⟨g1, 0, none⟩ = some (.int .i64 m1) ∧ w.cell? ⟨g1, 1, none⟩ = some (.slice A1 n1 c1) ∧ g1 < w.heap.size) ∧ (w.cell? ⟨g2, 0, none⟩ = some (.int .i64 m2) ∧ w.cell? ⟨g2, 1, none⟩ = some (.slice A2 n2 c2) ∧ g2 < w.heap.size)) :
    let w' := ((w.setCell ⟨b, 0, none⟩ x).setCell ⟨b, 1, none⟩ y).setCell ⟨b, 2, none⟩ z
    (w'.cell? ⟨g, 0, none⟩ = some (.int .i64 m) ∧ w'.cell? ⟨g, 1, none⟩ = some (.int .i64 d) ∧ w'.cell? ⟨g, 2, none⟩ = some (.slice A n c) ∧ g < w'.heap.size) ∧ (w'.cell? ⟨g1, 0, none⟩ = some (.int .i64 m1) ∧ w'.cell? ⟨g1, 1, none⟩ = some (.slice A1 n1 c1) ∧ g1 < w'.heap.size) ∧ (w'.cell? ⟨g2, 0, none⟩ = some (.int .i64 m2) ∧ w'.cell? ⟨g2, 1, none⟩ = some (.slice A2 n2 c2) ∧ g2 < w'.heap.size) :=
  ⟨(((show GBox w g m d A n c from h.1).far b 0 x e0).far b 1 y e0).far b 2 z e0, (((show Box w g1 m1 A1 n1 c1 from h.2.1).far b 0 x e1).far b 1 y e1).far b 2 z e1, (((show Box w g2 m2 A2 n2 c2 from h.2.2).far b 0 x e2).far b 1 y e2).far b 2 z e2⟩
theorem wc_tables {m : Int} {d : Nat} {t : List (List Int)} {l1 l2 : List Int} (z1 : Ser.co l1 0 = 0) (z2 : Ser.co l2 0 = 0) :
    Pl.tab m d (fun i j => Pl.pc (Pl.tab m d (wcyF (Pl.tab m d fun i j => Pl.pc (Pl.tab m d (wcyF t l2)) j i) l1)) j i) = Pl.botT m d (Pl.pc t) l1 l2 := by
  unfold Pl.botT
  rw [← Pl.steps (m := m) (d := d) (F := Pl.pc t) z1 z2]
  have e : (Pl.tab m d fun i j => Pl.pc (Pl.tab m d (wcyF t l2)) j i) = Pl.tab m d fun q' i => Ser.comp (Pl.pc t i) (Ser.co l2) q' :=
    Pl.tab_congr (fun p q h => by rw [Pl.pc_tab (by omega), Int.emod_emod]; rfl)
  rw [e]
  exact Pl.tab_congr (fun p q h => by rw [Pl.pc_tab (by omega), Int.emod_emod]; rfl)
/-! the diagonal -/
end Go.Proofs.YtfhdgcndiljjcabGreat

/- Contracts of the model's powers of a list, and of its sum for f(a(t), b(t)). -/
namespace Go.Proofs.YtfhdgcndiljjcabGreat
open Go.RowKit Go.WideShapes Go.ChangeShapes Go.ChangeAt
theorem Pl.Ok.over {m : Int} {d : Nat} {t : List (List Int)} (h : Pl.Ok m d t) (i j : Nat) (hij : d < i + j) : Pl.pc t i j = 0 := by
  show Ser.co (Pl.rw' t i) j = 0
  by_cases hi : i ≤ d
  · exact Ser.co_over (by rw [h.row i hi]; omega)
  · rw [Pl.rw_over (by rw [h.len]; omega)]; exact Ser.co_nil j
end Go.Proofs.YtfhdgcndiljjcabGreat

