/- Texts of contracts, joined. -/
import Derived.Test.YtfhdgcndiljjcabGreatMgaj
import Derived.Test.YtfhdgcndiljjcabGreatMgag
import Derived.Test.YtfhdgcndiljjcabGreatMgah
import Derived.Test.YtfhdgcndiljjcabGreatMgab
import Derived.Lib.QuietBelow
import Derived.BigQuiet
/- Contract of the plane x + y across passages. -/
namespace Go.Proofs.YtfhdgcndiljjcabGreat
open Go.RowKit Go.WideShapes Go.ChangeShapes Go.ChangeAt
/-- x + y -/
def xyT (m : Int) (d : Nat) : List (List Int) := Pl.tab m d fun i j => Pl.pc (Pl.tab m d (gosF (Pl.lin m d 1) 0)) i j + Pl.pc (Pl.tab m d (gosF (Pl.lin m d 1) 1)) i j
/-- one passage: a logarithm (true) or an exponential -/
def stepT (m : Int) (d : Nat) (T : List (List Int)) (p : Bool × Option Addr × Nat × List Int) : List (List Int) :=
  if p.1 = true then Pl.botT m d (Pl.pc T) p.2.2.2 p.2.2.2 else Pl.hor m d p.2.2.2 (Pl.pc T) (d + 1)
def acrT (m : Int) (d : Nat) (ps : List (Bool × Option Addr × Nat × List Int)) : List (List Int) := ps.foldl (stepT m d) (xyT m d)
theorem acrT_snoc {m : Int} {d : Nat} {ps : List (Bool × Option Addr × Nat × List Int)} {k : Nat} {p : Bool × Option Addr × Nat × List Int} (h : ps[k]? = some p) : acrT m d (ps.take (k + 1)) = stepT m d (acrT m d (ps.take k)) p := by
  unfold acrT
  rw [List.take_add_one, h, List.foldl_append]
  rfl
/-- block g holds passages -/
def PS (w : World) (g : Nat) (m : Int) (d : Nat) (ps : List (Bool × Option Addr × Nat × List Int)) : Prop :=
  g < w.heap.size ∧ ∀ k b A c l, ps[k]? = some (b, A, c, l) → w.cell? ⟨g, k, none⟩ = some (.iface (if b = true then 128 else 130) (.agg #[.int .i64 m, .slice A l.length c])) ∧ RI w A l ∧ SerOk m d l ∧ Ser.co l 0 = 0
theorem PS.keep {w w' : World} {g : Nat} {m : Int} {d : Nat} {ps : List (Bool × Option Addr × Nat × List Int)} (h : PS w g m d ps) (hb : Below w.heap.size w w') : PS w' g m d ps :=
  ⟨Nat.lt_of_lt_of_le h.1 hb.size, fun k b A c l hk => by
    obtain ⟨a1, a2, a3⟩ := h.2 k b A c l hk
    exact ⟨(hb.cell (p := ⟨g, k, none⟩) h.1).trans a1, a2.below hb, a3⟩⟩
theorem bct {W w' : World} {g : Nat} {m : Int} {A : Option Addr} {n c : Nat} (h : Box W g m A n c) (hb : Below W.heap.size W w') : (w'.cell? ⟨g, 0, none⟩ = some (.int .i64 m) ∧ w'.cell? ⟨g, 1, none⟩ = some (.slice A n c)) ∧ True ∧ Below W.heap.size W w' := ⟨box_in h hb, trivial, hb⟩
/-- a frame's box and a grid's variable -/
theorem pro_frG (w : World) (m : Int) (d : Nat) : ∃ W, (w.alloc (.cells #[.int .i64 m, .int .i64 d] 53)).alloc (.cells #[.int .i64 0, .int .i64 0, .slice none 0 0] 55) = W ∧
    VarC 53 W w.heap.size #[.int .i64 m, .int .i64 d] ∧ VarC 55 W (w.heap.size + 1) #[.int .i64 0, .int .i64 0, .slice none 0 0] ∧ Below w.heap.size w W := by
  refine ⟨_, rfl, (VarC.new _ _ _).keep (below_one _ _), ?_, below_alloc _ (below_one _ _)⟩
  have := VarC.new 55 (w.alloc (.cells #[.int .i64 m, .int .i64 d] 53)) #[.int .i64 0, .int .i64 0, .slice none 0 0]
  simpa using this
end Go.Proofs.YtfhdgcndiljjcabGreat

/- Contract of the model's code of a law and series. -/
namespace Go.Proofs.YtfhdgcndiljjcabGreat
open Go.RowKit Go.WideShapes Go.ChangeShapes Go.ChangeAt
end Go.Proofs.YtfhdgcndiljjcabGreat

/- Contracts of SumUnder, of the program and of the model. -/
namespace Go.Proofs.YtfhdgcndiljjcabGreat
open Go.RowKit Go.WideShapes Go.ChangeShapes Go.ChangeAt
end Go.Proofs.YtfhdgcndiljjcabGreat

