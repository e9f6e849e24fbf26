/- A series among a law's arguments: what its reading tells. -/
import Derived.Test.YtjgpdgoclianlaaSep
import Derived.Test.YtjgpdgoclianlaaSof
import Derived.ProofKit
import Derived.OpenShut
import Derived.ChangeSame
namespace Go.Proofs.Ytjgpdgoclianlaa
open Go.RowKit Go.WideShapes Go.ChangeShapes Go.ChangeAt

theorem use_it {p q : Prop} (h : p) (k : p → q) : q := k h
theorem Var2.drew {w : World} {g : Nat} {x y : Value} (h : Var2 w g x y) : Var2 w.drew g x y := h
theorem cells_ser : Try.prog.cellsOf 47 = 2 := by kernel_rfl
theorem cells_i64 : Try.prog.cellsOf 2 = 1 := by kernel_rfl
theorem cells_i64s : Try.prog.cellsOf 45 = 1 := by kernel_rfl
set_option maxRecDepth 100000 in
theorem open_ser {H : Type} {enc : TypeId × Value → H} {W : World} {base : Nat} {v : Value} {d : DataW H} {p : List MemPlace}
    (hv : Value.okWide Try.prog W .any base 47 v) (h : DataW.Trod enc Try.prog W 0 (fun _ => true) true 47 v d p) :
    ∃ (m : Int) (A : Option Addr) (c : Nat) (l : List Int), v = .agg #[.int .i64 m, .slice A l.length c] ∧ l.length ≤ maxLen ∧ RA W A l := by
  obtain ⟨cs, rfl, hsz⟩ := okWide_struct Try.underlying47 hv
  rw [cells_ser] at hsz
  obtain ⟨l⟩ := cs
  match l, hsz with
  | [c0, c1], _ =>
    obtain ⟨fuel, hf⟩ := h
    obtain ⟨y0, y1, m, hx, _, hy0, hy1⟩ := trod_struct2 Try.underlying47 hf
    obtain ⟨a, e0, -, -⟩ := DataW.trod_int Try.underlying2 hy0
    simp [Value.cells, cells_i64] at e0
    subst e0
    rcases open_ints Try.underlying45 Try.underlying2 (by kernel_rfl) hy1 with ⟨hcs, -⟩ | ⟨x, n, c, zs, hcs, -, hl, hm, hz, -, hcell, hwz⟩
    · simp [Value.cells, cells_i64s] at hcs
      subst hcs
      exact ⟨a, none, 0, [], rfl, Nat.zero_le _, fun h => absurd rfl h⟩
    · simp [Value.cells, cells_i64s] at hcs
      subst hcs
      obtain ⟨l, rfl, h1, h2⟩ := ra_of_row (w := W) (a := some x) (len := n) (cap := c) (zs := zs) (.inr ⟨x, rfl, hl, hm, by simpa using hz, hcell, hwz⟩)
      exact ⟨a, some x, c, l, rfl, h1, h2⟩
end Go.Proofs.Ytjgpdgoclianlaa
