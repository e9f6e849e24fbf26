/- What the walks of exact laws over lists share: slices made one behind the other lie in blocks of their own. -/
import Derived.Test.YtjgpdgoclianlaaMem
namespace Go.Proofs.Ytjgpdgoclianlaa
open Go.RowKit Go.WideShapes Go.ChangeShapes Go.ChangeAt

theorem OwnI.ri {w : World} {base n c : Nat} {A : Option Addr} {l : List Int} (h : OwnI w base (.slice A n c) l) : RI w A l := by
  obtain ⟨A', c', e, hr⟩ := h.form
  injection e with e1 e2 e3
  rw [e1]; exact hr
/-- the blocks of two slices of the call's own differ, if the one was made behind the other -/
theorem apart {w1 w2 : World} {b1 b2 : Nat} {v u : Value} {l1 l2 : List Int} (hv : OwnI w1 b1 v l1) (hu : OwnI w2 b2 u l2) (h : w1.heap.size ≤ b2) : v.ownBlock = none ∨ v.ownBlock ≠ u.ownBlock := by
  rcases hc : v.ownBlock with _ | g
  · exact .inl rfl
  · refine .inr fun e => ?_
    have h1 := hv.lt g hc
    have h2 := hu.lt g e.symm
    omega
theorem apart' {w1 w2 : World} {b1 b2 : Nat} {v u : Value} {l1 l2 : List Int} (hv : OwnI w1 b1 v l1) (hu : OwnI w2 b2 u l2) (h : w1.heap.size ≤ b2) : u.ownBlock = none ∨ u.ownBlock ≠ v.ownBlock := by
  rcases apart hv hu h with e | e
  · rcases hc : u.ownBlock with _ | g
    · exact .inl rfl
    · exact .inr (by rw [e]; simp)
  · exact .inr (Ne.symm e)
/-- a mark's writes are no news below the block where the call began -/
theorem below_grown {w0 w w' : World} {base : Nat} {v : Value} {l : List Int} (hb : Below w0.heap.size w0 w) (hg : w.grownBy w' v.ownBlock) (ho : OwnI w base v l) (h : w0.heap.size ≤ base) : Below w0.heap.size w0 w' :=
  hb.grown hg hb.size (fun k hk => Nat.le_trans h (ho.lt k hk).1)
/-- a slice of integers that came in -/
theorem ra_of_row {w : World} {a : Option Addr} {len cap : Nat} {zs : List Int}
    (h : (a = none ∧ len = 0 ∧ cap = 0 ∧ zs = []) ∨ ∃ x : Addr, a = some x ∧ len ≤ cap ∧ cap ≤ maxLen ∧ zs.length = cap ∧ (∀ i, i < zs.length → w.cell? (x.add i) = some (.int .i64 (zs.getD i 0))) ∧ ∀ n ∈ zs, (Lit.int .i64 n).wf = true) :
    ∃ l : List Int, l.length = len ∧ len ≤ maxLen ∧ RA w a l := by
  rcases h with ⟨rfl, rfl, rfl, rfl⟩ | ⟨x, rfl, h1, h2, h3, h4, _⟩
  · exact ⟨[], rfl, Nat.zero_le _, fun h => absurd rfl h⟩
  · have hl : (zs.take len).length = len := by rw [List.length_take]; omega
    refine ⟨zs.take len, hl, Nat.le_trans h1 h2, fun hne => ?_⟩
    have hpos : 0 < len := by
      rcases Nat.eq_zero_or_pos len with h0 | h0
      · exact absurd (List.eq_nil_of_length_eq_zero (by omega)) hne
      · exact h0
    have hb := World.block_lt_of_cell? w _ (h4 0 (by omega))
    rw [add_block] at hb
    refine ⟨x, rfl, hb, fun k hk => ?_⟩
    rw [h4 k (by omega), List.getElem?_take, if_pos (by omega), List.getD_eq_getElem?_getD]

end Go.Proofs.Ytjgpdgoclianlaa
