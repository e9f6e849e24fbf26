/- A plane among a law's arguments: what its reading tells. -/
import Derived.Test.YtjgpdgoclianlaaExp
import Derived.Test.YtjgpdgoclianlaaFrm
import Derived.Deep.Matrix
namespace Go.Proofs.Ytjgpdgoclianlaa
open Go.RowKit Go.WideShapes Go.ChangeShapes Go.ChangeAt

theorem cells_pla : Try.prog.cellsOf 24 = 2 := by kernel_rfl
theorem cells_i64ss : Try.prog.cellsOf 22 = 1 := by kernel_rfl
set_option maxRecDepth 100000 in
theorem open_pla {H : Type} {enc : TypeId × Value → H} {W : World} {base : Nat} {v : Value} {d : DataW H} {p : List MemPlace}
    (hv : Value.okWide Try.prog W .any base 24 v) (h : DataW.Trod enc Try.prog W 0 (fun _ => true) true 24 v d p) :
    ∃ (m : Int) (A : Option Addr) (c : Nat) (t : List (List Int)), v = .agg #[.int .i64 m, .slice A t.length c] ∧ (t.length ≤ 9223372036854775807 ∧ ∀ k, (Pl.rw' t k).length ≤ 9223372036854775807) ∧ RQ W A t := by
  obtain ⟨cs, rfl, hsz⟩ := okWide_struct Try.underlying24 hv
  rw [cells_pla] at hsz
  obtain ⟨l⟩ := cs
  match l, hsz with
  | [c0, c1], _ =>
    obtain ⟨fuel, hf⟩ := h
    obtain ⟨y0, y1, m, hx, _, hy0, hy1⟩ := trod_struct2 Try.underlying24 hf
    obtain ⟨a, e0, -, -⟩ := DataW.trod_int Try.underlying2 hy0
    simp [Value.cells, cells_i64] at e0
    subst e0
    rcases Go.Deep.open_int_rows Try.underlying22 Try.underlying45 Try.underlying2 (by kernel_rfl) (by kernel_rfl) hy1 with ⟨hcs, -⟩ | ⟨ad, n, cap, A, L, C, Z, hcs, -, hl, hm, -, hr⟩
    · simp [Value.cells, cells_i64ss] at hcs
      subst hcs
      exact ⟨a, none, 0, [], rfl, ⟨Nat.zero_le _, fun k => Nat.zero_le _⟩, fun h => absurd rfl h⟩
    · simp [Value.cells, cells_i64ss] at hcs
      subst hcs
      have key : ∀ r, r < n → Pl.rw' ((List.range n).map fun r => (Z r).take (L r)) r = (Z r).take (L r) := by
        intro r h
        unfold Pl.rw'
        rw [List.getElem?_map, List.getElem?_range h]; rfl
      have klen : ∀ r, r < n → ((Z r).take (L r)).length = L r := by
        intro r h
        obtain ⟨_, h2, _, h4, _⟩ := hr r (by omega)
        rw [List.length_take]; omega
      have hlen : ((List.range n).map fun r => (Z r).take (L r)).length = n := by simp
      refine ⟨a, some ad, cap, (List.range n).map fun r => (Z r).take (L r), by rw [hlen], ⟨by rw [hlen]; unfold maxLen at hm; omega, fun k => ?_⟩, fun hne => ?_⟩
      · by_cases hk : k < n
        · rw [key k hk, klen k hk]
          obtain ⟨_, h2, h3, _⟩ := hr k (by omega)
          unfold maxLen at h3; omega
        · rw [Pl.rw_over (by rw [hlen]; omega)]; exact Nat.zero_le _
      · have hn : 0 < n := by
          rcases Nat.eq_zero_or_pos n with e | e
          · subst e; exact absurd rfl hne
          · exact e
        refine ⟨ad, rfl, ?_, fun k hk => ?_⟩
        · have := World.block_lt_of_cell? W _ (hr 0 (by omega)).1
          rwa [add_block] at this
        · rw [hlen] at hk
          obtain ⟨h1, h2, h3, h4, _, _, h7⟩ := hr k (by omega)
          refine ⟨A k, C k, by rw [key k hk, klen k hk]; exact h1, ?_⟩
          rw [key k hk]
          intro hne2
          have hL : 0 < L k := by
            rcases Nat.eq_zero_or_pos (L k) with e | e
            · rw [e] at hne2; exact absurd rfl hne2
            · exact e
          rcases hA : A k with _ | a'
          · obtain ⟨_, _, _, _, _, h6, _⟩ := hr k (by omega)
            have := h6 hA
            omega
          · obtain ⟨_, h8⟩ := h7 a' hA
            refine ⟨a', rfl, ?_, fun j hj => ?_⟩
            · have := World.block_lt_of_cell? W _ (h8 0 (by omega))
              rwa [add_block] at this
            · rw [klen k hk] at hj
              rw [h8 j (by omega), List.getElem?_take, if_pos hj]
              simp [List.getD_eq_getElem?_getD]
end Go.Proofs.Ytjgpdgoclianlaa
