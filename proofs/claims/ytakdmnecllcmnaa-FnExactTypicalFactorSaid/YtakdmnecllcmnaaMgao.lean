/- Texts of contracts, joined. -/
import Derived.Test.YtakdmnecllcmnaaMgaj
import Derived.Test.YtakdmnecllcmnaaMgai
import Derived.Test.YtakdmnecllcmnaaMgad
import Derived.StillTailTactics
import Derived.Deep.DeepCutAuto
/- Contracts of the model's powers of a list, and of its sum for f(a(t), b(t)). -/
namespace Go.Proofs.Ytakdmnecllcmnaa
open Go.RowKit Go.WideShapes Go.ChangeShapes Go.ChangeAt

/-- a new slice of one row -/
theorem OwnR.lit1 (w : World) (lo : Nat) (u : Value) (r : List Int) (hu : OwnI w lo u r) (hb : ∀ g, u.ownBlock = some g → g < w.heap.size) (hlo : lo ≤ w.heap.size) :
    OwnR (w.alloc (.cells #[u] 22)) lo (w.heap.size + 1) (.slice (some ⟨w.heap.size, 0, none⟩) 1 1) [r] := by
  have h1 := World.ownsRow_lit (base := lo) (e := 22) (size := 1) w #[u] 1 hlo (by unfold maxLen; omega) (by simp)
  refine ⟨[u], h1, ?_, ?_, ?_⟩
  · intro g hg
    have : g = w.heap.size := by simpa [Value.ownBlock] using hg.symm
    omega
  · intro i r' hr
    match i, hr with
    | 0, hr =>
      simp at hr
      subst hr
      exact ⟨u, rfl, hu.alloc _, fun g hg => by have := hb g hg; omega⟩
  · intro i j x y hij hx hy
    have hj := (List.getElem?_eq_some_iff.1 hy).1
    simp at hj
    omega
/-- the list of the powers -/
def pwsL (m : Int) (d : Nat) (a : List Int) : List (List Int) := (List.range (d + 1)).map (Ser.pwL m d a)
theorem pwsL_length (m : Int) (d : Nat) (a : List Int) : (pwsL m d a).length = d + 1 := by simp [pwsL]
theorem pwsL_take_succ (m : Int) (d : Nat) (a : List Int) (k : Nat) (h : k ≤ d) : (pwsL m d a).take (k + 1) = (pwsL m d a).take k ++ [Ser.pwL m d a k] := by
  rw [List.take_succ_eq_append_getElem (by rw [pwsL_length]; omega)]
  simp [pwsL]
theorem pwsL_row (m : Int) (d : Nat) (a : List Int) (n k : Nat) (h : k < n) (hk : k ≤ d) : Pl.rw' ((pwsL m d a).take n) k = Ser.pwL m d a k := by
  unfold Pl.rw' pwsL
  rw [List.getElem?_take_of_lt h, List.getElem?_map, List.getElem?_range (by omega)]; rfl
theorem pwsL_rw (m : Int) (d : Nat) (a : List Int) (k : Nat) (hk : k ≤ d) : Pl.rw' (pwsL m d a) k = Ser.pwL m d a k := by
  unfold Pl.rw' pwsL
  rw [List.getElem?_map, List.getElem?_range (by omega)]; rfl
theorem pwL_red {m : Int} (hm : 0 < m) (d : Nat) (a : List Int) (k : Nat) : Ser.Red m (Ser.pwL m d a k) := by
  rw [Ser.pwL_cut]; exact Ser.cut_red hm _ _
theorem one_listP (m : Int) (d : Nat) (m1 : 2 ≤ m) : (List.replicate (d + 1) (0 : Int)).set 0 1 = Ser.one m d := by
  refine Ser.list_ext (by simp [Ser.one, Ser.cut_length]) (fun i hi => ?_)
  rw [List.length_set, List.length_replicate] at hi
  rw [Ser.co_set (by simp), Ser.one, Ser.co_cut (by omega), Ser.co_zeros]
  unfold Ser.mon
  by_cases h : i = 0
  · rw [if_pos h, Int.emod_eq_of_lt (by omega) (by omega)]
  · rw [if_neg h, Int.zero_emod]
theorem Pl.Ok.over {m : Int} {d : Nat} {t : List (List Int)} (h : Pl.Ok m d t) (i j : Nat) (hij : d < i + j) : Pl.pc t i j = 0 := by
  show Ser.co (Pl.rw' t i) j = 0
  by_cases hi : i ≤ d
  · exact Ser.co_over (by rw [h.row i hi]; omega)
  · rw [Pl.rw_over (by rw [h.len]; omega)]; exact Ser.co_nil j

end Go.Proofs.Ytakdmnecllcmnaa

/- Contract of the model's sum for f(a(t), b(t)). -/
namespace Go.Proofs.Ytakdmnecllcmnaa
open Go.RowKit Go.WideShapes Go.ChangeShapes Go.ChangeAt

theorem kpw_call {w w' : World} {a1 a2 a3 a4 : Addr} {x y z u : Value} (hb : Below w.heap.size w w') (hs : (w.cell? a1 = some x ∧ w.cell? a2 = some y) ∧ (w.cell? a3 = some z ∧ w.cell? a4 = some u)) : (w'.cell? a1 = some x ∧ w'.cell? a2 = some y) ∧ (w'.cell? a3 = some z ∧ w'.cell? a4 = some u) :=
  ⟨kp_call hb hs.1, kp_call hb hs.2⟩
end Go.Proofs.Ytakdmnecllcmnaa

