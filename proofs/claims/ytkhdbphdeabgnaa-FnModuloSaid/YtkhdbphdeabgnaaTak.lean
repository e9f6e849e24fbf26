/- Dividing by a number as often as possible: the plain function, and contracts of takeOut and of the model's valuation. -/
import Derived.Test.YtkhdbphdeabgnaaCode
namespace Go.Proofs.Ytkhdbphdeabgnaa
open Go.RowKit Go.WideShapes Go.ChangeShapes Go.ChangeAt

/-- dividing n by p as often as possible: how often, and what is left -/
def tk (p n : Int) : Int × Int :=
  if _h : 2 ≤ p ∧ n ≠ 0 ∧ n.tmod p = 0 then ((tk p (n.tdiv p)).1 + 1, (tk p (n.tdiv p)).2) else (0, n)
termination_by n.natAbs
decreasing_by all_goals rw [Int.natAbs_tdiv]; exact Nat.div_lt_self (by omega) (by omega)
theorem tk_yes {p n : Int} (hp : 2 ≤ p) (hn : n ≠ 0) (h : n.tmod p = 0) : tk p n = ((tk p (n.tdiv p)).1 + 1, (tk p (n.tdiv p)).2) := by
  rw [tk, dif_pos ⟨hp, hn, h⟩]
theorem tk_no {p n : Int} (h : ¬ n.tmod p = 0) : tk p n = (0, n) := by rw [tk, dif_neg (fun c => h c.2.2)]
theorem tk_step {p n : Int} (hp : 2 ≤ p) (hn : n ≠ 0) (h : n.tmod p = 0) : n.tdiv p ≠ 0 ∧ (n.tdiv p).natAbs < n.natAbs := by
  refine ⟨fun h0 => ?_, by rw [Int.natAbs_tdiv]; exact Nat.div_lt_self (by omega) (by omega)⟩
  have := Int.tmod_add_mul_tdiv n p
  rw [h, h0] at this
  simp at this
  exact hn this.symm

set_option maxHeartbeats 1000000 in
theorem takeOut_any (p n : Int) (w : World) (hp : 2 ≤ p) (hp2 : p ≤ 1000000000000) (hn : n ≠ 0) (h1 : -1000000000000 ≤ n) (h2 : n ≤ 1000000000000) :
    Calls Try.prog 86 #[.int .i64 p, .int .i64 n] w fun e w' => e = .returned (.tuple #[.int .i64 (tk p n).1, .int .i64 (tk p n).2]) ∧ w = w' := by
  have hp0 : ¬ p = 0 := by omega
  go_enter Try.func86, Try.ntmps86
  go_wp2
  go_loop [6, 1] (fun k x => ∃ (K : Nat) (X : Int), k = .int .i64 K ∧ x = .int .i64 X ∧ X ≠ 0 ∧ K + X.natAbs ≤ 1000000000000 ∧ K + (tk p X).1 = (tk p n).1 ∧ (tk p X).2 = (tk p n).2) (fun _ x => (intOf x).natAbs)
  case atStart => exact ⟨0, n, rfl, rfl, hn, by omega, by omega, rfl⟩
  case round =>
    obtain ⟨K, X, rfl, rfl, hX, hb, e1, e2⟩ := hrel
    have H1 := Lib.hid e1
    have H2 := Lib.hid e2
    clear e1 e2
    by_cases hz : X.tmod p = 0
    · obtain ⟨s1, s2⟩ := tk_step hp hX hz
      have HY := Lib.hid (tk_yes hp hX hz)
      have S1 := Lib.hid s1
      obtain ⟨c1, c2⟩ : -1000000000000 ≤ X.tdiv p ∧ X.tdiv p ≤ 1000000000000 := by omega
      have S2 := Lib.hid s2
      clear s1 s2
      go_wp2
      go_round
      case rel =>
        have h1 := H1.out
        have h2 := H2.out
        rw [HY.out] at h1 h2
        exact ⟨K + 1, X.tdiv p, by go_num, rfl, S1.out, by have := S2.out; omega, by push_cast; omega, h2⟩
      case measure => simp only [intOf]; exact S2.out
    · have HY := Lib.hid (tk_no hz)
      obtain ⟨n1, n2⟩ := ne_facts hz
      go_wp2
      go_ret2
      have h1 := H1.out
      have h2 := H2.out
      rw [HY.out] at h1 h2
      exact ⟨ret_ii (by omega) h2, rfl⟩

set_option maxHeartbeats 1000000 in
theorem l01Valuation_any (p n : Int) (w : World) (hp : 2 ≤ p) (hp2 : p ≤ 1000000000000) (hn : n ≠ 0) (h1 : -1000000000000 ≤ n) (h2 : n ≤ 1000000000000) :
    Calls Try.prog 92 #[.int .i64 p, .int .i64 n] w fun e w' => e = .returned (.int .i64 (tk p n).1) ∧ w = w' := by
  have hp0 : ¬ p = 0 := by omega
  go_enter Try.func92, Try.ntmps92
  go_wp2
  go_loop [5, 1] (fun k x => ∃ (K : Nat) (X : Int), k = .int .i64 K ∧ x = .int .i64 X ∧ X ≠ 0 ∧ K + X.natAbs ≤ 1000000000000 ∧ K + (tk p X).1 = (tk p n).1) (fun _ x => (intOf x).natAbs)
  case atStart => exact ⟨0, n, rfl, rfl, hn, by omega, by omega⟩
  case round =>
    obtain ⟨K, X, rfl, rfl, hX, hb, e1⟩ := hrel
    have H1 := Lib.hid e1
    clear e1
    by_cases hz : X.tmod p = 0
    · obtain ⟨s1, s2⟩ := tk_step hp hX hz
      have HY := Lib.hid (tk_yes hp hX hz)
      have S1 := Lib.hid s1
      obtain ⟨c1, c2⟩ : -1000000000000 ≤ X.tdiv p ∧ X.tdiv p ≤ 1000000000000 := by omega
      have S2 := Lib.hid s2
      clear s1 s2
      go_wp2
      go_round
      case rel =>
        have h1 := H1.out
        rw [HY.out] at h1
        exact ⟨K + 1, X.tdiv p, by go_num, rfl, S1.out, by have := S2.out; omega, by push_cast; omega⟩
      case measure => simp only [intOf]; exact S2.out
    · have HY := Lib.hid (tk_no hz)
      obtain ⟨n1, n2⟩ := ne_facts hz
      go_wp2
      go_ret
      have h1 := H1.out
      rw [HY.out] at h1
      exact ⟨ret_int (by omega), rfl⟩

end Go.Proofs.Ytkhdbphdeabgnaa
