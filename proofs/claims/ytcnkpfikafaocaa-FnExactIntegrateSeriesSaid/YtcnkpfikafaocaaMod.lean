/- Contracts of RemainderOf, AddModulo and MultiplyModulo, of the program and of the model. -/
import Derived.Test.YtcnkpfikafaocaaCode2
namespace Go.Proofs.Ytcnkpfikafaocaa
open Go.RowKit Go.WideShapes Go.ChangeShapes Go.ChangeAt

theorem RI_nil (w : World) : RI w none [] := fun h => absurd rfl h
theorem RI_one (w : World) (a : Int) (t : TypeId) : RI (w.alloc (.cells #[.int .i64 a] t)) (some ⟨w.heap.size, 0, none⟩) [a] := by
  refine fun _ => ⟨w.heap.size, 0, rfl, by simp, fun k hk => ?_⟩
  obtain rfl : k = 0 := by simp at hk; omega
  simp
theorem RI_two (w : World) (a b : Int) (t : TypeId) : RI (w.alloc (.cells #[.int .i64 a, .int .i64 b] t)) (some ⟨w.heap.size, 0, none⟩) [a, b] := by
  refine fun _ => ⟨w.heap.size, 0, rfl, by simp, fun k hk => ?_⟩
  rcases (show k = 0 ∨ k = 1 by simp at hk; omega) with rfl | rfl <;> simp

theorem codeN_one (m a : Int) : codeN m [a] = 0 ↔ 2 ≤ m ∧ m ≤ 10000 ∧ 0 ≤ a ∧ a < m := by
  unfold codeN
  by_cases hm : isM m = true
  · rw [if_pos hm]
    have := (isM_iff m).1 hm
    by_cases ha : allIn 0 (m - 1) [a] = true
    · rw [if_pos ha]; simp [allIn, inB] at ha; simp; omega
    · rw [if_neg ha]; simp [allIn, inB] at ha; simp; omega
  · rw [if_neg hm]
    have : ¬ (2 ≤ m ∧ m ≤ 10000) := fun h => hm ((isM_iff m).2 h)
    simp; omega
theorem codeN_nil (m : Int) : codeN m [] = 0 ↔ 2 ≤ m ∧ m ≤ 10000 := by
  unfold codeN
  by_cases hm : isM m = true
  · rw [if_pos hm]
    have := (isM_iff m).1 hm
    simp [allIn]; omega
  · rw [if_neg hm]
    have : ¬ (2 ≤ m ∧ m ≤ 10000) := fun h => hm ((isM_iff m).2 h)
    simp; omega
theorem codeN_two (m a b : Int) : codeN m [a, b] = 0 ↔ 2 ≤ m ∧ m ≤ 10000 ∧ 0 ≤ a ∧ a < m ∧ 0 ≤ b ∧ b < m := by
  unfold codeN
  by_cases hm : isM m = true
  · rw [if_pos hm]
    have := (isM_iff m).1 hm
    by_cases ha : allIn 0 (m - 1) [a, b] = true
    · rw [if_pos ha]; simp [allIn, inB] at ha; simp; omega
    · rw [if_neg ha]; simp [allIn, inB] at ha; simp; omega
  · rw [if_neg hm]
    have : ¬ (2 ≤ m ∧ m ≤ 10000) := fun h => hm ((isM_iff m).2 h)
    simp; omega
theorem mul_small {a b m : Int} (h1 : 0 ≤ a) (h2 : a < m) (h3 : 0 ≤ b) (h4 : b < m) (hm : m ≤ 10000) : 0 ≤ a * b ∧ a * b ≤ 100000000 := by
  refine ⟨Int.mul_nonneg h1 h3, ?_⟩
  have e1 : a * b ≤ 10000 * b := Int.mul_le_mul_of_nonneg_right (by omega) h3
  omega




end Go.Proofs.Ytcnkpfikafaocaa
