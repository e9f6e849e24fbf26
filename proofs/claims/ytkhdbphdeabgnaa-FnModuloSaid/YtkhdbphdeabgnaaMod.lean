/- Contracts of RemainderOf, AddModulo and MultiplyModulo, of the program and of the model. -/
import Derived.Test.YtkhdbphdeabgnaaCode2
namespace Go.Proofs.Ytkhdbphdeabgnaa
open Go.RowKit Go.WideShapes Go.ChangeShapes Go.ChangeAt

theorem RI_nil (w : World) : RI w none [] := fun h => absurd rfl h
theorem RI_one (w : World) (a : Int) (t : TypeId) : RI (w.alloc (.cells #[.int .i64 a] t)) (some ⟨w.heap.size, 0, none⟩) [a] := by
  refine fun _ => ⟨w.heap.size, 0, rfl, by simp, fun k hk => ?_⟩
  obtain rfl : k = 0 := by simp at hk; omega
  simp
theorem RI_two (w : World) (a b : Int) (t : TypeId) : RI (w.alloc (.cells #[.int .i64 a, .int .i64 b] t)) (some ⟨w.heap.size, 0, none⟩) [a, b] := by
  refine fun _ => ⟨w.heap.size, 0, rfl, by simp, fun k hk => ?_⟩
  rcases (show k = 0 ∨ k = 1 by simp at hk; omega) with rfl | rfl <;> simp

theorem codeN_one (m a : Int) : codeN m [a] = 0 ↔ 2 ≤ m ∧ m ≤ 10000 ∧ 0 ≤ a ∧ a < m := by
  unfold codeN
  by_cases hm : isM m = true
  · rw [if_pos hm]
    have := (isM_iff m).1 hm
    by_cases ha : allIn 0 (m - 1) [a] = true
    · rw [if_pos ha]; simp [allIn, inB] at ha; simp; omega
    · rw [if_neg ha]; simp [allIn, inB] at ha; simp; omega
  · rw [if_neg hm]
    have : ¬ (2 ≤ m ∧ m ≤ 10000) := fun h => hm ((isM_iff m).2 h)
    simp; omega
theorem codeN_nil (m : Int) : codeN m [] = 0 ↔ 2 ≤ m ∧ m ≤ 10000 := by
  unfold codeN
  by_cases hm : isM m = true
  · rw [if_pos hm]
    have := (isM_iff m).1 hm
    simp [allIn]; omega
  · rw [if_neg hm]
    have : ¬ (2 ≤ m ∧ m ≤ 10000) := fun h => hm ((isM_iff m).2 h)
    simp; omega
theorem codeN_two (m a b : Int) : codeN m [a, b] = 0 ↔ 2 ≤ m ∧ m ≤ 10000 ∧ 0 ≤ a ∧ a < m ∧ 0 ≤ b ∧ b < m := by
  unfold codeN
  by_cases hm : isM m = true
  · rw [if_pos hm]
    have := (isM_iff m).1 hm
    by_cases ha : allIn 0 (m - 1) [a, b] = true
    · rw [if_pos ha]; simp [allIn, inB] at ha; simp; omega
    · rw [if_neg ha]; simp [allIn, inB] at ha; simp; omega
  · rw [if_neg hm]
    have : ¬ (2 ≤ m ∧ m ≤ 10000) := fun h => hm ((isM_iff m).2 h)
    simp; omega
theorem mul_small {a b m : Int} (h1 : 0 ≤ a) (h2 : a < m) (h3 : 0 ≤ b) (h4 : b < m) (hm : m ≤ 10000) : 0 ≤ a * b ∧ a * b ≤ 100000000 := by
  refine ⟨Int.mul_nonneg h1 h3, ?_⟩
  have e1 : a * b ≤ 10000 * b := Int.mul_le_mul_of_nonneg_right (by omega) h3
  omega

def addM (m a b : Int) : Int × Int := if codeN m [a, b] = 0 then ((a + b) % m, 0) else (0, codeN m [a, b])
theorem AddModulo_any (m a b : Int) (w : World) :
    Calls Try.prog 54 #[.int .i64 m, .int .i64 a, .int .i64 b] w fun e w' => e = .returned (.tuple #[.int .i64 (addM m a b).1, .int .i64 (addM m a b).2]) ∧ Below w.heap.size w w' := by
  by_cases h0 : codeN m [a, b] = 0
  · obtain ⟨h1, h2, h3, h4, h5, h6⟩ := (codeN_two m a b).1 h0
    have HF := Lib.hid (show addM m a b = ((a + b) % m, 0) by rw [addM, if_pos h0])
    go_enter Try.func54, Try.ntmps54
    go_wp2_with (go_at_call 59; refine (codeOfNumbers_any _ _ _ [a, b] _ (by simp) (RI_two _ _ _ _)).mono ?_; rintro e w' ⟨rfl, rfl⟩)
    go_ret2
    exact ⟨ret_ii (by rw [HF.out]) (by rw [HF.out]), (Below.refl _ _).alloc (Nat.le_refl _) _⟩
  · have HF := Lib.hid (show addM m a b = (0, codeN m [a, b]) by rw [addM, if_neg h0])
    obtain ⟨n1, n2⟩ := ne_facts h0
    clear h0
    go_enter Try.func54, Try.ntmps54
    go_wp2_with (go_at_call 59; refine (codeOfNumbers_any _ _ _ [a, b] _ (by simp) (RI_two _ _ _ _)).mono ?_; rintro e w' ⟨rfl, rfl⟩)
    go_ret2
    exact ⟨ret_ii (by rw [HF.out]) (by rw [HF.out]), (Below.refl _ _).alloc (Nat.le_refl _) _⟩
theorem sAddModulo_any (m a b : Int) (w : World) :
    Calls Try.prog 53 #[.int .i64 m, .int .i64 a, .int .i64 b] w fun e w' => e = .returned (.tuple #[.int .i64 (addM m a b).1, .int .i64 (addM m a b).2]) ∧ Below w.heap.size w w' := by
  by_cases h0 : codeN m [a, b] = 0
  · obtain ⟨h1, h2, h3, h4, h5, h6⟩ := (codeN_two m a b).1 h0
    have HF := Lib.hid (show addM m a b = ((a + b) % m, 0) by rw [addM, if_pos h0])
    go_enter Try.func53, Try.ntmps53
    go_wp2_with (go_at_call 63; refine (l01Code_any _ _ _ [a, b] _ (by simp) (RI_two _ _ _ _)).mono ?_; rintro e w' ⟨rfl, rfl⟩)
    go_ret2
    exact ⟨ret_ii (by rw [HF.out]) (by rw [HF.out]), (Below.refl _ _).alloc (Nat.le_refl _) _⟩
  · have HF := Lib.hid (show addM m a b = (0, codeN m [a, b]) by rw [addM, if_neg h0])
    obtain ⟨n1, n2⟩ := ne_facts h0
    clear h0
    go_enter Try.func53, Try.ntmps53
    go_wp2_with (go_at_call 63; refine (l01Code_any _ _ _ [a, b] _ (by simp) (RI_two _ _ _ _)).mono ?_; rintro e w' ⟨rfl, rfl⟩)
    go_ret2
    exact ⟨ret_ii (by rw [HF.out]) (by rw [HF.out]), (Below.refl _ _).alloc (Nat.le_refl _) _⟩

def mulM (m a b : Int) : Int × Int := if codeN m [a, b] = 0 then (a * b % m, 0) else (0, codeN m [a, b])
theorem MultiplyModulo_any (m a b : Int) (w : World) :
    Calls Try.prog 25 #[.int .i64 m, .int .i64 a, .int .i64 b] w fun e w' => e = .returned (.tuple #[.int .i64 (mulM m a b).1, .int .i64 (mulM m a b).2]) ∧ Below w.heap.size w w' := by
  by_cases h0 : codeN m [a, b] = 0
  · obtain ⟨h1, h2, h3, h4, h5, h6⟩ := (codeN_two m a b).1 h0
    obtain ⟨h7, h8⟩ := mul_small h3 h4 h5 h6 h2
    have HF := Lib.hid (show mulM m a b = (a * b % m, 0) by rw [mulM, if_pos h0])
    go_enter Try.func25, Try.ntmps25
    go_wp2_with (go_at_call 59; refine (codeOfNumbers_any _ _ _ [a, b] _ (by simp) (RI_two _ _ _ _)).mono ?_; rintro e w' ⟨rfl, rfl⟩)
    go_ret2
    exact ⟨ret_ii (by rw [HF.out]) (by rw [HF.out]), (Below.refl _ _).alloc (Nat.le_refl _) _⟩
  · have HF := Lib.hid (show mulM m a b = (0, codeN m [a, b]) by rw [mulM, if_neg h0])
    obtain ⟨n1, n2⟩ := ne_facts h0
    clear h0
    go_enter Try.func25, Try.ntmps25
    go_wp2_with (go_at_call 59; refine (codeOfNumbers_any _ _ _ [a, b] _ (by simp) (RI_two _ _ _ _)).mono ?_; rintro e w' ⟨rfl, rfl⟩)
    go_ret2
    exact ⟨ret_ii (by rw [HF.out]) (by rw [HF.out]), (Below.refl _ _).alloc (Nat.le_refl _) _⟩
theorem sMultiplyModulo_any (m a b : Int) (w : World) :
    Calls Try.prog 55 #[.int .i64 m, .int .i64 a, .int .i64 b] w fun e w' => e = .returned (.tuple #[.int .i64 (mulM m a b).1, .int .i64 (mulM m a b).2]) ∧ Below w.heap.size w w' := by
  by_cases h0 : codeN m [a, b] = 0
  · obtain ⟨h1, h2, h3, h4, h5, h6⟩ := (codeN_two m a b).1 h0
    obtain ⟨h7, h8⟩ := mul_small h3 h4 h5 h6 h2
    have HF := Lib.hid (show mulM m a b = (a * b % m, 0) by rw [mulM, if_pos h0])
    go_enter Try.func55, Try.ntmps55
    go_wp2_with (go_at_call 63; refine (l01Code_any _ _ _ [a, b] _ (by simp) (RI_two _ _ _ _)).mono ?_; rintro e w' ⟨rfl, rfl⟩)
    go_ret2
    exact ⟨ret_ii (by rw [HF.out]) (by rw [HF.out]), (Below.refl _ _).alloc (Nat.le_refl _) _⟩
  · have HF := Lib.hid (show mulM m a b = (0, codeN m [a, b]) by rw [mulM, if_neg h0])
    obtain ⟨n1, n2⟩ := ne_facts h0
    clear h0
    go_enter Try.func55, Try.ntmps55
    go_wp2_with (go_at_call 63; refine (l01Code_any _ _ _ [a, b] _ (by simp) (RI_two _ _ _ _)).mono ?_; rintro e w' ⟨rfl, rfl⟩)
    go_ret2
    exact ⟨ret_ii (by rw [HF.out]) (by rw [HF.out]), (Below.refl _ _).alloc (Nat.le_refl _) _⟩

def remM (m n : Int) : Int × Int := if codeN m [] = 0 then (if codeI [n] = 0 then (n % m, 0) else (0, codeI [n])) else (0, codeN m [])
theorem codeI_one (n : Int) : codeI [n] = 0 ↔ -1000000000000 ≤ n ∧ n ≤ 1000000000000 := by
  unfold codeI
  by_cases ha : allIn (-1000000000000) 1000000000000 [n] = true
  · rw [if_pos ha]; simp [allIn, inB] at ha; simp; omega
  · rw [if_neg ha]; simp [allIn, inB] at ha; simp; omega
theorem RemainderOf_any (m n : Int) (w : World) :
    Calls Try.prog 36 #[.int .i64 m, .int .i64 n] w fun e w' => e = .returned (.tuple #[.int .i64 (remM m n).1, .int .i64 (remM m n).2]) ∧ Below w.heap.size w w' := by
  by_cases h0 : codeN m [] = 0
  · obtain ⟨h1, h2⟩ := (codeN_nil m).1 h0
    by_cases k0 : codeI [n] = 0
    · obtain ⟨h3, h4⟩ := (codeI_one n).1 k0
      have HF := Lib.hid (show remM m n = (n % m, 0) by rw [remM, if_pos h0, if_pos k0])
      go_enter Try.func36, Try.ntmps36
      go_wp2_with (first | (go_at_call 59; refine (codeOfNumbers_any _ none 0 [] _ (by simp) (RI_nil _)).mono ?_; rintro e w' ⟨rfl, rfl⟩) | (go_at_call 70; refine (codeOfIntegers_any _ _ [n] _ (by simp) (RI_one _ _ _)).mono ?_; rintro e w' ⟨rfl, rfl⟩) | (go_at_call 80; refine (remainder_any _ _ _ (by omega) (by omega) (by omega) (by omega)).mono ?_; rintro e w' ⟨rfl, rfl⟩))
      go_ret2
      exact ⟨ret_ii (by rw [HF.out]) (by rw [HF.out]), (Below.refl _ _).alloc (Nat.le_refl _) _⟩
    · have HF := Lib.hid (show remM m n = (0, codeI [n]) by rw [remM, if_pos h0, if_neg k0])
      obtain ⟨n1, n2⟩ := ne_facts k0
      clear k0
      go_enter Try.func36, Try.ntmps36
      go_wp2_with (first | (go_at_call 59; refine (codeOfNumbers_any _ none 0 [] _ (by simp) (RI_nil _)).mono ?_; rintro e w' ⟨rfl, rfl⟩) | (go_at_call 70; refine (codeOfIntegers_any _ _ [n] _ (by simp) (RI_one _ _ _)).mono ?_; rintro e w' ⟨rfl, rfl⟩))
      go_ret2
      exact ⟨ret_ii (by rw [HF.out]) (by rw [HF.out]), (Below.refl _ _).alloc (Nat.le_refl _) _⟩
  · have HF := Lib.hid (show remM m n = (0, codeN m []) by rw [remM, if_neg h0])
    obtain ⟨n1, n2⟩ := ne_facts h0
    clear h0
    go_enter Try.func36, Try.ntmps36
    go_wp2_with (go_at_call 59; refine (codeOfNumbers_any _ none 0 [] _ (by simp) (RI_nil _)).mono ?_; rintro e w' ⟨rfl, rfl⟩)
    go_ret2
    exact ⟨ret_ii (by rw [HF.out]) (by rw [HF.out]), Below.refl _ _⟩
theorem sRemainderOf_any (m n : Int) (w : World) :
    Calls Try.prog 37 #[.int .i64 m, .int .i64 n] w fun e w' => e = .returned (.tuple #[.int .i64 (remM m n).1, .int .i64 (remM m n).2]) ∧ Below w.heap.size w w' := by
  by_cases h0 : isM m = true
  · obtain ⟨h1, h2⟩ := (isM_iff m).1 h0
    have c0 : codeN m [] = 0 := (codeN_nil m).2 ⟨h1, h2⟩
    by_cases k0 : isI n = true
    · obtain ⟨h3, h4⟩ := (inB_iff _ _ _).1 k0
      have HF := Lib.hid (show remM m n = (n % m, 0) by rw [remM, if_pos c0, if_pos ((codeI_one n).2 ⟨h3, h4⟩)])
      clear c0
      go_enter Try.func37, Try.ntmps37
      go_wp2_with (first | (go_at_call 66; refine (l01Modulus_any _ _).mono ?_; rintro e w' ⟨rfl, rfl⟩) | (go_at_call 81; refine (l01Integer_any _ _).mono ?_; rintro e w' ⟨rfl, rfl⟩) | (go_at_call 82; refine (l01Mod_any _ _ _ (by omega) (by omega) (by omega) (by omega)).mono ?_; rintro e w' ⟨rfl, rfl⟩))
      go_ret2
      exact ⟨ret_ii (by rw [HF.out]) (by rw [HF.out]), Below.refl _ _⟩
    · have k1 : codeI [n] = 2 := by
        rw [codeI, if_neg]
        intro h
        exact k0 ((inB_iff _ _ _).2 ((codeI_one n).1 (by rw [codeI, if_pos h])))
      have HF := Lib.hid (show remM m n = (0, 2) by rw [remM, if_pos c0, if_neg (by rw [k1]; decide), k1])
      have k0' : isI n = false := by simpa using k0
      clear c0 k0 k1
      go_enter Try.func37, Try.ntmps37
      go_wp2_with (first | (go_at_call 66; refine (l01Modulus_any _ _).mono ?_; rintro e w' ⟨rfl, rfl⟩) | (go_at_call 81; refine (l01Integer_any _ _).mono ?_; rintro e w' ⟨rfl, rfl⟩))
      go_ret2
      exact ⟨ret_ii (by rw [HF.out]) (by rw [HF.out]), Below.refl _ _⟩
  · have h0' : isM m = false := by simpa using h0
    have k1 : codeN m [] = 1 := by rw [codeN, if_neg h0]
    have HF := Lib.hid (show remM m n = (0, 1) by rw [remM, if_neg (by rw [k1]; decide), k1])
    clear h0 k1
    go_enter Try.func37, Try.ntmps37
    go_wp2_with (go_at_call 66; refine (l01Modulus_any _ _).mono ?_; rintro e w' ⟨rfl, rfl⟩)
    go_ret2
    exact ⟨ret_ii (by rw [HF.out]) (by rw [HF.out]), Below.refl _ _⟩

end Go.Proofs.Ytkhdbphdeabgnaa
