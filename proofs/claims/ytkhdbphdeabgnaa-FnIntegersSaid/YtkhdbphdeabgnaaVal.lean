/- Contracts of IsPrimeNumber and ValuationOf, of the program and of the model. -/
import Derived.Test.YtkhdbphdeabgnaaMod
import Derived.Test.YtkhdbphdeabgnaaPri
import Derived.Test.YtkhdbphdeabgnaaTak
namespace Go.Proofs.Ytkhdbphdeabgnaa
open Go.RowKit Go.WideShapes Go.ChangeShapes Go.ChangeAt

theorem codeI_of {n : Int} : (codeI [n] = 0 ∧ isI n = true) ∨ (codeI [n] = 2 ∧ isI n = false) := by
  unfold codeI
  by_cases ha : allIn (-1000000000000) 1000000000000 [n] = true
  · left
    rw [if_pos ha]
    refine ⟨rfl, ?_⟩
    unfold isI
    simpa [allIn] using ha
  · right
    rw [if_neg ha]
    refine ⟨rfl, ?_⟩
    unfold isI
    simpa [allIn] using ha
theorem isI_iff {n : Int} : isI n = true ↔ -1000000000000 ≤ n ∧ n ≤ 1000000000000 := inB_iff _ _ _

/-- whether n is a prime number, and the code -/
def priM (n : Int) : Bool × Int := if isI n then (Num.prB n, 0) else (false, 2)
theorem IsPrimeNumber_any (n : Int) (w : World) :
    Calls Try.prog 43 #[.int .i64 n] w fun e w' => e = .returned (.tuple #[.bool (priM n).1, .int .i64 (priM n).2]) ∧ Below w.heap.size w w' := by
  rcases codeI_of (n := n) with ⟨c, i⟩ | ⟨c, i⟩
  · obtain ⟨h1, h2⟩ := isI_iff.1 i
    have HF := Lib.hid (show priM n = (Num.prB n, 0) by rw [priM, if_pos i])
    clear i
    go_enter Try.func43, Try.ntmps43
    go_wp2_with (first | (go_at_call 70; refine (codeOfIntegers_any _ _ [n] _ (by simp) (RI_one _ _ _)).mono ?_; rintro e w' ⟨rfl, rfl⟩) | (go_at_call 85; refine (isPrime_any _ _ (by omega)).mono ?_; rintro e w' ⟨rfl, rfl⟩))
    go_ret2
    exact ⟨ret_bi (by rw [HF.out]) (by rw [HF.out]), (Below.refl _ _).alloc (Nat.le_refl _) _⟩
  · have HF := Lib.hid (show priM n = (false, 2) by rw [priM, i]; rfl)
    clear i
    go_enter Try.func43, Try.ntmps43
    go_wp2_with (go_at_call 70; refine (codeOfIntegers_any _ _ [n] _ (by simp) (RI_one _ _ _)).mono ?_; rintro e w' ⟨rfl, rfl⟩)
    go_ret2
    exact ⟨ret_bi (by rw [HF.out]) (by rw [HF.out]), (Below.refl _ _).alloc (Nat.le_refl _) _⟩

/-- the valuation, and the code -/
def valM (p n : Int) : Int × Int := if p ≤ 1000 ∧ Num.prB p = true then (if isI n then (if n = 0 then (0, 5) else ((tk p n).1, 0)) else (0, 2)) else (0, 2)
theorem prB_two {p : Int} (h : Num.prB p = true) : 2 ≤ p := by have := ((Num.prB_iff p).1 h).1; omega
set_option maxHeartbeats 1000000 in
theorem ValuationOf_any (p n : Int) (w : World) :
    Calls Try.prog 44 #[.int .i64 p, .int .i64 n] w fun e w' => e = .returned (.tuple #[.int .i64 (valM p n).1, .int .i64 (valM p n).2]) ∧ Below w.heap.size w w' := by
  by_cases hp : p ≤ 1000
  · by_cases hq : Num.prB p = true
    · have h2p := prB_two hq
      rcases codeI_of (n := n) with ⟨c, i⟩ | ⟨c, i⟩
      · obtain ⟨h1, h2⟩ := isI_iff.1 i
        by_cases hn : n = 0
        · have HF := Lib.hid (show valM p n = (0, 5) by rw [valM, if_pos ⟨hp, hq⟩, if_pos i, if_pos hn])
          have HC := Lib.hid c
          subst hn
          clear i c
          go_enter Try.func44, Try.ntmps44
          go_wp2_with (first | (go_at_call 85; refine (isPrime_any _ _ (by omega)).mono ?_; rintro e w' ⟨rfl, rfl⟩) | (go_at_call 70; refine (codeOfIntegers_any _ _ [0] _ (by simp) (RI_one _ _ _)).mono ?_; rintro e w' ⟨rfl, rfl⟩; rw [HC.out]))
          go_ret2
          exact ⟨ret_ii (by rw [HF.out]) (by rw [HF.out]), (Below.refl _ _).alloc (Nat.le_refl _) _⟩
        · have HF := Lib.hid (show valM p n = ((tk p n).1, 0) by rw [valM, if_pos ⟨hp, hq⟩, if_pos i, if_neg hn])
          obtain ⟨n1, n2⟩ := ne_facts hn
          clear i
          go_enter Try.func44, Try.ntmps44
          go_wp2_with (first | (go_at_call 85; refine (isPrime_any _ _ (by omega)).mono ?_; rintro e w' ⟨rfl, rfl⟩) | (go_at_call 70; refine (codeOfIntegers_any _ _ [n] _ (by simp) (RI_one _ _ _)).mono ?_; rintro e w' ⟨rfl, rfl⟩) | (go_at_call 86; refine (takeOut_any _ _ _ (by omega) (by omega) hn (by omega) (by omega)).mono ?_; rintro e w' ⟨rfl, rfl⟩))
          go_ret2
          exact ⟨ret_ii (by rw [HF.out]) (by rw [HF.out]), (Below.refl _ _).alloc (Nat.le_refl _) _⟩
      · have HF := Lib.hid (show valM p n = (0, 2) by rw [valM, if_pos ⟨hp, hq⟩, i]; rfl)
        clear i
        go_enter Try.func44, Try.ntmps44
        go_wp2_with (first | (go_at_call 85; refine (isPrime_any _ _ (by omega)).mono ?_; rintro e w' ⟨rfl, rfl⟩) | (go_at_call 70; refine (codeOfIntegers_any _ _ [n] _ (by simp) (RI_one _ _ _)).mono ?_; rintro e w' ⟨rfl, rfl⟩))
        go_ret2
        exact ⟨ret_ii (by rw [HF.out]) (by rw [HF.out]), (Below.refl _ _).alloc (Nat.le_refl _) _⟩
    · have HF := Lib.hid (show valM p n = (0, 2) by rw [valM, if_neg (fun h => hq h.2)])
      have hq' : Num.prB p = false := by simpa using hq
      clear hq
      go_enter Try.func44, Try.ntmps44
      go_wp2_with (go_at_call 85; refine (isPrime_any _ _ (by omega)).mono ?_; rintro e w' ⟨rfl, rfl⟩)
      go_ret2
      exact ⟨ret_ii (by rw [HF.out]) (by rw [HF.out]), Below.refl _ _⟩
  · have HF := Lib.hid (show valM p n = (0, 2) by rw [valM, if_neg (fun h => hp h.1)])
    go_enter Try.func44, Try.ntmps44
    go_wp2
    go_ret2
    exact ⟨ret_ii (by rw [HF.out]) (by rw [HF.out]), Below.refl _ _⟩
set_option maxHeartbeats 1000000 in
theorem sValuationOf_any (p n : Int) (w : World) :
    Calls Try.prog 52 #[.int .i64 p, .int .i64 n] w fun e w' => e = .returned (.tuple #[.int .i64 (valM p n).1, .int .i64 (valM p n).2]) ∧ w = w' := by
  by_cases hi : inB p 2 1000 = true
  · obtain ⟨h2p, hp⟩ := (inB_iff _ _ _).1 hi
    by_cases hq : Num.prB p = true
    · rcases codeI_of (n := n) with ⟨c, i⟩ | ⟨c, i⟩
      · obtain ⟨h1, h2⟩ := isI_iff.1 i
        by_cases hn : n = 0
        · have HF := Lib.hid (show valM p n = (0, 5) by rw [valM, if_pos ⟨hp, hq⟩, if_pos i, if_pos hn])
          have HI := Lib.hid i
          subst hn
          clear i c
          go_enter Try.func52, Try.ntmps52
          go_wp2_with (first | (go_at_call 83; refine (l01In_any _ _ _ _).mono ?_; rintro e w' ⟨rfl, rfl⟩) | (go_at_call 91; refine (l01Prime_any _ _ (by omega) (by omega)).mono ?_; rintro e w' ⟨rfl, rfl⟩) | (go_at_call 81; refine (l01Integer_any _ _).mono ?_; rintro e w' ⟨rfl, rfl⟩; rw [HI.out]))
          go_ret2
          exact ⟨ret_ii (by rw [HF.out]) (by rw [HF.out]), rfl⟩
        · have HF := Lib.hid (show valM p n = ((tk p n).1, 0) by rw [valM, if_pos ⟨hp, hq⟩, if_pos i, if_neg hn])
          obtain ⟨n1, n2⟩ := ne_facts hn
          clear c
          go_enter Try.func52, Try.ntmps52
          go_wp2_with (first | (go_at_call 83; refine (l01In_any _ _ _ _).mono ?_; rintro e w' ⟨rfl, rfl⟩) | (go_at_call 91; refine (l01Prime_any _ _ (by omega) (by omega)).mono ?_; rintro e w' ⟨rfl, rfl⟩) | (go_at_call 81; refine (l01Integer_any _ _).mono ?_; rintro e w' ⟨rfl, rfl⟩) | (go_at_call 92; refine (l01Valuation_any _ _ _ (by omega) (by omega) hn (by omega) (by omega)).mono ?_; rintro e w' ⟨rfl, rfl⟩))
          go_ret2
          exact ⟨ret_ii (by rw [HF.out]) (by rw [HF.out]), rfl⟩
      · have HF := Lib.hid (show valM p n = (0, 2) by rw [valM, if_pos ⟨hp, hq⟩, i]; rfl)
        clear c
        go_enter Try.func52, Try.ntmps52
        go_wp2_with (first | (go_at_call 83; refine (l01In_any _ _ _ _).mono ?_; rintro e w' ⟨rfl, rfl⟩) | (go_at_call 91; refine (l01Prime_any _ _ (by omega) (by omega)).mono ?_; rintro e w' ⟨rfl, rfl⟩) | (go_at_call 81; refine (l01Integer_any _ _).mono ?_; rintro e w' ⟨rfl, rfl⟩))
        go_ret2
        exact ⟨ret_ii (by rw [HF.out]) (by rw [HF.out]), rfl⟩
    · have HF := Lib.hid (show valM p n = (0, 2) by rw [valM, if_neg (fun h => hq h.2)])
      have hq' : Num.prB p = false := by simpa using hq
      clear hq
      go_enter Try.func52, Try.ntmps52
      go_wp2_with (first | (go_at_call 83; refine (l01In_any _ _ _ _).mono ?_; rintro e w' ⟨rfl, rfl⟩) | (go_at_call 91; refine (l01Prime_any _ _ (by omega) (by omega)).mono ?_; rintro e w' ⟨rfl, rfl⟩))
      go_ret2
      exact ⟨ret_ii (by rw [HF.out]) (by rw [HF.out]), rfl⟩
  · have HF := Lib.hid (show valM p n = (0, 2) by rw [valM, if_neg (fun h => hi ((inB_iff _ _ _).2 ⟨prB_two h.2, h.1⟩))])
    have hi' : inB p 2 1000 = false := by simpa using hi
    clear hi
    go_enter Try.func52, Try.ntmps52
    go_wp2_with (go_at_call 83; refine (l01In_any _ _ _ _).mono ?_; rintro e w' ⟨rfl, rfl⟩)
    go_ret2
    exact ⟨ret_ii (by rw [HF.out]) (by rw [HF.out]), rfl⟩

end Go.Proofs.Ytkhdbphdeabgnaa
