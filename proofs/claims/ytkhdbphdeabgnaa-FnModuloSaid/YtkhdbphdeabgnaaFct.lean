/- Contracts of the two functions that take a number apart into powers of primes. -/
import Derived.Test.YtkhdbphdeabgnaaLol
import Derived.Test.YtkhdbphdeabgnaaTak
import Derived.Test.YtkhdbphdeabgnaaFac
import Derived.Test.YtkhdbphdeabgnaaPrm
namespace Go.Proofs.Ytkhdbphdeabgnaa
open Go.RowKit Go.WideShapes Go.ChangeShapes Go.ChangeAt

theorem tk_nat (P : Nat) (hP : 2 ≤ P) : ∀ N : Nat, 1 ≤ N → tk (P : Int) (N : Int) = ((((Num.takeN P N).1 : Nat) : Int), (((Num.takeN P N).2 : Nat) : Int)) := by
  intro N
  induction N using Nat.strongRecOn with
  | ind N ih =>
    intro hN
    have e1 : (N : Int).tmod (P : Int) = ((N % P : Nat) : Int) := by rw [Int.tmod_eq_emod_of_nonneg (by omega), Int.natCast_emod]
    have e2 : (N : Int).tdiv (P : Int) = ((N / P : Nat) : Int) := by rw [Int.tdiv_eq_ediv_of_nonneg (by omega), Int.natCast_ediv]
    by_cases hz : N % P = 0
    · have hz' : (N : Int).tmod (P : Int) = 0 := by rw [e1, hz]; rfl
      have hd := Nat.div_add_mod N P
      have hq : 1 ≤ N / P := by
        apply Nat.pos_of_ne_zero
        intro h0; rw [h0] at hd; omega
      rw [tk_yes (by omega) (by omega) hz', e2, ih (N / P) (Nat.div_lt_self (by omega) (by omega)) hq, Num.takeN_yes P N hP hN hz]
      simp
    · have hz' : ¬ (N : Int).tmod (P : Int) = 0 := by rw [e1]; omega
      rw [tk_no hz', Num.takeN_no P N hz]
      rfl

theorem takeOut_nat (P N : Nat) (w : World) (hP : 2 ≤ P) (hP2 : P ≤ 1000000000000) (hN : 1 ≤ N) (hN2 : N ≤ 1000000000000) :
    Calls Try.prog 86 #[.int .i64 (P : Nat), .int .i64 (N : Nat)] w fun e w' => e = .returned (.tuple #[.int .i64 ((Num.takeN P N).1 : Nat), .int .i64 ((Num.takeN P N).2 : Nat)]) ∧ w = w' := by
  have := takeOut_any (P : Int) (N : Int) w (by omega) (by omega) (by omega) (by omega) (by omega)
  rwa [tk_nat P hP N hN] at this

/-- a prime number and its exponent, as a row -/
def rowF (x : Nat × Nat) : List Int := [((x.1 : Nat) : Int), ((x.2 : Nat) : Int)]
/-- the prime numbers of n with their exponents -/
def facN (N : Nat) : List (List Int) := (Num.fz 2 N).map rowF

set_option maxHeartbeats 2000000 in

theorem primePowers_any (N0 : Nat) (w : World) (h1 : 1 ≤ N0) (h2 : N0 ≤ 1000000000000) :
    Calls Try.prog 67 #[.int .i64 (N0 : Nat)] w fun e w' => ∃ v, e = .returned v ∧ OwnR w' w.heap.size w'.heap.size v (facN N0) ∧ Below w.heap.size w w' := by
  go_enter Try.func67, Try.ntmps67
  go_wp2
  go_loopw [0, 3, 4] (fun n f p wr => ∃ (N P : Nat) (rows : List (List Int)), 2 ≤ P ∧ P ≤ 1000001 ∧ 1 ≤ N ∧ N ≤ 1000000000000 ∧ n = .int .i64 N ∧ p = .int .i64 P ∧ rows.length ≤ P ∧ OwnR wr w.heap.size wr.heap.size f rows ∧ rows ++ (Num.fz P N).map rowF = facN N0 ∧ Below w.heap.size w wr) (fun n _ p _ => (intOf n).toNat + 2 - (intOf p).toNat)
  case atStart => exact ⟨N0, 2, [], by omega, by omega, h1, h2, rfl, rfl, by simp, OwnR.nil _ _ _, rfl, Below.refl _ _⟩
  case round =>
    obtain ⟨N, P, rows, p1, p2, n1, n2, rfl, rfl, hlen, hown, heq, hbel⟩ := hrel
    have HO := Lib.hid hown
    have HE := Lib.hid heq
    have HB := Lib.hid hbel
    have hsz := hbel.size
    clear hown heq hbel
    obtain ⟨q1, q2⟩ := Num.sq_le (d := (P : Int)) (c := 1000001) (by omega) (by omega)
    have q3 : (P : Int) * P ≤ 1000002000001 := by omega
    clear q2
    by_cases hsq : (P : Int) * P ≤ (N : Int)
    · have hsqn : P * P ≤ N := by rw [← Int.natCast_mul] at hsq; omega
      have hPN : P ≤ N := by have := Nat.mul_le_mul_left P (show 1 ≤ P by omega); omega
      have hP6 : P ≤ 1000000 := by
        apply Nat.le_of_not_lt; intro hlt
        obtain rfl : P = 1000001 := by omega
        omega
      obtain ⟨-, t2, t3, -⟩ := Num.takeN_spec P p1 N n1
      have HG := Lib.hid (Num.fz_go P N p1 n1 hsqn)
      obtain ⟨K, hK⟩ : ∃ K, (Num.takeN P N).1 = K := ⟨_, rfl⟩
      obtain ⟨N', hN'⟩ : ∃ N', (Num.takeN P N).2 = N' := ⟨_, rfl⟩
      have HT : Hid (∀ W : World, Calls Try.prog 86 #[.int .i64 (P : Nat), .int .i64 (N : Nat)] W fun e w' => e = .returned (.tuple #[.int .i64 (K : Nat), .int .i64 (N' : Nat)]) ∧ W = w') := Lib.hid (fun W => by
        have := takeOut_nat P N W p1 (by omega) n1 n2
        rwa [hK, hN'] at this)
      rw [hN'] at t2 t3
      have HK := Lib.hid hK
      have HN := Lib.hid hN'
      clear hK hN' hsqn
      by_cases hk : 0 < K
      · go_wp2_with (first | (go_at_call 86; refine (HT.out _).mono ?_; rintro e w' ⟨rfl, rfl⟩) | (at_builtin; refine wp_pushR _ _ _ (by rfl) (by rfl) Try.underlying41 w.heap.size _ rows (by rfl) HO.out (P : Nat) (K : Nat) (by rfl) (by omega) hsz ?_; intro v' w1 ho1 hpb))
        have HQ := Lib.hid ho1
        have HP := Lib.hid hpb
        clear ho1 hpb
        go_wp2
        go_roundw
        case rel => exact ⟨N', P + 1, rows ++ [[(P : Int), (K : Int)]], by omega, by omega, t2, by omega, rfl, by go_num, by simp; omega, HQ.out, by rw [← HE.out, HG.out, HK.out, HN.out, if_pos hk]; simp [rowF], HB.out.trans HP.out⟩
        case measure => simp only [intOf]; omega
      · obtain rfl : K = 0 := by omega
        go_wp2_with (go_at_call 86; refine (HT.out _).mono ?_; rintro e w' ⟨rfl, rfl⟩)
        go_roundw
        case rel => exact ⟨N', P + 1, rows, by omega, by omega, t2, by omega, rfl, by go_num, by omega, HO.out, by rw [← HE.out, HG.out, HK.out, HN.out]; simp, HB.out⟩
        case measure => simp only [intOf]; omega
    · have HG := Lib.hid (Num.fz_end P N (by have : ¬ P * P ≤ N := fun h => hsq (by rw [← Int.natCast_mul]; omega)
                                             omega))
      by_cases hn1 : 1 < N
      · go_wp2_with (at_builtin; refine wp_pushR _ _ _ (by rfl) (by rfl) Try.underlying41 w.heap.size _ rows (by rfl) HO.out (N : Nat) 1 (by rfl) (by omega) hsz ?_; intro v' w1 ho1 hpb)
        have HQ := Lib.hid ho1
        have HP := Lib.hid hpb
        clear ho1 hpb
        go_wp2
        go_ret
        exact ⟨_, rfl, by rw [← HE.out, HG.out, if_pos hn1]; exact HQ.out, HB.out.trans HP.out⟩
      · go_wp2
        go_ret
        exact ⟨_, rfl, by rw [← HE.out, HG.out, if_neg hn1]; simpa using HO.out, HB.out⟩

set_option maxHeartbeats 2000000 in

theorem l01Factors_any (N0 : Nat) (w : World) (h1 : 1 ≤ N0) (h2 : N0 ≤ 1000000000000) :
    Calls Try.prog 84 #[.int .i64 (N0 : Nat)] w fun e w' => ∃ v, e = .returned v ∧ OwnR w' w.heap.size w'.heap.size v (facN N0) ∧ Below w.heap.size w w' := by
  go_enter Try.func84, Try.ntmps84
  go_wp2
  go_loopw [0, 3, 4] (fun n f p wr => ∃ (N P : Nat) (rows : List (List Int)), 2 ≤ P ∧ P ≤ 1000001 ∧ 1 ≤ N ∧ N ≤ 1000000000000 ∧ n = .int .i64 N ∧ p = .int .i64 P ∧ rows.length ≤ P ∧ OwnR wr w.heap.size wr.heap.size f rows ∧ rows ++ (Num.fz P N).map rowF = facN N0 ∧ Below w.heap.size w wr) (fun n _ p _ => (intOf n).toNat + 2 - (intOf p).toNat)
  case atStart => exact ⟨N0, 2, [], by omega, by omega, h1, h2, rfl, rfl, by simp, by simpa using OwnR.none0 w, rfl, (Below.refl _ _).alloc (Nat.le_refl _) _⟩
  case round =>
    obtain ⟨N, P, rows, p1, p2, n1, n2, rfl, rfl, hlen, hown, heq, hbel⟩ := hrel
    have HO := Lib.hid hown
    have HE := Lib.hid heq
    have HB := Lib.hid hbel
    have hsz := hbel.size
    clear hown heq hbel
    obtain ⟨q1, q2⟩ := Num.sq_le (d := (P : Int)) (c := 1000001) (by omega) (by omega)
    have q3 : (P : Int) * P ≤ 1000002000001 := by omega
    clear q2
    obtain ⟨wo, rfl⟩ : ∃ wo : World, wo = wr := ⟨_, rfl⟩
    by_cases hsq : (P : Int) * P ≤ (N : Int)
    · have hsqn : P * P ≤ N := by rw [← Int.natCast_mul] at hsq; omega
      have hPN : P ≤ N := by have := Nat.mul_le_mul_left P (show 1 ≤ P by omega); omega
      have hP6 : P ≤ 1000000 := by
        apply Nat.le_of_not_lt; intro hlt
        obtain rfl : P = 1000001 := by omega
        omega
      obtain ⟨-, t2, t3, -⟩ := Num.takeN_spec P p1 N n1
      have HG := Lib.hid (Num.fz_go P N p1 n1 hsqn)
      clear hsqn
      go_wp2
      go_loop [0, 5] (fun n k => ∃ (X K : Nat), 1 ≤ X ∧ X ≤ N ∧ n = .int .i64 X ∧ k = .int .i64 K ∧ K + X ≤ N ∧ K + (Num.takeN P X).1 = (Num.takeN P N).1 ∧ (Num.takeN P X).2 = (Num.takeN P N).2) (fun n _ => (intOf n).toNat)
      case atStart => exact ⟨N, 0, n1, Nat.le_refl _, rfl, rfl, by omega, by omega, rfl⟩
      case round =>
        obtain ⟨X, K, x1, x2, rfl, rfl, hKX, e1, e2⟩ := hrel
        have E1 := Lib.hid e1
        have E2 := Lib.hid e2
        clear e1 e2
        have hP0 : ¬ (P : Int) = 0 := by omega
        by_cases hz : X % P = 0
        · have HY := Lib.hid (Num.takeN_yes P X p1 x1 hz)
          have hz' : (X : Int) % (P : Int) = 0 := by rw [← Int.natCast_emod, hz]; rfl
          have hd := Nat.div_add_mod X P
          have hq1 : 1 ≤ X / P := by
            apply Nat.pos_of_ne_zero
            intro h0; rw [h0] at hd; omega
          have hq2 : X / P < X := Nat.div_lt_self (by omega) (by omega)
          have hdc : (X : Int) / (P : Int) = ((X / P : Nat) : Int) := (Int.natCast_ediv X P).symm
          have d1 : 0 ≤ (X : Int) / (P : Int) := by rw [hdc]; omega
          have d2 : (X : Int) / (P : Int) ≤ 1000000000000 := by rw [hdc]; omega
          have HD := Lib.hid hdc
          obtain ⟨Y, hY⟩ : ∃ Y, X / P = Y := ⟨_, rfl⟩
          rw [hY] at hq1 hq2
          have HYY := Lib.hid hY
          clear hz hd hdc hY
          go_wp2
          go_round
          case rel =>
            have a1 := E1.out
            have a2 := E2.out
            rw [HY.out, HYY.out] at a1 a2
            exact ⟨Y, K + 1, hq1, by omega, by rw [HD.out, HYY.out], by go_num, by omega, by omega, a2⟩
          case measure => simp only [intOf]; rw [HD.out, HYY.out]; omega
        · have HY := Lib.hid (Num.takeN_no P X hz)
          have hz' : ((X : Int) % (P : Int) == 0) = false := by
            rw [← Int.natCast_emod]; simp; omega
          have hz2 : ¬ (X : Int) % (P : Int) = 0 := by rw [← Int.natCast_emod]; omega
          have HG' := Lib.hid (show Num.fz P N = (if 0 < K then [(P, K)] else []) ++ Num.fz (P + 1) X by
            have a1 := E1.out
            have a2 := E2.out
            rw [HY.out] at a1 a2
            rw [HG.out, ← a1, ← a2]; simp)
          clear hz
          by_cases hk : 0 < K
          · go_wp2_with (at_builtin; refine wp_pushR _ _ _ (by rfl) (by rfl) Try.underlying41 w.heap.size _ rows (by rfl) HO.out (P : Nat) (K : Nat) (by rfl) (by omega) hsz ?_; intro v' w1 ho1 hpb)
            have HQ := Lib.hid ho1
            have HP := Lib.hid hpb
            clear ho1 hpb
            go_wp2
            go_roundw
            case rel => exact ⟨X, P + 1, rows ++ [[(P : Int), (K : Int)]], by omega, by omega, x1, by omega, rfl, by go_num, by simp; omega, HQ.out, by rw [← HE.out, HG'.out, if_pos hk]; simp [rowF], HB.out.trans HP.out⟩
            case measure => simp only [intOf]; omega
          · obtain rfl : K = 0 := by omega
            go_wp2
            go_roundw
            case rel => exact ⟨X, P + 1, rows, by omega, by omega, x1, by omega, rfl, by go_num, by omega, HO.out, by rw [← HE.out, HG'.out]; simp, HB.out⟩
            case measure => simp only [intOf]; omega
    · have HG := Lib.hid (Num.fz_end P N (by have : ¬ P * P ≤ N := fun h => hsq (by rw [← Int.natCast_mul]; omega)
                                             omega))
      by_cases hn1 : 1 < N
      · go_wp2_with (at_builtin; refine wp_pushR _ _ _ (by rfl) (by rfl) Try.underlying41 w.heap.size _ rows (by rfl) HO.out (N : Nat) 1 (by rfl) (by omega) hsz ?_; intro v' w1 ho1 hpb)
        have HQ := Lib.hid ho1
        have HP := Lib.hid hpb
        clear ho1 hpb
        go_wp2
        go_ret
        exact ⟨_, rfl, by rw [← HE.out, HG.out, if_pos hn1]; exact HQ.out, HB.out.trans HP.out⟩
      · go_wp2
        go_ret
        exact ⟨_, rfl, by rw [← HE.out, HG.out, if_neg hn1]; simpa using HO.out, HB.out⟩

end Go.Proofs.Ytkhdbphdeabgnaa
