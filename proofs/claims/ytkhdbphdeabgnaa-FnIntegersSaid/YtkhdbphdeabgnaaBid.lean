/- Contracts of BinomialNumber and BinomialDivisor, of the program and of the model. -/
import Derived.Test.YtkhdbphdeabgnaaBin
import Derived.Test.YtkhdbphdeabgnaaGcd
namespace Go.Proofs.Ytkhdbphdeabgnaa
open Go.RowKit Go.WideShapes Go.ChangeShapes Go.ChangeAt

def binM (n k : Int) : Int × Int := if inB n 0 60 && inB k 0 60 then (binI n k, 0) else (0, 2)
theorem BinomialNumber_any (n k : Int) (w : World) :
    Calls Try.prog 46 #[.int .i64 n, .int .i64 k] w fun e w' => e = .returned (.tuple #[.int .i64 (binM n k).1, .int .i64 (binM n k).2]) ∧ w = w' := by
  by_cases hn : inB n 0 60 = true
  · by_cases hk : inB k 0 60 = true
    · obtain ⟨h1, h2⟩ := (inB_iff _ _ _).1 hn
      obtain ⟨h3, h4⟩ := (inB_iff _ _ _).1 hk
      have HF := Lib.hid (show binM n k = (binI n k, 0) by rw [binM, hn, hk]; rfl)
      go_enter Try.func46, Try.ntmps46
      go_wp2_with (first | (go_at_call 65; refine (isWithin_any _ _ _ _).mono ?_; rintro e w' ⟨rfl, rfl⟩) | (go_at_call 88; refine (choices_any _ _ _ (by omega) (by omega) (by omega) (by omega)).mono ?_; rintro e w' ⟨rfl, rfl⟩))
      go_ret2
      exact ⟨ret_ii (by rw [HF.out]) (by rw [HF.out]), rfl⟩
    · have hk' : inB k 0 60 = false := by simpa using hk
      have HF := Lib.hid (show binM n k = (0, 2) by rw [binM, hn, hk']; rfl)
      clear hk
      go_enter Try.func46, Try.ntmps46
      go_wp2_with (go_at_call 65; refine (isWithin_any _ _ _ _).mono ?_; rintro e w' ⟨rfl, rfl⟩)
      go_ret2
      exact ⟨ret_ii (by rw [HF.out]) (by rw [HF.out]), rfl⟩
  · have hn' : inB n 0 60 = false := by simpa using hn
    have HF := Lib.hid (show binM n k = (0, 2) by rw [binM, hn']; rfl)
    clear hn
    go_enter Try.func46, Try.ntmps46
    go_wp2_with (go_at_call 65; refine (isWithin_any _ _ _ _).mono ?_; rintro e w' ⟨rfl, rfl⟩)
    go_ret2
    exact ⟨ret_ii (by rw [HF.out]) (by rw [HF.out]), rfl⟩
theorem sBinomialNumber_any (n k : Int) (w : World) :
    Calls Try.prog 47 #[.int .i64 n, .int .i64 k] w fun e w' => e = .returned (.tuple #[.int .i64 (binM n k).1, .int .i64 (binM n k).2]) ∧ Below w.heap.size w w' := by
  by_cases hn : inB n 0 60 = true
  · by_cases hk : inB k 0 60 = true
    · obtain ⟨h1, h2⟩ := (inB_iff _ _ _).1 hn
      obtain ⟨h3, h4⟩ := (inB_iff _ _ _).1 hk
      have HF := Lib.hid (show binM n k = (binI n k, 0) by rw [binM, hn, hk]; rfl)
      go_enter Try.func47, Try.ntmps47
      go_wp2_with (first | (go_at_call 83; refine (l01In_any _ _ _ _).mono ?_; rintro e w' ⟨rfl, rfl⟩) | (go_at_call 89; refine (l01Binomial_any _ _ _ (by omega) (by omega) (by omega) (by omega)).mono ?_; rintro e w1 ⟨rfl, hb1⟩))
      go_ret2
      exact ⟨ret_ii (by rw [HF.out]) (by rw [HF.out]), hb1⟩
    · have hk' : inB k 0 60 = false := by simpa using hk
      have HF := Lib.hid (show binM n k = (0, 2) by rw [binM, hn, hk']; rfl)
      clear hk
      go_enter Try.func47, Try.ntmps47
      go_wp2_with (go_at_call 83; refine (l01In_any _ _ _ _).mono ?_; rintro e w' ⟨rfl, rfl⟩)
      go_ret2
      exact ⟨ret_ii (by rw [HF.out]) (by rw [HF.out]), Below.refl _ _⟩
  · have hn' : inB n 0 60 = false := by simpa using hn
    have HF := Lib.hid (show binM n k = (0, 2) by rw [binM, hn']; rfl)
    clear hn
    go_enter Try.func47, Try.ntmps47
    go_wp2_with (go_at_call 83; refine (l01In_any _ _ _ _).mono ?_; rintro e w' ⟨rfl, rfl⟩)
    go_ret2
    exact ⟨ret_ii (by rw [HF.out]) (by rw [HF.out]), Below.refl _ _⟩

/-- the greatest common divisor of the first numbers of choices -/
def lz (n : Int) : Nat → Int
  | 0 => 0
  | k + 1 => gcdI (lz n k) (binI n (k + 1 : Nat))
theorem gcdI_le (a : Int) {b : Int} (hb : 0 < b) : 0 ≤ gcdI a b ∧ gcdI a b ≤ b := by
  have := Nat.le_of_dvd (show 0 < b.natAbs by omega) (Nat.gcd_dvd_right a.natAbs b.natAbs)
  unfold gcdI; omega
theorem lz_bd {n : Int} (h2 : n ≤ 60) : ∀ k : Nat, (k : Int) ≤ n → 0 ≤ lz n k ∧ lz n k ≤ 118264581564861424
  | 0, _ => by simp [lz]
  | k + 1, h => by
    have hp : 0 < binI n (k + 1 : Nat) := by
      have := Num.bin_pos n.toNat (k + 1) (by omega)
      unfold binI; simp only [Int.toNat_natCast]; omega
    have h3 := gcdI_le (lz n k) hp
    have h4 := binI_bd (k := (k + 1 : Nat)) h2
    rw [lz]; omega

set_option maxHeartbeats 1000000 in
theorem l01Lazard_any (n : Int) (w : World) (h1 : 2 ≤ n) (h2 : n ≤ 60) :
    Calls Try.prog 90 #[.int .i64 n] w fun e w' => e = .returned (.int .i64 (lz n (n.toNat - 1))) ∧ Below w.heap.size w w' := by
  go_enter Try.func90, Try.ntmps90
  go_wp2
  go_loopw [3, 4] (fun g k wr => ∃ K : Nat, (K : Int) < n ∧ g = .int .i64 (lz n K) ∧ k = .int .i64 (K + 1 : Nat) ∧ Below w.heap.size w wr) (fun _ k _ => n.toNat - (intOf k).toNat)
  case atStart => exact ⟨0, by omega, rfl, rfl, Below.refl _ _⟩
  case round =>
    obtain ⟨K, hK, rfl, rfl, hbel⟩ := hrel
    have HB := Lib.hid hbel
    have hsz := hbel.size
    clear hbel
    obtain ⟨l1, l2⟩ := lz_bd h2 K (by omega)
    obtain ⟨T, hT⟩ : ∃ T, K + 1 = T := ⟨_, rfl⟩
    have HL := Lib.hid (show lz n T = gcdI (lz n K) (binI n T) by rw [← hT, lz])
    have hT' : (T : Int) = K + 1 := by omega
    rw [hT] at *
    have HT := Lib.hid hT
    clear hT
    obtain ⟨t1, t2⟩ : 1 ≤ (T : Int) ∧ (T : Int) ≤ n := by omega
    have HT' := Lib.hid hT'
    clear hT'
    by_cases hlt : (T : Int) < n
    · obtain ⟨q1, q2⟩ := binI_bd (n := n) (k := (T : Int)) h2
      go_wp2_with (first | (go_at_call 89; refine (l01Binomial_any _ _ _ (by omega) (by omega) (by omega) (by omega)).mono ?_; rintro e w1 ⟨rfl, hb1⟩) | (go_at_call 95; refine (l01Gcd_any _ _ _ (by omega) (by omega) (by omega) (by omega)).mono ?_; rintro e w2 ⟨rfl, rfl⟩))
      go_roundw
      case rel => exact ⟨T, hlt, by rw [HL.out], by go_num, HB.out.trans (hb1.mono hsz)⟩
      case measure => simp only [intOf]; omega
    · go_wp2
      go_ret
      exact ⟨ret_int (by congr 1; have := HT'.out; omega), HB.out⟩

set_option maxHeartbeats 1000000 in
theorem BinomialDivisor_any (n : Int) (w : World) :
    Calls Try.prog 49 #[.int .i64 n] w fun e w' => e = .returned (.tuple #[.int .i64 (if inB n 2 60 then lz n (n.toNat - 1) else 0), .int .i64 (if inB n 2 60 then 0 else 2)]) ∧ Below w.heap.size w w' := by
  by_cases hn : inB n 2 60 = true
  · obtain ⟨h1, h2⟩ := (inB_iff _ _ _).1 hn
    go_enter Try.func49, Try.ntmps49
    go_wp2_with (go_at_call 65; refine (isWithin_any _ _ _ _).mono ?_; rintro e w' ⟨rfl, rfl⟩)
    go_loopw [4, 5] (fun g k wr => ∃ K : Nat, (K : Int) < n ∧ g = .int .i64 (lz n K) ∧ k = .int .i64 (K + 1 : Nat) ∧ Below w.heap.size w wr) (fun _ k _ => n.toNat - (intOf k).toNat)
    case atStart => exact ⟨0, by omega, rfl, rfl, Below.refl _ _⟩
    case round =>
      obtain ⟨K, hK, rfl, rfl, hbel⟩ := hrel
      have HB := Lib.hid hbel
      have hsz := hbel.size
      clear hbel
      obtain ⟨l1, l2⟩ := lz_bd h2 K (by omega)
      obtain ⟨T, hT⟩ : ∃ T, K + 1 = T := ⟨_, rfl⟩
      have HL := Lib.hid (show lz n T = gcdI (lz n K) (binI n T) by rw [← hT, lz])
      have hT' : (T : Int) = K + 1 := by omega
      rw [hT] at *
      have HT := Lib.hid hT
      clear hT
      obtain ⟨t1, t2⟩ : 1 ≤ (T : Int) ∧ (T : Int) ≤ n := by omega
      have HT' := Lib.hid hT'
      clear hT'
      by_cases hlt : (T : Int) < n
      · obtain ⟨q1, q2⟩ := binI_bd (n := n) (k := (T : Int)) h2
        go_wp2_with (first | (go_at_call 88; refine (choices_any _ _ _ (by omega) (by omega) (by omega) (by omega)).mono ?_; rintro e w1 ⟨rfl, rfl⟩) | (go_at_call 71; refine (greatestDivisor_any _ _ _ (by omega) (by omega) (by omega) (by omega)).mono ?_; rintro e w2 ⟨rfl, hb2⟩))
        go_roundw
        case rel => exact ⟨T, hlt, by rw [HL.out], by go_num, HB.out.trans (hb2.mono hsz)⟩
        case measure => simp only [intOf]; omega
      · go_wp2
        go_ret2
        exact ⟨ret_ii (by first | (rw [if_pos hn]; congr 1; have := HT'.out; omega) | (congr 1; have := HT'.out; omega)) (by first | rfl | rw [if_pos hn]), HB.out⟩
  · have hn' : inB n 2 60 = false := by simpa using hn
    go_enter Try.func49, Try.ntmps49
    go_wp2_with (go_at_call 65; refine (isWithin_any _ _ _ _).mono ?_; rintro e w' ⟨rfl, rfl⟩)
    go_ret2
    exact ⟨ret_ii (by first | rfl | rw [if_neg hn]) (by first | rfl | rw [if_neg hn]), Below.refl _ _⟩
theorem sBinomialDivisor_any (n : Int) (w : World) :
    Calls Try.prog 50 #[.int .i64 n] w fun e w' => e = .returned (.tuple #[.int .i64 (if inB n 2 60 then lz n (n.toNat - 1) else 0), .int .i64 (if inB n 2 60 then 0 else 2)]) ∧ Below w.heap.size w w' := by
  by_cases hn : inB n 2 60 = true
  · obtain ⟨h1, h2⟩ := (inB_iff _ _ _).1 hn
    go_enter Try.func50, Try.ntmps50
    go_wp2_with (first | (go_at_call 83; refine (l01In_any _ _ _ _).mono ?_; rintro e w' ⟨rfl, rfl⟩) | (go_at_call 90; refine (l01Lazard_any _ _ (by omega) (by omega)).mono ?_; rintro e w1 ⟨rfl, hb1⟩))
    go_ret2
    exact ⟨ret_ii (by first | rfl | rw [if_pos hn]) (by first | rfl | rw [if_pos hn]), hb1⟩
  · have hn' : inB n 2 60 = false := by simpa using hn
    go_enter Try.func50, Try.ntmps50
    go_wp2_with (go_at_call 83; refine (l01In_any _ _ _ _).mono ?_; rintro e w' ⟨rfl, rfl⟩)
    go_ret2
    exact ⟨ret_ii (by first | rfl | rw [if_neg hn]) (by first | rfl | rw [if_neg hn]), Below.refl _ _⟩

end Go.Proofs.Ytkhdbphdeabgnaa
