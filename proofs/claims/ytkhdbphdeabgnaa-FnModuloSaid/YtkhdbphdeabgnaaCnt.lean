/- Contracts of CountUnits, of the program and of the model. -/
import Derived.Test.YtkhdbphdeabgnaaUnit
import Derived.Test.YtkhdbphdeabgnaaFct
import Derived.Test.YtkhdbphdeabgnaaLol2
namespace Go.Proofs.Ytkhdbphdeabgnaa
open Go.RowKit Go.WideShapes Go.ChangeShapes Go.ChangeAt

/-- how many numbers below K are units modulo M -/
def uniN (M K : Nat) : Nat := Num.cntP (fun a => decide (Nat.gcd a M = 1)) K
theorem uniN_phi (M : Nat) (hM : 1 ≤ M) : Num.phiF M (Num.prs M) = uniN M M := by
  have h := Num.phi_all M (Num.prs M) [] (by simpa using Num.prs_mem M hM) (by simpa using Num.prs_nodup M hM)
  rw [Num.cntP_true, List.nil_append] at h
  rw [h]
  exact Num.cntP_congr _ _ _ (fun i _ => Num.prs_ok M i hM)
theorem uniN_succ (M K : Nat) : uniN M (K + 1) = uniN M K + if Nat.gcd K M = 1 then 1 else 0 := by
  unfold uniN; rw [Num.cntP]; simp
theorem uniN_le (M K : Nat) : uniN M K ≤ K := Num.cntP_le _ _

/-- the number of units, and the code -/
def cntM (m : Int) : Int × Int := if isM m then (((uniN m.toNat m.toNat : Nat) : Int), 0) else (0, 1)

set_option maxHeartbeats 1000000 in
theorem sCountUnits_any (m : Int) (w : World) :
    Calls Try.prog 57 #[.int .i64 m] w fun e w' => e = .returned (.tuple #[.int .i64 (cntM m).1, .int .i64 (cntM m).2]) ∧ w = w' := by
  by_cases h0 : isM m = true
  · obtain ⟨h1, h2⟩ := (isM_iff m).1 h0
    have HF := Lib.hid (show cntM m = (((uniN m.toNat m.toNat : Nat) : Int), 0) by rw [cntM, if_pos h0])
    obtain ⟨M, rfl⟩ := Int.eq_ofNat_of_zero_le (show 0 ≤ m by omega)
    go_enter Try.func57, Try.ntmps57
    go_wp2_with (go_at_call 66; refine (l01Modulus_any _ _).mono ?_; rintro e w' ⟨rfl, rfl⟩)
    go_loop [4, 5] (fun c a => ∃ K : Nat, K ≤ M ∧ a = .int .i64 K ∧ c = .int .i64 (uniN M K : Nat)) (fun _ a => M - (intOf a).toNat)
    case atStart => exact ⟨0, Nat.zero_le _, rfl, rfl⟩
    case round =>
      obtain ⟨K, hK, rfl, rfl⟩ := hrel
      have hle := uniN_le M K
      have HS := Lib.hid (uniN_succ M K)
      obtain ⟨c, hc⟩ : ∃ c, uniN M K = c := ⟨_, rfl⟩
      rw [hc] at hle ⊢
      have HC := Lib.hid hc
      clear hc
      by_cases hlt : K < M
      · by_cases hg : gcdI (K : Nat) (M : Nat) = 1
        · have hg2 : Nat.gcd K M = 1 := by
            unfold gcdI at hg; rw [Int.natAbs_natCast, Int.natAbs_natCast] at hg; omega
          have HG := Lib.hid hg2
          clear hg2
          go_wp2_with (go_at_call 64; refine (l01Unit_any _ _ _ (by omega) (by omega) (by omega)).mono ?_; rintro e w' ⟨rfl, rfl⟩)
          go_round
          case rel => exact ⟨K + 1, by omega, by go_num, by rw [HS.out, HC.out, if_pos HG.out]; go_num⟩
          case measure => simp only [intOf]; omega
        · have hg2 : ¬ Nat.gcd K M = 1 := by
            intro h; apply hg; unfold gcdI; rw [Int.natAbs_natCast, Int.natAbs_natCast, h]; rfl
          have HG := Lib.hid hg2
          have hg' : (gcdI (K : Nat) (M : Nat) == 1) = false := by simpa using hg
          clear hg hg2
          go_wp2_with (go_at_call 64; refine (l01Unit_any _ _ _ (by omega) (by omega) (by omega)).mono ?_; rintro e w' ⟨rfl, rfl⟩)
          go_round
          case rel => exact ⟨K + 1, by omega, by go_num, by rw [HS.out, HC.out, if_neg HG.out]; go_num⟩
          case measure => simp only [intOf]; omega
      · obtain rfl : K = M := by omega
        go_wp2
        go_ret2
        exact ⟨ret_ii (by rw [HF.out]; simp only [Int.toNat_natCast]; rw [HC.out]) (by rw [HF.out]), rfl⟩
  · have HF := Lib.hid (show cntM m = (0, 1) by rw [cntM, if_neg h0])
    have h0' : isM m = false := by simpa using h0
    clear h0
    go_enter Try.func57, Try.ntmps57
    go_wp2_with (go_at_call 66; refine (l01Modulus_any _ _).mono ?_; rintro e w' ⟨rfl, rfl⟩)
    go_ret2
    exact ⟨ret_ii (by rw [HF.out]) (by rw [HF.out]), rfl⟩

set_option maxHeartbeats 1000000 in
theorem CountUnits_any (m : Int) (w : World) :
    Calls Try.prog 26 #[.int .i64 m] w fun e w' => e = .returned (.tuple #[.int .i64 (cntM m).1, .int .i64 (cntM m).2]) ∧ Below w.heap.size w w' := by
  by_cases h0 : isM m = true
  · obtain ⟨h1, h2⟩ := (isM_iff m).1 h0
    have HF := Lib.hid (show cntM m = (((uniN m.toNat m.toNat : Nat) : Int), 0) by rw [cntM, if_pos h0])
    have hc0 : codeN m [] = 0 := (codeN_nil m).2 ⟨h1, h2⟩
    obtain ⟨M, rfl⟩ := Int.eq_ofNat_of_zero_le (show 0 ≤ m by omega)
    have HPH := Lib.hid (uniN_phi M (by omega))
    go_enter Try.func26, Try.ntmps26
    go_wp2_with (first | (go_at_call 59; refine (codeOfNumbers_any _ none 0 [] _ (by simp) (RI_nil _)).mono ?_; rintro e w' ⟨rfl, rfl⟩) | (go_at_call 67; refine (primePowers_any _ _ (by omega) (by omega)).mono ?_; rintro e w1 ⟨v, rfl, ho, hb⟩; obtain ⟨A, c, rfl, -⟩ := ho.read))
    have HO := Lib.hid ho
    have HB := Lib.hid hb
    clear ho hb
    have hlen : (facN M).length = (Num.prs M).length := by simp [facN, Num.prs]
    have HL := Lib.hid hlen
    have hle : (facN M).length ≤ 9223372036854775807 := by
      have : (Num.prs M).length ≤ M := by
        have hnd := Num.prs_nodup M (by omega)
        have hmem := Num.prs_mem M (by omega)
        have : ∀ (l : List Nat) (k : Nat), l.Nodup → (∀ q ∈ l, q < k) → l.length ≤ k := by
          intro l k
          induction k generalizing l with
          | zero =>
            intro _ hq
            rcases l with _ | ⟨a, t⟩
            · simp
            · exact absurd (hq a (by simp)) (by omega)
          | succ k ih =>
            intro hn hq
            have h3 := ih (l.erase k) (hn.erase k) (fun q hq' => by
              have h4 := (List.Nodup.mem_erase_iff hn).1 hq'
              have h5 := hq q h4.2
              omega)
            have h6 := List.length_erase_le (a := k) (l := l)
            by_cases hk : k ∈ l
            · rw [List.length_erase_of_mem hk] at h3; omega
            · rw [List.erase_of_not_mem hk] at h3; omega
        have h7 := this (Num.prs M) (M + 1) hnd (fun q hq => by
          have := Nat.le_of_dvd (by omega) (hmem q hq).2
          omega)
        have h8 : ∀ q ∈ Num.prs M, q < M + 1 := fun q hq => by
          have := Nat.le_of_dvd (by omega) (hmem q hq).2
          omega
        have h9 := this (0 :: Num.prs M) (M + 1) (List.nodup_cons.2 ⟨fun h => by have := (hmem 0 h).1.1; omega, hnd⟩) (fun q hq => by
          rcases List.mem_cons.1 hq with rfl | hq
          · omega
          · exact h8 q hq)
        rw [List.length_cons] at h9
        omega
      omega
    clear hlen
    go_wp2
    go_loop [5, 17] (fun c i => ∃ j C : Nat, j ≤ (facN M).length ∧ i = .int .i64 j ∧ c = .int .i64 C ∧ C ≤ M ∧ Num.phiF C ((Num.prs M).drop j) = uniN M M) (fun _ i => (facN M).length - (intOf i).toNat)
    case atStart => exact ⟨0, M, Nat.zero_le _, rfl, rfl, Nat.le_refl _, by rw [List.drop_zero]; exact HPH.out⟩
    case round =>
      obtain ⟨j, C, hj, rfl, rfl, hC, hphi⟩ := hrel
      have HPhi := Lib.hid hphi
      clear hphi
      by_cases hlt : j < (facN M).length
      · obtain ⟨g, c1, A1, d1, e1, g1, k1, -, o1, -⟩ := HO.out.row j hlt
        injection e1 with e1 e1b e1c
        subst e1
        clear e1b e1c
        have hjp : j < (Num.prs M).length := by rw [← HL.out]; exact hlt
        obtain ⟨x, hx⟩ : ∃ x, (Num.fz 2 M)[j]? = some x := ⟨_, List.getElem?_eq_getElem (by unfold facN at hlt; simpa using hlt)⟩
        have hrow : (facN M)[j]?.getD [] = [((x.1 : Nat) : Int), ((x.2 : Nat) : Int)] := by
          unfold facN; rw [List.getElem?_map, hx]; rfl
        have hpr : (Num.prs M)[j]? = some x.1 := by unfold Num.prs; rw [List.getElem?_map, hx]; rfl
        have hpr2 : (Num.prs M)[j] = x.1 := by rw [List.getElem?_eq_getElem hjp] at hpr; injection hpr
        have hdrop : (Num.prs M).drop j = x.1 :: (Num.prs M).drop (j + 1) := by rw [List.drop_eq_getElem_cons hjp, hpr2]
        have hp2 : 2 ≤ x.1 := by
          have := (Num.prs_mem M (by omega) x.1 (by rw [← hpr2]; exact List.getElem_mem hjp)).1.1
          exact this
        have HD := Lib.hid hdrop
        rw [hrow] at k1 o1
        obtain ⟨g', c2, e2⟩ := o1.openv (by simp)
        injection e2 with e2 e2b e2c
        subst e2
        clear e2b e2c
        obtain ⟨_, _, o3, _⟩ := o1.cells
        have k2 := o3 0 (by simp)
        obtain ⟨P, hP⟩ : ∃ P, x.1 = P := ⟨_, rfl⟩
        rw [hP] at hp2 k1 k2
        have HP := Lib.hid hP
        simp only [List.length_cons, List.length_nil, List.getElem?_cons_zero, Option.getD_some] at k1 k2
        have hP0 : ¬ (P : Int) = 0 := by omega
        have hdc : (C : Int) / (P : Int) = ((C / P : Nat) : Int) := (Int.natCast_ediv C P).symm
        have hdl := Nat.div_le_self C P
        have d1' : 0 ≤ (C : Int) / (P : Int) := by rw [hdc]; exact Int.natCast_nonneg _
        have d2' : (C : Int) / (P : Int) ≤ (C : Int) := by rw [hdc]; omega
        have HDC := Lib.hid hdc
        have HDL := Lib.hid hdl
        clear hx hrow hpr hpr2 hdrop hP o1 o3 hdc hdl hjp
        go_wp2
        go_round
        case rel =>
          have a1 := HPhi.out
          rw [HD.out, Num.phiF, HP.out] at a1
          exact ⟨j + 1, C - C / P, by omega, by go_num, by rw [HDC.out, Int.natCast_sub HDL.out], by omega, a1⟩
        case measure => simp only [intOf]; omega
      · obtain rfl : j = (facN M).length := by omega
        have a1 := HPhi.out
        rw [HL.out, List.drop_length, Num.phiF] at a1
        have HA := Lib.hid a1
        clear a1
        go_wp2
        go_ret2
        exact ⟨ret_ii (by rw [HF.out]; simp only [Int.toNat_natCast]; rw [HA.out]) (by rw [HF.out]), HB.out⟩
  · have HF := Lib.hid (show cntM m = (0, 1) by rw [cntM, if_neg h0])
    have hc1 : codeN m [] = 1 := by rw [codeN, if_neg h0]
    clear h0
    go_enter Try.func26, Try.ntmps26
    go_wp2_with (go_at_call 59; refine (codeOfNumbers_any _ none 0 [] _ (by simp) (RI_nil _)).mono ?_; rintro e w' ⟨rfl, rfl⟩)
    go_ret2
    exact ⟨ret_ii (by rw [HF.out]) (by rw [HF.out]), Below.refl _ _⟩

end Go.Proofs.Ytkhdbphdeabgnaa
