/- Contracts of the two binomial functions. -/
import Derived.Test.YtkhdbphdeabgnaaOwn
import Derived.Test.YtkhdbphdeabgnaaBinN
namespace Go.Proofs.Ytkhdbphdeabgnaa
open Go.RowKit Go.WideShapes Go.ChangeShapes Go.ChangeAt

/-- the number of ways to choose k of n things -/
def binI (n k : Int) : Int := (Num.bin n.toNat k.toNat : Nat)
theorem binI_bd {n k : Int} (hn : n ≤ 60) : 0 ≤ binI n k ∧ binI n k ≤ 118264581564861424 := by
  have := Num.bin_le n.toNat k.toNat (by omega)
  unfold binI; omega

set_option maxHeartbeats 1000000 in
theorem choices_any (n k : Int) (w : World) (h1 : 0 ≤ n) (h2 : n ≤ 60) (h3 : 0 ≤ k) (h4 : k ≤ 60) :
    Calls Try.prog 88 #[.int .i64 n, .int .i64 k] w fun e w' => e = .returned (.int .i64 (binI n k)) ∧ w = w' := by
  obtain ⟨N, rfl⟩ := Int.eq_ofNat_of_zero_le h1
  obtain ⟨K, rfl⟩ := Int.eq_ofNat_of_zero_le h3
  by_cases hkn : N < K
  · have HF := Lib.hid (show binI (N : Int) (K : Int) = 0 by rw [binI, Int.toNat_natCast, Int.toNat_natCast, Num.bin_over N K hkn]; rfl)
    go_enter Try.func88, Try.ntmps88
    go_wp2
    go_ret
    exact ⟨ret_int HF.out.symm, rfl⟩
  · go_enter Try.func88, Try.ntmps88
    go_wp2
    go_loop [5, 6] (fun c i => ∃ I : Nat, 1 ≤ I ∧ I ≤ K + 1 ∧ c = .int .i64 (Num.bin N (I - 1) : Nat) ∧ i = .int .i64 I) (fun _ i => K + 1 - (intOf i).toNat)
    case atStart => exact ⟨1, by omega, by omega, by rw [Nat.sub_self, Num.bin_zero]; rfl, rfl⟩
    case round =>
      obtain ⟨I, i1, i2, rfl, rfl⟩ := hrel
      by_cases hlt : I ≤ K
      · have hle := Num.bin_le N (I - 1) (by omega)
        have hpr := Num.bin_prod (n := N) (k := I - 1) (by omega)
        have hst := Num.bin_step (n := N) (k := I - 1) (by omega)
        rw [show I - 1 + 1 = I by omega] at hst
        obtain ⟨C, hC⟩ : ∃ C, Num.bin N (I - 1) = C := ⟨_, rfl⟩
        rw [hC] at hle hpr hst ⊢
        have e1 : (C : Int) * ((N : Int) - (I : Int) + 1) = ((C * (N - (I - 1)) : Nat) : Int) := by
          rw [Int.natCast_mul]; congr 1; omega
        have p1 : 0 ≤ (C : Int) * ((N : Int) - (I : Int) + 1) := by rw [e1]; exact Int.natCast_nonneg _
        have p2 : (C : Int) * ((N : Int) - (I : Int) + 1) ≤ 7095874893891685440 := by rw [e1]; omega
        have HS := Lib.hid (show (C : Int) * ((N : Int) - (I : Int) + 1) / (I : Int) = ((Num.bin N I : Nat) : Int) by rw [e1, ← Int.natCast_ediv, hst])
        clear hst hpr e1 hC
        go_wp2
        go_round
        case rel => exact ⟨I + 1, by omega, by omega, by rw [HS.out, Nat.add_sub_cancel], by go_num⟩
        case measure => simp only [intOf]; omega
      · obtain rfl : I = K + 1 := by omega
        go_wp2
        go_ret
        exact ⟨ret_int (by rw [binI, Int.toNat_natCast, Int.toNat_natCast]), rfl⟩

/-- the beginning of a row of the triangle -/
def rowI (n j : Nat) : List Int := (List.range j).map fun i => ((Num.bin n i : Nat) : Int)
theorem rowI_length (n j : Nat) : (rowI n j).length = j := by simp [rowI]
theorem rowI_succ (n j : Nat) : rowI n (j + 1) = rowI n j ++ [((Num.bin n j : Nat) : Int)] := by simp [rowI, List.range_succ]
theorem rowI_one (n : Nat) : rowI n 1 = [1] := by simp [rowI, Num.bin_zero]
theorem rowI_get (n j i : Nat) (h : i < j) : (rowI n j)[i]?.getD 0 = ((Num.bin n i : Nat) : Int) := by simp [rowI, h]

set_option maxHeartbeats 2000000 in
theorem l01Binomial_any (n k : Int) (w : World) (h1 : 0 ≤ n) (h2 : n ≤ 60) (h3 : 0 ≤ k) (h4 : k ≤ 60) :
    Calls Try.prog 89 #[.int .i64 n, .int .i64 k] w fun e w' => e = .returned (.int .i64 (binI n k)) ∧ Below w.heap.size w w' := by
  obtain ⟨N, rfl⟩ := Int.eq_ofNat_of_zero_le h1
  obtain ⟨K, rfl⟩ := Int.eq_ofNat_of_zero_le h3
  by_cases hkn : N < K
  · have HF := Lib.hid (show binI (N : Int) (K : Int) = 0 by rw [binI, Int.toNat_natCast, Int.toNat_natCast, Num.bin_over N K hkn]; rfl)
    go_enter Try.func89, Try.ntmps89
    go_wp2
    go_ret
    exact ⟨ret_int HF.out.symm, Below.refl _ _⟩
  · go_enter Try.func89, Try.ntmps89
    go_wp2
    go_loopw [5, 6] (fun r i wr => ∃ I : Nat, I ≤ N ∧ i = .int .i64 I ∧ OwnI wr w.heap.size r (rowI I (I + 1)) ∧ Below w.heap.size w wr) (fun _ i _ => N - (intOf i).toNat)
    case atStart => exact ⟨0, Nat.zero_le _, rfl, by rw [rowI_one]; exact OwnI.one w 1, (Below.refl _ _).alloc (Nat.le_refl _) _⟩
    case round =>
      obtain ⟨I, hI, rfl, hown, hbel⟩ := hrel
      have HB := Lib.hid hbel
      have HO := Lib.hid hown
      obtain ⟨A, c, rfl, hri⟩ := hown.form
      rw [rowI_length] at HO ⊢
      clear hbel hown
      by_cases hlt : I < N
      · have hB1 := HB.out.size
        obtain ⟨wo, rfl⟩ : ∃ wo : World, wo = wr := ⟨_, rfl⟩
        obtain ⟨b, off, rfl, hb, hc⟩ := hri (by intro h; have := congrArg List.length h; rw [rowI_length] at this; simp at this)
        have HC := Lib.hid hc
        clear hri hc
        go_wp2
        go_loopw [7, 8] (fun x j wi => ∃ T : Nat, 1 ≤ T ∧ T ≤ I + 1 ∧ j = .int .i64 T ∧ OwnI wi wo.heap.size x (rowI (I + 1) T) ∧ Below wo.heap.size wo wi) (fun _ j _ => I + 1 - (intOf j).toNat)
        case atStart => exact ⟨1, by omega, by omega, rfl, by rw [rowI_one]; exact OwnI.one wo 1, (Below.refl _ _).alloc (Nat.le_refl _) _⟩
        case round =>
          obtain ⟨T, hT1, hT2, rfl, hown2, hbel2⟩ := hrel
          have HB2 := Lib.hid hbel2
          have HO2 := Lib.hid hown2
          clear hbel2 hown2
          by_cases hj : T < I + 1
          · obtain ⟨J, hJ⟩ : ∃ J, T = J + 1 := ⟨T - 1, by omega⟩
            have c1 := (HB2.out.cell (p := ⟨b, off + J, none⟩) hb).trans (HC.out J (by rw [rowI_length]; omega))
            have c2 := (HB2.out.cell (p := ⟨b, off + T, none⟩) hb).trans (HC.out T (by rw [rowI_length]; omega))
            rw [rowI_get _ _ _ (by omega)] at c1 c2
            have l1 := Num.bin_le I J (by omega)
            have l2 := Num.bin_le I T (by omega)
            have HS := Lib.hid (show Num.bin (I + 1) T = Num.bin I J + Num.bin I T by rw [hJ, Num.bin_succ])
            obtain ⟨X, hX⟩ : ∃ X, Num.bin I J = X := ⟨_, rfl⟩
            obtain ⟨Y, hY⟩ : ∃ Y, Num.bin I T = Y := ⟨_, rfl⟩
            rw [hX] at c1 l1
            rw [hY] at c2 l2
            have HX := Lib.hid hX
            have HY := Lib.hid hY
            have j1 : (0 : Int) ≤ (T : Int) := by omega
            have j2 : (T : Int) < (I : Int) + 1 := by omega
            have j3 : (0 : Int) ≤ (J : Int) := by omega
            have j4 : (J : Int) < (I : Int) + 1 := by omega
            have j5 : IntKind.i64.wrap ((T : Int) - 1) = (J : Int) := by rw [IntWalk.i64_in _ (by omega)]; omega
            have j6 : IntKind.i64.wrap ((X : Int) + (Y : Int)) = (X : Int) + (Y : Int) := IntWalk.i64_in _ (by omega)
            have hsz := HB2.out.size
            clear hX hY hJ
            go_wp2
            go_region_held3 (fun w' => w'.cell? ⟨b, off + J, none⟩ = some (.int .i64 (X : Nat)) ∧ w'.cell? ⟨b, off + T, none⟩ = some (.int .i64 (Y : Nat))) (first | go_keep | exact ⟨((((Below.refl wo.heap.size wr).alloc hsz _).drew.trans hpb).cell hb).trans c1, ((((Below.refl wo.heap.size wr).alloc hsz _).drew.trans hpb).cell hb).trans c2⟩) ((refine step_push _ _ _ (by rfl) (by rfl) Try.underlying34 wo.heap.size _ _ (by rfl) ((HO2.out.alloc _).drew) wr.heap.size ((X : Int) + (Y : Int)) (by rfl) (by simp) (by rw [rowI_length]; omega) (by have := HB2.out.size; simp; omega) ?_; intro v' w1 ho1 hpb))
            have hpb' := ((Below.refl wo.heap.size wr).alloc hsz _).drew.trans hpb
            have HP := Lib.hid hpb'
            have HQ := Lib.hid ho1
            clear hpb hpb' ho1 c1 c2 j5 j6
            go_wp2
            go_roundw
            case rel => exact ⟨T + 1, by omega, by omega, by go_num, by rw [rowI_succ, HS.out, HX.out, HY.out, Int.natCast_add]; exact HQ.out, HB2.out.trans HP.out⟩
            case measure => simp only [intOf]; omega
          · obtain rfl : T = I + 1 := by omega
            have hsz := HB2.out.size
            go_wp2_with (at_builtin; refine wp_push _ _ _ (by rfl) (by rfl) Try.underlying34 wo.heap.size _ _ (by rfl) HO2.out 1 (by rfl) (by rw [rowI_length]; omega) (by omega) ?_; intro v' w1 ho1 hpb)
            have HP := Lib.hid hpb
            have HQ := Lib.hid ho1
            clear hpb ho1
            go_wp2
            go_roundw
            case rel =>
              refine ⟨I + 1, by omega, by go_num, OwnI.more ?_ hB1, HB.out.trans ((HB2.out.trans HP.out).mono hB1)⟩
              rw [rowI_succ _ (I + 1), Num.bin_self]
              exact HQ.out
            case measure => simp only [intOf]; omega
      · obtain rfl : I = N := by omega
        obtain ⟨b, off, rfl, hb, hc⟩ := hri (by intro h; have := congrArg List.length h; rw [rowI_length] at this; simp at this)
        have c1 := hc K (by rw [rowI_length]; omega)
        rw [rowI_get _ _ _ (by omega)] at c1
        clear hri hc
        go_wp2
        go_ret
        exact ⟨ret_int (by rw [binI, Int.toNat_natCast, Int.toNat_natCast]), HB.out⟩

end Go.Proofs.Ytkhdbphdeabgnaa
