/- Contracts of the two Euclids with a factor, of the greatest common divisor, and of what looks at units. -/
import Derived.Test.YtcnkpfikafaocaaMod
import Derived.Test.YtcnkpfikafaocaaNum
import Derived.Test.YtcnkpfikafaocaaGcd0
namespace Go.Proofs.Ytcnkpfikafaocaa
open Go.RowKit Go.WideShapes Go.ChangeShapes Go.ChangeAt

/-- the divisor and the factor of a number -/
def egI (m a : Int) : Int × Int := (((Num.eg m.toNat a.toNat 0 1).1 : Int), (Num.eg m.toNat a.toNat 0 1).2 % m)

theorem div_cast (G H : Nat) : (G : Int) / (H : Int) = ((G / H : Nat) : Int) := (Int.natCast_ediv G H).symm
theorem sub_mod_cast (G H : Nat) : (G : Int) - (G : Int) / (H : Int) * (H : Int) = ((G % H : Nat) : Int) := by
  have h := Nat.div_add_mod G H
  have h2 : ((G / H : Nat) : Int) * (H : Int) = ((H * (G / H) : Nat) : Int) := by rw [Int.natCast_mul, Int.mul_comm]
  rw [div_cast, h2]; omega

set_option maxHeartbeats 1000000 in
theorem divisorAndFactor_any (m a : Int) (w : World) (h0 : 0 ≤ a) (h1 : a < m) (h2 : m ≤ 10000) :
    Calls Try.prog 119 #[.int .i64 m, .int .i64 a] w fun e w' => e = .returned (.tuple #[.int .i64 (egI m a).1, .int .i64 (egI m a).2]) ∧ w = w' := by
  obtain ⟨A, rfl⟩ := Int.eq_ofNat_of_zero_le h0
  obtain ⟨M, rfl⟩ := Int.eq_ofNat_of_zero_le (show 0 ≤ m by omega)
  go_enter Try.func119, Try.ntmps119
  go_wp2
  go_loop [6, 7, 8, 9] (fun g ng x nx => ∃ (G H : Nat) (X Y : Int), g = .int .i64 G ∧ ng = .int .i64 H ∧ x = .int .i64 X ∧ nx = .int .i64 Y ∧ Num.EInv M A G H X Y ∧ Num.eg G H X Y = Num.eg M A 0 1) (fun _ ng _ _ => (intOf ng).toNat)
  case atStart => exact ⟨M, A, 0, 1, rfl, rfl, rfl, rfl, Num.EInv.start (by omega), rfl⟩
  case round =>
    obtain ⟨G, H, X, Y, rfl, rfl, rfl, rfl, hinv, heq⟩ := hrel
    have HI := Lib.hid hinv
    have HE := Lib.hid heq
    have hle := hinv.le
    have hY := hinv.bn
    obtain ⟨hY1, hY2⟩ := hY
    clear heq
    by_cases hH : H = 0
    · subst hH
      have hst := Num.eg_zero G X Y
      have HS := Lib.hid hst
      clear hst
      obtain ⟨hb1, hb2⟩ := hinv.sm
      clear hinv
      go_wp2_with (go_at_call 120; refine (remainder_any _ _ _ (by omega) (by omega) (by omega) (by omega)).mono ?_; rintro e w' ⟨rfl, rfl⟩)
      go_ret2
      have := HE.out
      rw [HS.out] at this
      exact ⟨ret_ii (by rw [egI]; simp only [Int.toNat_natCast]; rw [← this]) (by rw [egI]; simp only [Int.toNat_natCast]; rw [← this]), rfl⟩
    · obtain ⟨hX1, hX2⟩ := hinv.sm
      have hq := hinv.bq hH
      rw [← div_cast] at hq
      obtain ⟨hq1, hq2⟩ := hq
      have hG : 0 ≤ (G : Int) / H * H ∧ (G : Int) / H * H ≤ G := by
        have h := sub_mod_cast G H
        have h3 : G % H < H := Nat.mod_lt _ (by omega)
        have h4 : ((G / H : Nat) : Int) * (H : Int) = ((G / H * H : Nat) : Int) := by rw [Int.natCast_mul]
        rw [div_cast] at h ⊢
        omega
      obtain ⟨hG1, hG2⟩ := hG
      have hQ : 0 ≤ (G : Int) / H ∧ (G : Int) / H ≤ 10000 := by
        rw [div_cast]
        have := Nat.div_le_self G H
        exact ⟨Int.natCast_nonneg _, by omega⟩
      obtain ⟨hQ1, hQ2⟩ := hQ
      have hstep := hinv.step hH
      have HP := Lib.hid hstep
      have hes := Num.eg_step G H X Y hH
      have HS := Lib.hid hes
      clear hinv hstep hes
      have hpos : 0 < H := by omega
      clear hH
      go_wp2
      go_round
      case rel =>
        refine ⟨H, G % H, Y, X - (G : Int) / H * Y, rfl, ?_, rfl, rfl, ?_, ?_⟩
        · rw [sub_mod_cast]
        · rw [div_cast]; exact HP.out
        · rw [div_cast, ← HS.out]; exact HE.out
      case measure =>
        simp only [intOf]
        rw [sub_mod_cast]
        have := Nat.mod_lt G hpos
        omega

set_option maxHeartbeats 1000000 in
theorem l01Inv_any (m a : Int) (w : World) (h0 : 0 ≤ a) (h1 : a < m) (h2 : m ≤ 10000) :
    Calls Try.prog 122 #[.int .i64 m, .int .i64 a] w fun e w' => e = .returned (.int .i64 (egI m a).2) ∧ w = w' := by
  obtain ⟨A, rfl⟩ := Int.eq_ofNat_of_zero_le h0
  obtain ⟨M, rfl⟩ := Int.eq_ofNat_of_zero_le (show 0 ≤ m by omega)
  have HA := Lib.hid (Int.emod_eq_of_lt h0 h1)
  go_enter Try.func122, Try.ntmps122
  go_wp2_with (go_at_call 128; refine (l01Mod_any _ _ _ (by omega) (by omega) (by omega) (by omega)).mono ?_; rintro e w' ⟨rfl, rfl⟩; rw [HA.out])
  go_loop [5, 6, 7, 8] (fun g ng x nx => ∃ (G H : Nat) (X Y : Int), g = .int .i64 G ∧ ng = .int .i64 H ∧ x = .int .i64 X ∧ nx = .int .i64 Y ∧ Num.EInv M A G H X Y ∧ Num.eg G H X Y = Num.eg M A 0 1) (fun _ ng _ _ => (intOf ng).toNat)
  case atStart => exact ⟨M, A, 0, 1, rfl, rfl, rfl, rfl, Num.EInv.start (by omega), rfl⟩
  case round =>
    obtain ⟨G, H, X, Y, rfl, rfl, rfl, rfl, hinv, heq⟩ := hrel
    have HI := Lib.hid hinv
    have HE := Lib.hid heq
    have hle := hinv.le
    have hY := hinv.bn
    obtain ⟨hY1, hY2⟩ := hY
    clear heq
    by_cases hH : H = 0
    · subst hH
      have hst := Num.eg_zero G X Y
      have HS := Lib.hid hst
      clear hst
      obtain ⟨hb1, hb2⟩ := hinv.sm
      clear hinv
      go_wp2_with (go_at_call 128; refine (l01Mod_any _ _ _ (by omega) (by omega) (by omega) (by omega)).mono ?_; rintro e w' ⟨rfl, rfl⟩)
      go_ret
      have := HE.out
      rw [HS.out] at this
      exact ⟨ret_int (by rw [egI]; simp only [Int.toNat_natCast]; rw [← this]), rfl⟩
    · obtain ⟨hX1, hX2⟩ := hinv.sm
      have hq := hinv.bq hH
      rw [← div_cast] at hq
      obtain ⟨hq1, hq2⟩ := hq
      have hG : 0 ≤ (G : Int) / H * H ∧ (G : Int) / H * H ≤ G := by
        have h := sub_mod_cast G H
        have h3 : G % H < H := Nat.mod_lt _ (by omega)
        have h4 : ((G / H : Nat) : Int) * (H : Int) = ((G / H * H : Nat) : Int) := by rw [Int.natCast_mul]
        rw [div_cast] at h ⊢
        omega
      obtain ⟨hG1, hG2⟩ := hG
      have hQ : 0 ≤ (G : Int) / H ∧ (G : Int) / H ≤ 10000 := by
        rw [div_cast]
        have := Nat.div_le_self G H
        exact ⟨Int.natCast_nonneg _, by omega⟩
      obtain ⟨hQ1, hQ2⟩ := hQ
      have hstep := hinv.step hH
      have HP := Lib.hid hstep
      have hes := Num.eg_step G H X Y hH
      have HS := Lib.hid hes
      clear hinv hstep hes
      have hpos : 0 < H := by omega
      clear hH
      go_wp2
      go_round
      case rel =>
        refine ⟨H, G % H, Y, X - (G : Int) / H * Y, rfl, ?_, rfl, rfl, ?_, ?_⟩
        · rw [sub_mod_cast]
        · rw [div_cast]; exact HP.out
        · rw [div_cast, ← HS.out]; exact HE.out
      case measure =>
        simp only [intOf]
        rw [sub_mod_cast]
        have := Nat.mod_lt G hpos
        omega


end Go.Proofs.Ytcnkpfikafaocaa
