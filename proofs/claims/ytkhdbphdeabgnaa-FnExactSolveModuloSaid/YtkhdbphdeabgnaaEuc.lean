/- Contracts of the two Euclids with a factor, of the greatest common divisor, and of what looks at units. -/
import Derived.Test.YtkhdbphdeabgnaaMod
import Derived.Test.YtkhdbphdeabgnaaNum
namespace Go.Proofs.Ytkhdbphdeabgnaa
open Go.RowKit Go.WideShapes Go.ChangeShapes Go.ChangeAt

/-- the divisor and the factor of a number -/
def egI (m a : Int) : Int × Int := (((Num.eg m.toNat a.toNat 0 1).1 : Int), (Num.eg m.toNat a.toNat 0 1).2 % m)

theorem div_cast (G H : Nat) : (G : Int) / (H : Int) = ((G / H : Nat) : Int) := (Int.natCast_ediv G H).symm
theorem sub_mod_cast (G H : Nat) : (G : Int) - (G : Int) / (H : Int) * (H : Int) = ((G % H : Nat) : Int) := by
  have h := Nat.div_add_mod G H
  have h2 : ((G / H : Nat) : Int) * (H : Int) = ((H * (G / H) : Nat) : Int) := by rw [Int.natCast_mul, Int.mul_comm]
  rw [div_cast, h2]; omega

set_option maxHeartbeats 1000000 in
theorem divisorAndFactor_any (m a : Int) (w : World) (h0 : 0 ≤ a) (h1 : a < m) (h2 : m ≤ 10000) :
    Calls Try.prog 60 #[.int .i64 m, .int .i64 a] w fun e w' => e = .returned (.tuple #[.int .i64 (egI m a).1, .int .i64 (egI m a).2]) ∧ w = w' := by
  obtain ⟨A, rfl⟩ := Int.eq_ofNat_of_zero_le h0
  obtain ⟨M, rfl⟩ := Int.eq_ofNat_of_zero_le (show 0 ≤ m by omega)
  go_enter Try.func60, Try.ntmps60
  go_wp2
  go_loop [6, 7, 8, 9] (fun g ng x nx => ∃ (G H : Nat) (X Y : Int), g = .int .i64 G ∧ ng = .int .i64 H ∧ x = .int .i64 X ∧ nx = .int .i64 Y ∧ Num.EInv M A G H X Y ∧ Num.eg G H X Y = Num.eg M A 0 1) (fun _ ng _ _ => (intOf ng).toNat)
  case atStart => exact ⟨M, A, 0, 1, rfl, rfl, rfl, rfl, Num.EInv.start (by omega), rfl⟩
  case round =>
    obtain ⟨G, H, X, Y, rfl, rfl, rfl, rfl, hinv, heq⟩ := hrel
    have HI := Lib.hid hinv
    have HE := Lib.hid heq
    have hle := hinv.le
    have hY := hinv.bn
    obtain ⟨hY1, hY2⟩ := hY
    clear heq
    by_cases hH : H = 0
    · subst hH
      have hst := Num.eg_zero G X Y
      have HS := Lib.hid hst
      clear hst
      obtain ⟨hb1, hb2⟩ := hinv.sm
      clear hinv
      go_wp2_with (go_at_call 80; refine (remainder_any _ _ _ (by omega) (by omega) (by omega) (by omega)).mono ?_; rintro e w' ⟨rfl, rfl⟩)
      go_ret2
      have := HE.out
      rw [HS.out] at this
      exact ⟨ret_ii (by rw [egI]; simp only [Int.toNat_natCast]; rw [← this]) (by rw [egI]; simp only [Int.toNat_natCast]; rw [← this]), rfl⟩
    · obtain ⟨hX1, hX2⟩ := hinv.sm
      have hq := hinv.bq hH
      rw [← div_cast] at hq
      obtain ⟨hq1, hq2⟩ := hq
      have hG : 0 ≤ (G : Int) / H * H ∧ (G : Int) / H * H ≤ G := by
        have h := sub_mod_cast G H
        have h3 : G % H < H := Nat.mod_lt _ (by omega)
        have h4 : ((G / H : Nat) : Int) * (H : Int) = ((G / H * H : Nat) : Int) := by rw [Int.natCast_mul]
        rw [div_cast] at h ⊢
        omega
      obtain ⟨hG1, hG2⟩ := hG
      have hQ : 0 ≤ (G : Int) / H ∧ (G : Int) / H ≤ 10000 := by
        rw [div_cast]
        have := Nat.div_le_self G H
        exact ⟨Int.natCast_nonneg _, by omega⟩
      obtain ⟨hQ1, hQ2⟩ := hQ
      have hstep := hinv.step hH
      have HP := Lib.hid hstep
      have hes := Num.eg_step G H X Y hH
      have HS := Lib.hid hes
      clear hinv hstep hes
      have hpos : 0 < H := by omega
      clear hH
      go_wp2
      go_round
      case rel =>
        refine ⟨H, G % H, Y, X - (G : Int) / H * Y, rfl, ?_, rfl, rfl, ?_, ?_⟩
        · rw [sub_mod_cast]
        · rw [div_cast]; exact HP.out
        · rw [div_cast, ← HS.out]; exact HE.out
      case measure =>
        simp only [intOf]
        rw [sub_mod_cast]
        have := Nat.mod_lt G hpos
        omega

set_option maxHeartbeats 1000000 in
theorem l01Inv_any (m a : Int) (w : World) (h0 : 0 ≤ a) (h1 : a < m) (h2 : m ≤ 10000) :
    Calls Try.prog 62 #[.int .i64 m, .int .i64 a] w fun e w' => e = .returned (.int .i64 (egI m a).2) ∧ w = w' := by
  obtain ⟨A, rfl⟩ := Int.eq_ofNat_of_zero_le h0
  obtain ⟨M, rfl⟩ := Int.eq_ofNat_of_zero_le (show 0 ≤ m by omega)
  have HA := Lib.hid (Int.emod_eq_of_lt h0 h1)
  go_enter Try.func62, Try.ntmps62
  go_wp2_with (go_at_call 82; refine (l01Mod_any _ _ _ (by omega) (by omega) (by omega) (by omega)).mono ?_; rintro e w' ⟨rfl, rfl⟩; rw [HA.out])
  go_loop [5, 6, 7, 8] (fun g ng x nx => ∃ (G H : Nat) (X Y : Int), g = .int .i64 G ∧ ng = .int .i64 H ∧ x = .int .i64 X ∧ nx = .int .i64 Y ∧ Num.EInv M A G H X Y ∧ Num.eg G H X Y = Num.eg M A 0 1) (fun _ ng _ _ => (intOf ng).toNat)
  case atStart => exact ⟨M, A, 0, 1, rfl, rfl, rfl, rfl, Num.EInv.start (by omega), rfl⟩
  case round =>
    obtain ⟨G, H, X, Y, rfl, rfl, rfl, rfl, hinv, heq⟩ := hrel
    have HI := Lib.hid hinv
    have HE := Lib.hid heq
    have hle := hinv.le
    have hY := hinv.bn
    obtain ⟨hY1, hY2⟩ := hY
    clear heq
    by_cases hH : H = 0
    · subst hH
      have hst := Num.eg_zero G X Y
      have HS := Lib.hid hst
      clear hst
      obtain ⟨hb1, hb2⟩ := hinv.sm
      clear hinv
      go_wp2_with (go_at_call 82; refine (l01Mod_any _ _ _ (by omega) (by omega) (by omega) (by omega)).mono ?_; rintro e w' ⟨rfl, rfl⟩)
      go_ret
      have := HE.out
      rw [HS.out] at this
      exact ⟨ret_int (by rw [egI]; simp only [Int.toNat_natCast]; rw [← this]), rfl⟩
    · obtain ⟨hX1, hX2⟩ := hinv.sm
      have hq := hinv.bq hH
      rw [← div_cast] at hq
      obtain ⟨hq1, hq2⟩ := hq
      have hG : 0 ≤ (G : Int) / H * H ∧ (G : Int) / H * H ≤ G := by
        have h := sub_mod_cast G H
        have h3 : G % H < H := Nat.mod_lt _ (by omega)
        have h4 : ((G / H : Nat) : Int) * (H : Int) = ((G / H * H : Nat) : Int) := by rw [Int.natCast_mul]
        rw [div_cast] at h ⊢
        omega
      obtain ⟨hG1, hG2⟩ := hG
      have hQ : 0 ≤ (G : Int) / H ∧ (G : Int) / H ≤ 10000 := by
        rw [div_cast]
        have := Nat.div_le_self G H
        exact ⟨Int.natCast_nonneg _, by omega⟩
      obtain ⟨hQ1, hQ2⟩ := hQ
      have hstep := hinv.step hH
      have HP := Lib.hid hstep
      have hes := Num.eg_step G H X Y hH
      have HS := Lib.hid hes
      clear hinv hstep hes
      have hpos : 0 < H := by omega
      clear hH
      go_wp2
      go_round
      case rel =>
        refine ⟨H, G % H, Y, X - (G : Int) / H * Y, rfl, ?_, rfl, rfl, ?_, ?_⟩
        · rw [sub_mod_cast]
        · rw [div_cast]; exact HP.out
        · rw [div_cast, ← HS.out]; exact HE.out
      case measure =>
        simp only [intOf]
        rw [sub_mod_cast]
        have := Nat.mod_lt G hpos
        omega

/-- the greatest common divisor, at integers of any sign -/
def gcdI (a b : Int) : Int := (Nat.gcd a.natAbs b.natAbs : Nat)
theorem emod_nat (G H : Nat) : (G : Int) % (H : Int) = ((G % H : Nat) : Int) := (Int.natCast_emod G H).symm
set_option maxHeartbeats 1000000 in
theorem l01Gcd_any (a b : Int) (w : World) (h1 : -4000000000000000000 ≤ a) (h2 : a ≤ 4000000000000000000) (h3 : -4000000000000000000 ≤ b) (h4 : b ≤ 4000000000000000000) :
    Calls Try.prog 95 #[.int .i64 a, .int .i64 b] w fun e w' => e = .returned (.int .i64 (gcdI a b)) ∧ w = w' := by
  have hA : (∃ A : Nat, a = -(A : Int) ∧ 0 < A ∧ A ≤ 4000000000000000000) ∨ (∃ A : Nat, a = (A : Int) ∧ A ≤ 4000000000000000000) := by
    by_cases h : a < 0
    · exact .inl ⟨a.natAbs, by omega, by omega, by omega⟩
    · exact .inr ⟨a.natAbs, by omega, by omega⟩
  have hB : (∃ B : Nat, b = -(B : Int) ∧ 0 < B ∧ B ≤ 4000000000000000000) ∨ (∃ B : Nat, b = (B : Int) ∧ B ≤ 4000000000000000000) := by
    by_cases h : b < 0
    · exact .inl ⟨b.natAbs, by omega, by omega, by omega⟩
    · exact .inr ⟨b.natAbs, by omega, by omega⟩
  clear h1 h2 h3 h4
  rcases hA with ⟨A, rfl, hA1, hA2⟩ | ⟨A, rfl, hA2⟩ <;> rcases hB with ⟨B, rfl, hB1, hB2⟩ | ⟨B, rfl, hB2⟩
  all_goals
    go_enter Try.func95, Try.ntmps95
    go_wp2
    go_loop [0, 1] (fun g ng => ∃ (G H : Nat), g = .int .i64 G ∧ ng = .int .i64 H ∧ G ≤ 4000000000000000000 ∧ H ≤ 4000000000000000000 ∧ Nat.gcd G H = Nat.gcd A B) (fun _ ng => (intOf ng).toNat)
    case atStart => exact ⟨A, B, by go_num, by go_num, by omega, by omega, rfl⟩
    case round =>
      obtain ⟨G, H, rfl, rfl, b1, b2, heq⟩ := hrel
      have HE := Lib.hid heq
      clear heq
      by_cases hH : H = 0
      · subst hH
        go_wp2
        go_ret
        have := HE.out
        rw [Nat.gcd_zero_right] at this
        exact ⟨ret_int (by rw [this]; simp [gcdI]), rfl⟩
      · have hpos : 0 < H := by omega
        have hlt := Nat.mod_lt G hpos
        have hm1 : 0 ≤ (G : Int) % H := by rw [emod_nat]; exact Int.natCast_nonneg _
        have hg : Nat.gcd H (G % H) = Nat.gcd G H := by rw [Nat.gcd_comm H (G % H), ← Nat.gcd_rec, Nat.gcd_comm]
        have HG := Lib.hid hg
        clear hg hH
        go_wp2
        go_round
        case rel => exact ⟨H, G % H, rfl, by rw [emod_nat], b2, by omega, HG.out.trans HE.out⟩
        case measure => simp only [intOf]; rw [emod_nat]; omega

end Go.Proofs.Ytkhdbphdeabgnaa
