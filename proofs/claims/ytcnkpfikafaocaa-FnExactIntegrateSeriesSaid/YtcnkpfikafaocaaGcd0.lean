/- Contract of the model's greatest common divisor. -/
import Derived.Test.YtcnkpfikafaocaaProg
import Derived.Test.YtcnkpfikafaocaaBase
namespace Go.Proofs.Ytcnkpfikafaocaa
open Go.RowKit Go.WideShapes Go.ChangeShapes Go.ChangeAt

/-- the greatest common divisor, at integers of any sign -/
def gcdI (a b : Int) : Int := (Nat.gcd a.natAbs b.natAbs : Nat)
theorem emod_nat (G H : Nat) : (G : Int) % (H : Int) = ((G % H : Nat) : Int) := (Int.natCast_emod G H).symm
set_option maxHeartbeats 1000000 in
theorem l01Gcd_any (a b : Int) (w : World) (h1 : -4000000000000000000 ≤ a) (h2 : a ≤ 4000000000000000000) (h3 : -4000000000000000000 ≤ b) (h4 : b ≤ 4000000000000000000) :
    Calls Try.prog 121 #[.int .i64 a, .int .i64 b] w fun e w' => e = .returned (.int .i64 (gcdI a b)) ∧ w = w' := by
  have hA : (∃ A : Nat, a = -(A : Int) ∧ 0 < A ∧ A ≤ 4000000000000000000) ∨ (∃ A : Nat, a = (A : Int) ∧ A ≤ 4000000000000000000) := by
    by_cases h : a < 0
    · exact .inl ⟨a.natAbs, by omega, by omega, by omega⟩
    · exact .inr ⟨a.natAbs, by omega, by omega⟩
  have hB : (∃ B : Nat, b = -(B : Int) ∧ 0 < B ∧ B ≤ 4000000000000000000) ∨ (∃ B : Nat, b = (B : Int) ∧ B ≤ 4000000000000000000) := by
    by_cases h : b < 0
    · exact .inl ⟨b.natAbs, by omega, by omega, by omega⟩
    · exact .inr ⟨b.natAbs, by omega, by omega⟩
  clear h1 h2 h3 h4
  rcases hA with ⟨A, rfl, hA1, hA2⟩ | ⟨A, rfl, hA2⟩ <;> rcases hB with ⟨B, rfl, hB1, hB2⟩ | ⟨B, rfl, hB2⟩
  all_goals
    go_enter Try.func121, Try.ntmps121
    go_wp2
    go_loop [0, 1] (fun g ng => ∃ (G H : Nat), g = .int .i64 G ∧ ng = .int .i64 H ∧ G ≤ 4000000000000000000 ∧ H ≤ 4000000000000000000 ∧ Nat.gcd G H = Nat.gcd A B) (fun _ ng => (intOf ng).toNat)
    case atStart => exact ⟨A, B, by go_num, by go_num, by omega, by omega, rfl⟩
    case round =>
      obtain ⟨G, H, rfl, rfl, b1, b2, heq⟩ := hrel
      have HE := Lib.hid heq
      clear heq
      by_cases hH : H = 0
      · subst hH
        go_wp2
        go_ret
        have := HE.out
        rw [Nat.gcd_zero_right] at this
        exact ⟨ret_int (by rw [this]; simp [gcdI]), rfl⟩
      · have hpos : 0 < H := by omega
        have hlt := Nat.mod_lt G hpos
        have hm1 : 0 ≤ (G : Int) % H := by rw [emod_nat]; exact Int.natCast_nonneg _
        have hg : Nat.gcd H (G % H) = Nat.gcd G H := by rw [Nat.gcd_comm H (G % H), ← Nat.gcd_rec, Nat.gcd_comm]
        have HG := Lib.hid hg
        clear hg hH
        go_wp2
        go_round
        case rel => exact ⟨H, G % H, rfl, by rw [emod_nat], b2, by omega, HG.out.trans HE.out⟩
        case measure => simp only [intOf]; rw [emod_nat]; omega

end Go.Proofs.Ytcnkpfikafaocaa
