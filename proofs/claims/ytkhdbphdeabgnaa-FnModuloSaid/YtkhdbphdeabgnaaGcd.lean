/- Contracts of greatestDivisor and CommonDivisor, of the program and of the model. -/
import Derived.Test.YtkhdbphdeabgnaaCode2
import Derived.Test.YtkhdbphdeabgnaaGcd0
import Derived.RegionTactic
import Derived.Deep.QuietTactic
import Derived.BigQuiet
namespace Go.Proofs.Ytkhdbphdeabgnaa
open Go.RowKit Go.WideShapes Go.ChangeShapes Go.ChangeAt

set_option maxHeartbeats 1000000 in
theorem greatestDivisor_any (a b : Int) (w : World) (h1 : -4000000000000000000 ≤ a) (h2 : a ≤ 4000000000000000000) (h3 : -4000000000000000000 ≤ b) (h4 : b ≤ 4000000000000000000) :
    Calls Try.prog 71 #[.int .i64 a, .int .i64 b] w fun e w' => e = .returned (.int .i64 (gcdI a b)) ∧ Below w.heap.size w w' := by
  go_enter Try.func71, Try.ntmps71
  go_wp2
  go_loopw [0, 1] (fun x y wr => ∃ (X Y : Int), x = .int .i64 X ∧ y = .int .i64 Y ∧ -4000000000000000000 ≤ X ∧ X ≤ 4000000000000000000 ∧ -4000000000000000000 ≤ Y ∧ Y ≤ 4000000000000000000 ∧ gcdI X Y = gcdI a b ∧ Below w.heap.size w wr) (fun _ y _ => (intOf y).natAbs)
  case atStart => exact ⟨a, b, rfl, rfl, h1, h2, h3, h4, rfl, Below.refl _ _⟩
  case round =>
    obtain ⟨X, Y, rfl, rfl, b1, b2, b3, b4, heq, hbel⟩ := hrel
    have HE := Lib.hid heq
    have HB := Lib.hid hbel
    clear heq hbel
    by_cases hY : Y = 0
    · subst hY
      have h0 : gcdI X 0 = X.natAbs := by simp [gcdI]
      have H0 := Lib.hid h0
      clear h0
      by_cases hX : X < 0
      · go_wp2
        go_ret
        exact ⟨ret_int (by rw [← HE.out, H0.out]; omega), HB.out⟩
      · go_wp2
        go_ret
        exact ⟨ret_int (by rw [← HE.out, H0.out]; omega), HB.out⟩
    · obtain ⟨n1, n2⟩ := ne_facts hY
      have hlt : (X.tmod Y).natAbs < Y.natAbs := by rw [Int.natAbs_tmod]; exact Nat.mod_lt _ (by omega)
      have hg : gcdI Y (X.tmod Y) = gcdI X Y := by
        unfold gcdI; rw [Int.natAbs_tmod, Nat.gcd_comm Y.natAbs, ← Nat.gcd_rec, Nat.gcd_comm]
      have HG := Lib.hid hg
      have HL := Lib.hid hlt
      have c1 : -4000000000000000000 ≤ X.tmod Y ∧ X.tmod Y ≤ 4000000000000000000 := by omega
      obtain ⟨c1, c2⟩ := c1
      clear hg hlt
      go_wp2
      go_quiet (fail)
      go_wp2
      go_roundw
      case rel => exact ⟨Y, X.tmod Y, rfl, rfl, b3, b4, c1, c2, HG.out.trans HE.out, below_drewN HB.out _⟩
      case measure => simp only [intOf]; exact HL.out

/-- the greatest common divisor of two integers, and the code -/
def comM (a b : Int) : Int × Int := if codeI [a, b] = 0 then (gcdI a b, 0) else (0, codeI [a, b])
theorem codeI_two (a b : Int) : codeI [a, b] = 0 ↔ (-1000000000000 ≤ a ∧ a ≤ 1000000000000) ∧ (-1000000000000 ≤ b ∧ b ≤ 1000000000000) := by
  unfold codeI
  by_cases ha : allIn (-1000000000000) 1000000000000 [a, b] = true
  · rw [if_pos ha]; simp [allIn, inB] at ha; simp; omega
  · rw [if_neg ha]; simp [allIn, inB] at ha; simp; omega
theorem RI_two' (w : World) (a b : Int) (t : TypeId) : RI (w.alloc (.cells #[.int .i64 a, .int .i64 b] t)) (some ⟨w.heap.size, 0, none⟩) [a, b] := by
  refine fun _ => ⟨w.heap.size, 0, rfl, by simp, fun k hk => ?_⟩
  rcases (show k = 0 ∨ k = 1 by simp at hk; omega) with rfl | rfl <;> simp
theorem CommonDivisor_any (a b : Int) (w : World) :
    Calls Try.prog 31 #[.int .i64 a, .int .i64 b] w fun e w' => e = .returned (.tuple #[.int .i64 (comM a b).1, .int .i64 (comM a b).2]) ∧ Below w.heap.size w w' := by
  by_cases h0 : codeI [a, b] = 0
  · obtain ⟨⟨h1, h2⟩, h3, h4⟩ := (codeI_two a b).1 h0
    have HF := Lib.hid (show comM a b = (gcdI a b, 0) by rw [comM, if_pos h0])
    go_enter Try.func31, Try.ntmps31
    go_wp2_with (first | (go_at_call 70; refine (codeOfIntegers_any _ _ [a, b] _ (by simp) (RI_two' _ _ _ _)).mono ?_; rintro e w' ⟨rfl, rfl⟩) | (go_at_call 71; refine (greatestDivisor_any _ _ _ (by omega) (by omega) (by omega) (by omega)).mono ?_; rintro e w1 ⟨rfl, hb1⟩))
    go_ret2
    exact ⟨ret_ii (by rw [HF.out]) (by rw [HF.out]), ((Below.refl _ _).alloc (Nat.le_refl _) _).trans (hb1.mono (by simp))⟩
  · have HF := Lib.hid (show comM a b = (0, codeI [a, b]) by rw [comM, if_neg h0])
    obtain ⟨n1, n2⟩ := ne_facts h0
    clear h0
    go_enter Try.func31, Try.ntmps31
    go_wp2_with (go_at_call 70; refine (codeOfIntegers_any _ _ [a, b] _ (by simp) (RI_two' _ _ _ _)).mono ?_; rintro e w' ⟨rfl, rfl⟩)
    go_ret2
    exact ⟨ret_ii (by rw [HF.out]) (by rw [HF.out]), (Below.refl _ _).alloc (Nat.le_refl _) _⟩

end Go.Proofs.Ytkhdbphdeabgnaa
