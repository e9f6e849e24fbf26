/- TypicalFactor answers as its model at all arguments, leaves them alone, and owns its answer. No conditions. The frame follows the one that the kit prints for a law. -/
import Derived.Test.YtakdmnecllcmnaaRows
import Derived.Test.YtakdmnecllcmnaaMgai
import Derived.Test.YtakdmnecllcmnaaMgas
import Derived.Test.YtakdmnecllcmnaaMgaa
import Derived.Test.YtakdmnecllcmnaaMgac
import Derived.WalkKit
import Derived.ProofKit
import Derived.OpenShut
import Derived.ShutString
import Derived.ChangeOld
import Derived.Below
namespace Go.Proofs.Ytakdmnecllcmnaa.fnExactTypicalFactor
open Go.ChangeShapes Go.WideShapes Go.ChangeAt Go.RowKit
set_option linter.unusedVariables false

set_option maxHeartbeats 4000000 in
set_option maxRecDepth 100000 in
theorem walk (k0 : Int) (k1 : Int) (A2 : Option Addr) (c2 : Nat) (l2 : List Int) (k3 : Int) (k4 : Int) (w : World) (hm2 : l2.length ≤ maxLen) (ra2 : RA w A2 l2) :
    Calls Try.prog 6 #[.int .i64 k0, .int .i64 k1, .slice A2 l2.length c2, .int .i64 k3, .int .i64 k4] w fun e w' => e = .returned (.bool true) ∧ Below w.heap.size w w' := by
  unfold maxLen at hm2
  by_cases h2 : (l2.length : Int) ≤ 1048576
  · have u2 : l2.length ≤ 1048576 := by omega
    obtain ⟨X, C, hXC⟩ : ∃ X C, tfcM k0 k1 l2 k3 k4 = (X, C) := ⟨_, _, rfl⟩
    have HS : Hid (∀ (A2 : Option Addr) (c2 : Nat) (W : World), RI W A2 l2 → Calls Try.prog 23 #[.int .i64 k0, .int .i64 k1, .slice A2 l2.length c2, .int .i64 k3, .int .i64 k4] W fun e w' => e = .returned (.tuple #[.int .i64 X, .int .i64 C]) ∧ Below W.heap.size W w') :=
      Lib.hid (fun A2 c2 W r2 => by have := sTypicalFactor_any k0 k1 A2 c2 l2 k3 k4 W (by omega) r2; rw [hXC] at this; exact this)
    have HI : Hid (∀ (A2 : Option Addr) (c2 : Nat) (W : World), RI W A2 l2 → Calls Try.prog 24 #[.int .i64 k0, .int .i64 k1, .slice A2 l2.length c2, .int .i64 k3, .int .i64 k4] W fun e w' => e = .returned (.tuple #[.int .i64 X, .int .i64 C]) ∧ Below W.heap.size W w') :=
      Lib.hid (fun A2 c2 W r2 => by have := TypicalFactor_any k0 k1 A2 c2 l2 k3 k4 W (by omega) r2; rw [hXC] at this; exact this)
    have HB : Hid (Below w.heap.size w w) := Lib.hid (Below.refl _ _)
    have B0 := Lib.hid (Below.refl w.heap.size w)
    have HRA2 := Lib.hid ra2
    clear ra2
    clear hXC
    go_enter Try.func6, Try.ntmps6
    go_wp2_with fail
    refine (toInt64S_any _ _ l2 _ u2 (HRA2.out.below B0.out)).mono ?_
    rintro e w1 ⟨sa2, rfl, ho, hb⟩
    obtain ⟨Aa2, ca2, rfl, _⟩ := ho.form
    have B1 := Lib.hid (below_step B0.out hb)
    have Z1 := Lib.hid (Below.size hb)
    have a2_1 := Lib.hid ho
    clear ho hb
    go_wp2_with fail
    refine (HS.out _ _ _ a2_1.out.ri).mono ?_
    rintro e w2 ⟨rfl, hb⟩
    have B2 := Lib.hid (below_step B1.out hb)
    have Z2 := Lib.hid (Below.size hb)
    have a2_2 := Lib.hid (a2_1.out.keep hb)
    clear hb
    go_wp2_with fail
    refine (toInt64S_any _ _ l2 _ u2 (HRA2.out.below B2.out)).mono ?_
    rintro e w3 ⟨sx2, rfl, ho, hb⟩
    obtain ⟨Ax2, cx2, rfl, _⟩ := ho.form
    have B3 := Lib.hid (below_step B2.out hb)
    have Z3 := Lib.hid (Below.size hb)
    have x2_3 := Lib.hid ho
    clear ho hb
    go_wp2_with fail
    refine (HI.out _ _ _ x2_3.out.ri).mono ?_
    rintro e w4 ⟨rfl, hb⟩
    have B4 := Lib.hid (below_step B3.out hb)
    have Z4 := Lib.hid (Below.size hb)
    have x2_4 := Lib.hid (x2_3.out.keep hb)
    clear hb
    go_wp2_with fail
    refine (toInt64S_any _ _ l2 _ u2 (HRA2.out.below B4.out)).mono ?_
    rintro e w5 ⟨sq2, rfl, ho, hb⟩
    obtain ⟨Aq2, cq2, rfl, _⟩ := ho.form
    have B5 := Lib.hid (below_step B4.out hb)
    have Z5 := Lib.hid (Below.size hb)
    have x2_5 := Lib.hid (x2_4.out.keep hb)
    have q2_5 := Lib.hid ho
    clear ho hb
    go_wp2_with fail
    refine (eqInt64S_any _ _ _ _ l2 _ (by omega) x2_5.out.ri q2_5.out.ri).mono ?_
    rintro e w6 ⟨rfl, hb⟩
    have B6 := Lib.hid (below_step B5.out hb)
    have Z6 := Lib.hid (Below.size hb)
    have x2_6 := Lib.hid (x2_5.out.keep hb)
    have q2_6 := Lib.hid (q2_5.out.keep hb)
    clear hb
    go_wp2
    go_ret
    exact ⟨rfl, below_step HB.out B6.out⟩
  · skip
    have HB : Hid (Below w.heap.size w w) := Lib.hid (Below.refl _ _)
    have B0 := Lib.hid (Below.refl w.heap.size w)
    have HRA2 := Lib.hid ra2
    clear ra2
    go_enter Try.func6, Try.ntmps6
    have h2' : (1048576 : Int) < (l2.length : Int) := by omega
    go_wp2
    go_ret
    exact ⟨rfl, below_step HB.out B0.out⟩
end Go.Proofs.Ytakdmnecllcmnaa.fnExactTypicalFactor
