/- CountLaws answers as its model at all arguments, leaves them alone, and owns its answer. No conditions. The frame follows the one that the kit prints for a law. -/
import Derived.Test.YtlpfifdocgljnaaRows
import Derived.Test.YtlpfifdocgljnaaMgaa
import Derived.Test.YtlpfifdocgljnaaMgab
import Derived.WalkKit
import Derived.ProofKit
import Derived.OpenShut
import Derived.ShutString
import Derived.ChangeOld
import Derived.Below
namespace Go.Proofs.Ytlpfifdocgljnaa.fnExactCountLaws
open Go.ChangeShapes Go.WideShapes Go.ChangeAt Go.RowKit
set_option linter.unusedVariables false

set_option maxHeartbeats 4000000 in
set_option maxRecDepth 100000 in
theorem walk (k0 : Int) (k1 : Int) (w : World)  :
    Calls Try.prog 5 #[.int .i64 k0, .int .i64 k1] w fun e w' => e = .returned (.bool true) ∧ Below w.heap.size w w' := by
  obtain ⟨X, C, hXC⟩ : ∃ X C, cntM k0 k1 = (X, C) := ⟨_, _, rfl⟩
  have HS : Hid (∀  (W : World), Calls Try.prog 20 #[.int .i64 k0, .int .i64 k1] W fun e w' => e = .returned (.tuple #[.int .i64 X, .int .i64 C]) ∧ Below W.heap.size W w') :=
    Lib.hid (fun  W  => by have := sCountLaws_any k0 k1 W  ; rw [hXC] at this; exact this)
  have HI : Hid (∀  (W : World), Calls Try.prog 21 #[.int .i64 k0, .int .i64 k1] W fun e w' => e = .returned (.tuple #[.int .i64 X, .int .i64 C]) ∧ Below W.heap.size W w') :=
    Lib.hid (fun  W  => by have := CountLaws_any k0 k1 W  ; rw [hXC] at this; exact this)
  have HB : Hid (Below w.heap.size w w) := Lib.hid (Below.refl _ _)
  have B0 := Lib.hid (Below.refl w.heap.size w)
  clear hXC
  go_enter Try.func5, Try.ntmps5
  go_wp2_with fail
  refine (HS.out  _ ).mono ?_
  rintro e w1 ⟨rfl, hb⟩
  have B1 := Lib.hid (below_step B0.out hb)
  have Z1 := Lib.hid (Below.size hb)
  clear hb
  go_wp2_with fail
  refine (HI.out  _ ).mono ?_
  rintro e w2 ⟨rfl, hb⟩
  have B2 := Lib.hid (below_step B1.out hb)
  have Z2 := Lib.hid (Below.size hb)
  clear hb
  go_wp2
  go_ret
  exact ⟨rfl, below_step HB.out B2.out⟩
end Go.Proofs.Ytlpfifdocgljnaa.fnExactCountLaws
