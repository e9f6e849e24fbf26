/- HeightOf answers as its model at all arguments, leaves them alone, and owns its answer. The frame follows the one that the kit prints for a law. -/
import Derived.Test.YtfhdgcndiljjcaaGreatDoorRows
import Derived.Test.YtfhdgcndiljjcaaGreatDoorMgam
import Derived.Test.YtfhdgcndiljjcaaGreatDoorMgaa
import Derived.Test.YtfhdgcndiljjcaaGreatDoorMgaj
import Derived.WalkKit
import Derived.ProofKit
import Derived.OpenShut
import Derived.ShutString
import Derived.ChangeOld
import Derived.Below
namespace Go.Proofs.YtfhdgcndiljjcaaGreatDoor.fnExactHeightOf
open Go.ChangeShapes Go.WideShapes Go.ChangeAt Go.RowKit
set_option linter.unusedVariables false

set_option maxHeartbeats 4000000 in
set_option maxRecDepth 100000 in
theorem walk (m0 : Int) (A0 : Option Addr) (c0 : Nat) (t0 : List (List Int)) (w : World) (hm0 : t0.length ≤ 9223372036854775807 ∧ ∀ k, (Pl.rw' t0 k).length ≤ 9223372036854775807) (ra0 : RQ w A0 t0) (z : Value) (hE : ErrT w) (hZ : ErrZ w z) :
    Calls Tryz.prog 3 #[.agg #[.int .i64 m0, .slice A0 t0.length c0]] w fun e w' => e = .returned (.bool true) ∧ Below w.heap.size w w' := by
  by_cases h0 : ((szT t0 : Nat) : Int) ≤ 1048576
  · have u0 : szT t0 ≤ 1048576 := by omega
    have v0 : tot t0 ≤ 1048576 := by unfold szT at u0; omega
    obtain ⟨X, C, hXC⟩ : ∃ X C, hgtM m0 t0 = (X, C) := ⟨_, _, rfl⟩
    have HS : Hid (∀ (A0 : Option Addr) (c0 : Nat) (W : World), RP W A0 t0 → Calls Tryz.prog 10 #[.agg #[.int .i64 m0, .slice A0 t0.length c0]] W fun e w' => e = .returned (.tuple #[.int .i64 X, .int .i64 C]) ∧ Below W.heap.size W w') :=
      Lib.hid (fun A0 c0 W r0 => by have := sHeightOf_any m0 A0 c0 t0 W (by omega) r0; rw [hXC] at this; exact this)
    have HI : Hid (∀ (A0 : Option Addr) (c0 : Nat) (W : World), ErrT W → ErrZ W z → RP W A0 t0 → Calls Tryz.prog 12 #[.agg #[.int .i64 m0, .slice A0 t0.length c0]] W fun e w' => e = .returned (.tuple #[.int .i64 X, .int .i64 C]) ∧ Below W.heap.size W w') :=
      Lib.hid (fun A0 c0 W hE9 hZ9 r0 => by have := HeightOf_any m0 A0 c0 t0 W (by omega) r0 hE9 z hZ9; rw [hXC] at this; exact this)
    obtain ⟨W, hW, x0, hwb⟩ := start1 24 w m0 A0 t0.length c0
    have X0 := Lib.hid x0
    have HW := Lib.hid hW
    have HB := Lib.hid hwb
    have HE := Lib.hid (hE.keep hwb hE.lt)
    have HEl := Lib.hid HE.out.lt
    have HZ := Lib.hid (hZ.keep hwb (Nat.lt_trans Nat.zero_lt_one hE.lt))
    have HRA0 := Lib.hid (RQ.below ra0 hwb)
    have B0 := Lib.hid (Below.refl W.heap.size W)
    clear hW hwb x0 ra0
    clear hXC
    go_enter Tryz.func3, Tryz.ntmps3
    go_wp2_with fail
    rw [HW.out]
    refine (szPlane_ok _ _ _ _ _ _ (by omega) (by omega) (HRA0.out.below B0.out)).mono ?_
    rintro e w1 ⟨rfl, hb⟩
    have B1 := Lib.hid (below_step B0.out hb)
    have Z1 := Lib.hid (Below.size hb)
    clear hb
    obtain ⟨zp0, zq0⟩ := box_in X0.out B1.out
    go_wp2_with fail
    clear zp0 zq0
    refine (toPlane_any _ _ _ t0 _ u0 (HRA0.out.below B1.out)).mono ?_
    rintro e w2 ⟨sa0, rfl, ho, hb⟩
    obtain ⟨Aa0, ca0, rfl, _⟩ := ho.len
    have B2 := Lib.hid (below_step B1.out hb)
    have Z2 := Lib.hid (Below.size hb)
    have a0_2 := Lib.hid ho
    clear ho hb
    go_wp2_with fail
    refine (HS.out _ _ _ a0_2.out.rp).mono ?_
    rintro e w3 ⟨rfl, hb⟩
    have B3 := Lib.hid (below_step B2.out hb)
    have Z3 := Lib.hid (Below.size hb)
    have a0_3 := Lib.hid (a0_2.out.keep (Below.mono hb (Nat.le_refl _)))
    clear hb
    obtain ⟨zp0, zq0⟩ := box_in X0.out B3.out
    go_wp2_with fail
    clear zp0 zq0
    refine (toPlane_any _ _ _ t0 _ u0 (HRA0.out.below B3.out)).mono ?_
    rintro e w4 ⟨sx0, rfl, ho, hb⟩
    obtain ⟨Ax0, cx0, rfl, _⟩ := ho.len
    have B4 := Lib.hid (below_step B3.out hb)
    have Z4 := Lib.hid (Below.size hb)
    have x0_4 := Lib.hid ho
    clear ho hb
    obtain ⟨w5, hV, hx, hb⟩ := start1 28 w4 m0 Ax0 t0.length cx0
    have B5 := Lib.hid (below_step B4.out hb)
    have Z5 := Lib.hid (Below.size hb)
    have x0_5 := Lib.hid (x0_4.out.keep (Below.mono hb (Nat.le_refl _)))
    have x0b_5 := Lib.hid hx
    have HV := Lib.hid hV
    clear hV hx hb
    go_wp2_with fail
    rw [HV.out]
    clear HV
    refine (HI.out _ _ _ (HE.out.keep B5.out HEl.out) (HZ.out.keep B5.out (Nat.lt_trans Nat.zero_lt_one HEl.out)) x0_5.out.rp).mono ?_
    rintro e w6 ⟨rfl, hb⟩
    have B6 := Lib.hid (below_step B5.out hb)
    have Z6 := Lib.hid (Below.size hb)
    have x0_6 := Lib.hid (x0_5.out.keep (Below.mono hb Z5.out))
    have x0b_6 := Lib.hid (x0b_5.out.keep hb)
    clear hb
    go_wp2
    go_region_held3 (fun w' => (w'.cell? ⟨w4.heap.size, 0, none⟩ = some (.int .i64 m0) ∧ w'.cell? ⟨w4.heap.size, 1, none⟩ = some (.slice Ax0 t0.length cx0) ∧ w4.heap.size < w'.heap.size) ∧ (w'.cell? ⟨w.heap.size, 0, none⟩ = some (.int .i64 m0) ∧ w'.cell? ⟨w.heap.size, 1, none⟩ = some (.slice A0 t0.length c0) ∧ w.heap.size < w'.heap.size)) (first | exact ⟨x0b_6.out.keep (below_drew0 _), (X0.out.keep B6.out).keep (below_drew0 _)⟩ | exact box22_call (by assumption) (by assumption)) (first
      | (go_at_call 11; refine (toPlane_any _ _ _ t0 _ u0 (HRA0.out.below (below_step B6.out (below_drew0 _)))).mono ?_; rintro e wq ⟨sy, rfl, ho, hb⟩; obtain ⟨Ay, cy, rfl, _⟩ := ho.len)
      | (go_at_call 13; refine (eqPlane_any _ _ _ _ _ _ _ t0 _ (by omega) (x0_6.out.keep (Below.mono (below_step (below_drew0 _) hb) (Nat.le_trans Z5.out Z6.out))) ho (Nat.le_trans (Nat.le_trans Z5.out Z6.out) (below_step (below_drew0 _) hb).size) (Nat.le_refl _)).mono ?_; rintro e w7 ⟨rfl, hb2⟩))
    have hb3 := below_step (below_step (below_drew0 w6) hb) hb2
    have B7 := Lib.hid (below_step B6.out hb3)
    have Z7 := Lib.hid (Below.size hb3)
    have x0_7 := Lib.hid (x0_6.out.keep (Below.mono hb3 (Nat.le_trans Z5.out Z6.out)))
    have x0b_7 := Lib.hid (x0b_6.out.keep hb3)
    clear ho hb hb2 hb3
    go_wp2
    go_ret
    exact ⟨rfl, below_step HB.out B7.out⟩
  · skip
    obtain ⟨W, hW, x0, hwb⟩ := start1 24 w m0 A0 t0.length c0
    have X0 := Lib.hid x0
    have HW := Lib.hid hW
    have HB := Lib.hid hwb
    have HE := Lib.hid (hE.keep hwb hE.lt)
    have HEl := Lib.hid HE.out.lt
    have HZ := Lib.hid (hZ.keep hwb (Nat.lt_trans Nat.zero_lt_one hE.lt))
    have HRA0 := Lib.hid (RQ.below ra0 hwb)
    have B0 := Lib.hid (Below.refl W.heap.size W)
    clear hW hwb x0 ra0
    go_enter Tryz.func3, Tryz.ntmps3
    go_wp2_with fail
    rw [HW.out]
    refine (szPlane_no _ _ _ _ _ _ (by omega) (by omega) (by omega) (HRA0.out.below B0.out) hm0.1 hm0.2).mono ?_
    rintro e w1 ⟨rfl, hb⟩
    have B1 := Lib.hid (below_step B0.out hb)
    have Z1 := Lib.hid (Below.size hb)
    clear hb
    go_wp2
    go_ret
    exact ⟨rfl, below_step HB.out B1.out⟩
end Go.Proofs.YtfhdgcndiljjcaaGreatDoor.fnExactHeightOf
