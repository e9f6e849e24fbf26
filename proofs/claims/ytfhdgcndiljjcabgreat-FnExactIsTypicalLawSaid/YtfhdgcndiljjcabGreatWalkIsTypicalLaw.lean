/- IsTypicalLaw answers as its model at all arguments, leaves them alone, and owns its answer. No conditions. The frame follows the one that the kit prints for a law. -/
import Derived.Test.YtfhdgcndiljjcabGreatRows
import Derived.Test.YtfhdgcndiljjcabGreatMgaw
import Derived.Test.YtfhdgcndiljjcabGreatMgaa
import Derived.WalkKit
import Derived.ProofKit
import Derived.OpenShut
import Derived.ShutString
import Derived.ChangeOld
import Derived.Below
namespace Go.Proofs.YtfhdgcndiljjcabGreat.fnExactIsTypicalLaw
open Go.ChangeShapes Go.WideShapes Go.ChangeAt Go.RowKit
set_option linter.unusedVariables false

set_option maxHeartbeats 4000000 in
set_option maxRecDepth 100000 in
theorem walk (k0 : Int) (m1 : Int) (A1 : Option Addr) (c1 : Nat) (t1 : List (List Int)) (w : World) (hm1 : t1.length ≤ 9223372036854775807 ∧ ∀ k, (Pl.rw' t1 k).length ≤ 9223372036854775807) (ra1 : RQ w A1 t1) :
    Calls Tryz.prog 4 #[.int .i64 k0, .agg #[.int .i64 m1, .slice A1 t1.length c1]] w fun e w' => e = .returned (.bool true) ∧ Below w.heap.size w w' := by
  by_cases h1 : ((szT t1 : Nat) : Int) ≤ 1048576
  · have u1 : szT t1 ≤ 1048576 := by omega
    have v1 : tot t1 ≤ 1048576 := by unfold szT at u1; omega
    obtain ⟨b, C, hb⟩ : ∃ b C, itlM k0 m1 t1 = (b, C) := ⟨_, _, rfl⟩
    have HS : Hid (∀ (A1 : Option Addr) (c1 : Nat) (W : World), RP W A1 t1 → Calls Tryz.prog 16 #[.int .i64 k0, .agg #[.int .i64 m1, .slice A1 t1.length c1]] W fun e w' => e = .returned (.tuple #[.bool b, .int .i64 C]) ∧ Below W.heap.size W w') :=
      Lib.hid (fun A1 c1 W r1 => by have := sIsTypicalLaw_any k0 m1 A1 c1 t1 W (by omega) r1; rw [hb] at this; exact this)
    have HI : Hid (∀ (A1 : Option Addr) (c1 : Nat) (W : World), RP W A1 t1 → Calls Tryz.prog 17 #[.int .i64 k0, .agg #[.int .i64 m1, .slice A1 t1.length c1]] W fun e w' => e = .returned (.tuple #[.bool b, .int .i64 C]) ∧ Below W.heap.size W w') :=
      Lib.hid (fun A1 c1 W r1 => by have := IsTypicalLaw_any k0 m1 A1 c1 t1 W (by omega) r1; rw [hb] at this; exact this)
    obtain ⟨W, hW, x1, hwb⟩ := start1 24 w m1 A1 t1.length c1
    have X1 := Lib.hid x1
    have HW := Lib.hid hW
    have HB := Lib.hid hwb
    have HRA1 := Lib.hid (RQ.below ra1 hwb)
    have B0 := Lib.hid (Below.refl W.heap.size W)
    clear hW hwb x1 ra1
    clear hb
    go_enter Tryz.func4, Tryz.ntmps4
    go_wp2_with fail
    rw [HW.out]
    refine (szPlane_ok _ _ _ _ _ _ (by omega) (by omega) (HRA1.out.below B0.out)).mono ?_
    rintro e w1 ⟨rfl, hb⟩
    have B1 := Lib.hid (below_step B0.out hb)
    have Z1 := Lib.hid (Below.size hb)
    clear hb
    obtain ⟨zp1, zq1⟩ := box_in X1.out B1.out
    go_wp2_with fail
    clear zp1 zq1
    refine (toPlane_any _ _ _ t1 _ u1 (HRA1.out.below B1.out)).mono ?_
    rintro e w2 ⟨sa1, rfl, ho, hb⟩
    obtain ⟨Aa1, ca1, rfl, _⟩ := ho.len
    have B2 := Lib.hid (below_step B1.out hb)
    have Z2 := Lib.hid (Below.size hb)
    have a1_2 := Lib.hid ho
    clear ho hb
    go_wp2_with fail
    refine (HS.out _ _ _ a1_2.out.rp).mono ?_
    rintro e w3 ⟨rfl, hb⟩
    have B3 := Lib.hid (below_step B2.out hb)
    have Z3 := Lib.hid (Below.size hb)
    have a1_3 := Lib.hid (a1_2.out.keep (Below.mono hb (Nat.le_refl _)))
    clear hb
    obtain ⟨zp1, zq1⟩ := box_in X1.out B3.out
    go_wp2_with fail
    clear zp1 zq1
    refine (toPlane_any _ _ _ t1 _ u1 (HRA1.out.below B3.out)).mono ?_
    rintro e w4 ⟨sx1, rfl, ho, hb⟩
    obtain ⟨Ax1, cx1, rfl, _⟩ := ho.len
    have B4 := Lib.hid (below_step B3.out hb)
    have Z4 := Lib.hid (Below.size hb)
    have x1_4 := Lib.hid ho
    clear ho hb
    obtain ⟨w5, hV, hx, hb⟩ := start1 29 w4 m1 Ax1 t1.length cx1
    have B5 := Lib.hid (below_step B4.out hb)
    have Z5 := Lib.hid (Below.size hb)
    have x1_5 := Lib.hid (x1_4.out.keep (Below.mono hb (Nat.le_refl _)))
    have x1b_5 := Lib.hid hx
    have HV := Lib.hid hV
    clear hV hx hb
    go_wp2_with fail
    rw [HV.out]
    clear HV
    refine (HI.out _ _ _ x1_5.out.rp).mono ?_
    rintro e w6 ⟨rfl, hb⟩
    have B6 := Lib.hid (below_step B5.out hb)
    have Z6 := Lib.hid (Below.size hb)
    have x1_6 := Lib.hid (x1_5.out.keep (Below.mono hb Z5.out))
    have x1b_6 := Lib.hid (x1b_5.out.keep hb)
    clear hb
    go_wp2
    go_region_held3 (fun w' => (w'.cell? ⟨w4.heap.size, 0, none⟩ = some (.int .i64 m1) ∧ w'.cell? ⟨w4.heap.size, 1, none⟩ = some (.slice Ax1 t1.length cx1) ∧ w4.heap.size < w'.heap.size) ∧ (w'.cell? ⟨w.heap.size, 0, none⟩ = some (.int .i64 m1) ∧ w'.cell? ⟨w.heap.size, 1, none⟩ = some (.slice A1 t1.length c1) ∧ w.heap.size < w'.heap.size)) (first | exact ⟨x1b_6.out.keep (below_drew0 _), (X1.out.keep B6.out).keep (below_drew0 _)⟩ | exact box22_call (by assumption) (by assumption)) (first
      | (go_at_call 9; refine (toPlane_any _ _ _ t1 _ u1 (HRA1.out.below (below_step B6.out (below_drew0 _)))).mono ?_; rintro e wq ⟨sy, rfl, ho, hb⟩; obtain ⟨Ay, cy, rfl, _⟩ := ho.len)
      | (go_at_call 12; refine (eqPlane_any _ _ _ _ _ _ _ t1 _ (by omega) (x1_6.out.keep (Below.mono (below_step (below_drew0 _) hb) (Nat.le_trans Z5.out Z6.out))) ho (Nat.le_trans (Nat.le_trans Z5.out Z6.out) (below_step (below_drew0 _) hb).size) (Nat.le_refl _)).mono ?_; rintro e w7 ⟨rfl, hb2⟩))
    have hb3 := below_step (below_step (below_drew0 w6) hb) hb2
    have B7 := Lib.hid (below_step B6.out hb3)
    have Z7 := Lib.hid (Below.size hb3)
    have x1_7 := Lib.hid (x1_6.out.keep (Below.mono hb3 (Nat.le_trans Z5.out Z6.out)))
    have x1b_7 := Lib.hid (x1b_6.out.keep hb3)
    clear ho hb hb2 hb3
    go_wp2
    go_ret
    exact ⟨rfl, below_step HB.out B7.out⟩
  · skip
    obtain ⟨W, hW, x1, hwb⟩ := start1 24 w m1 A1 t1.length c1
    have X1 := Lib.hid x1
    have HW := Lib.hid hW
    have HB := Lib.hid hwb
    have HRA1 := Lib.hid (RQ.below ra1 hwb)
    have B0 := Lib.hid (Below.refl W.heap.size W)
    clear hW hwb x1 ra1
    go_enter Tryz.func4, Tryz.ntmps4
    go_wp2_with fail
    rw [HW.out]
    refine (szPlane_no _ _ _ _ _ _ (by omega) (by omega) (by omega) (HRA1.out.below B0.out) hm1.1 hm1.2).mono ?_
    rintro e w1 ⟨rfl, hb⟩
    have B1 := Lib.hid (below_step B0.out hb)
    have Z1 := Lib.hid (Below.size hb)
    clear hb
    go_wp2
    go_ret
    exact ⟨rfl, below_step HB.out B1.out⟩
end Go.Proofs.YtfhdgcndiljjcabGreat.fnExactIsTypicalLaw
