/- AreSameHeight answers as its model at all arguments, leaves them alone, and owns its answer. The frame follows the one that the kit prints for a law. -/
import Derived.Test.YtfhdgcndiljjcaaGreatDoorRows
import Derived.Test.YtfhdgcndiljjcaaGreatDoorMgan
import Derived.Test.YtfhdgcndiljjcaaGreatDoorMgaa
import Derived.Test.YtfhdgcndiljjcaaGreatDoorMgaj
import Derived.WalkKit
import Derived.ProofKit
import Derived.OpenShut
import Derived.ShutString
import Derived.ChangeOld
import Derived.Below
import Derived.Deep.DeepCutAuto
namespace Go.Proofs.YtfhdgcndiljjcaaGreatDoor.fnExactAreSameHeight
open Go.ChangeShapes Go.WideShapes Go.ChangeAt Go.RowKit
set_option linter.unusedVariables false

set_option maxHeartbeats 32000000 in
set_option maxRecDepth 100000 in
theorem walk (m0 : Int) (A0 : Option Addr) (c0 : Nat) (t0 : List (List Int)) (m1 : Int) (A1 : Option Addr) (c1 : Nat) (t1 : List (List Int)) (w : World) (hm0 : t0.length ≤ 9223372036854775807 ∧ ∀ k, (Pl.rw' t0 k).length ≤ 9223372036854775807) (ra0 : RQ w A0 t0) (hm1 : t1.length ≤ 9223372036854775807 ∧ ∀ k, (Pl.rw' t1 k).length ≤ 9223372036854775807) (ra1 : RQ w A1 t1) (z : Value) (hE : ErrT w) (hZ : ErrZ w z) :
    Calls Tryz.prog 6 #[.agg #[.int .i64 m0, .slice A0 t0.length c0], .agg #[.int .i64 m1, .slice A1 t1.length c1]] w fun e w' => e = .returned (.bool true) ∧ Below w.heap.size w w' := by
  by_cases h0 : ((szT t0 : Nat) : Int) ≤ 1048576
  · have u0 : szT t0 ≤ 1048576 := by omega
    have v0 : tot t0 ≤ 1048576 := by unfold szT at u0; omega
    by_cases h1 : ((szT t1 : Nat) : Int) ≤ 1048576 - ((szT t0 : Nat) : Int)
    · have u1 : szT t1 ≤ 1048576 := by omega
      have v1 : tot t1 ≤ 1048576 := by unfold szT at u1; omega
      obtain ⟨b, C, hb⟩ : ∃ b C, sahM m0 t0 m1 t1 = (b, C) := ⟨_, _, rfl⟩
      have HS : Hid (∀ (A0 : Option Addr) (c0 : Nat) (A1 : Option Addr) (c1 : Nat) (W : World), RP W A0 t0 → RP W A1 t1 → Calls Tryz.prog 22 #[.agg #[.int .i64 m0, .slice A0 t0.length c0], .agg #[.int .i64 m1, .slice A1 t1.length c1]] W fun e w' => e = .returned (.tuple #[.bool b, .int .i64 C]) ∧ Below W.heap.size W w') :=
        Lib.hid (fun A0 c0 A1 c1 W r0 r1 => by have := sAreSameHeight_any m0 A0 c0 t0 m1 A1 c1 t1 W (by omega) (by omega) r0 r1; rw [hb] at this; exact this)
      have HI : Hid (∀ (A0 : Option Addr) (c0 : Nat) (A1 : Option Addr) (c1 : Nat) (W : World), ErrT W → ErrZ W z → RP W A0 t0 → RP W A1 t1 → Calls Tryz.prog 23 #[.agg #[.int .i64 m0, .slice A0 t0.length c0], .agg #[.int .i64 m1, .slice A1 t1.length c1]] W fun e w' => e = .returned (.tuple #[.bool b, .int .i64 C]) ∧ Below W.heap.size W w') :=
        Lib.hid (fun A0 c0 A1 c1 W hE9 hZ9 r0 r1 => by have := AreSameHeight_any m0 A0 c0 t0 m1 A1 c1 t1 W (by omega) (by omega) r0 r1 hE9 z hZ9; rw [hb] at this; exact this)
      obtain ⟨W, hW, x0, x1, hwb⟩ := startB2 24 24 w m0 A0 t0.length c0 m1 A1 t1.length c1
      have X0 := Lib.hid x0
      have X1 := Lib.hid x1
      have HW := Lib.hid hW
      have HB := Lib.hid hwb
      have HE := Lib.hid (hE.keep hwb hE.lt)
      have HEl := Lib.hid HE.out.lt
      have HZ := Lib.hid (hZ.keep hwb (Nat.lt_trans Nat.zero_lt_one hE.lt))
      have HRA0 := Lib.hid (RQ.below ra0 hwb)
      have HRA1 := Lib.hid (RQ.below ra1 hwb)
      have B0 := Lib.hid (Below.refl W.heap.size W)
      clear hW hwb x0 ra0 x1 ra1
      clear hb
      go_enter Tryz.func6, Tryz.ntmps6
      go_wp2_with fail
      rw [HW.out]
      refine (szPlane_ok _ _ _ _ _ _ (by omega) (by omega) (HRA0.out.below B0.out)).mono ?_
      rintro e w1 ⟨rfl, hb⟩
      have B1 := Lib.hid (below_step B0.out hb)
      have Z1 := Lib.hid (Below.size hb)
      clear hb
      obtain ⟨zp1, zq1⟩ := box_in X1.out B1.out
      go_wp2_with fail
      clear zp1 zq1
      refine (szPlane_ok _ _ _ _ _ _ (by omega) (by omega) (HRA1.out.below B1.out)).mono ?_
      rintro e w2 ⟨rfl, hb⟩
      have B2 := Lib.hid (below_step B1.out hb)
      have Z2 := Lib.hid (Below.size hb)
      clear hb
      have Y0 := Lib.hid (X0.out.keep B2.out)
      have Y1 := Lib.hid (X1.out.keep B2.out)
      go_upto_region 8 with fail
      go_cut [6, 7] (fun s6 s7 wx => s6 = .bool b ∧ s7 = .int .i64 C ∧ Below w2.heap.size w2 wx)
      case first =>
        go_region_held3 (fun w' => (w'.cell? ⟨w.heap.size, 0, none⟩ = some (.int .i64 m0) ∧ w'.cell? ⟨w.heap.size, 1, none⟩ = some (.slice A0 t0.length c0)) ∧ (w'.cell? ⟨w.heap.size + 1, 0, none⟩ = some (.int .i64 m1) ∧ w'.cell? ⟨w.heap.size + 1, 1, none⟩ = some (.slice A1 t1.length c1)) ∧ Below w2.heap.size w2 w') (first | exact box2_in Y0.out Y1.out (below_drew0 _) | exact box2_in Y0.out Y1.out hka | exact box2_in Y0.out Y1.out hkb | exact box2_in Y0.out Y1.out hbel | exact box2_alloc Y0.out Y1.out (by assumption)) (first
          | (go_at_call 11; with_reducible refine Calls.mono (toPlane_any m0 A0 c0 t0 _ u0 (HRA0.out.below (below_step B2.out (trd (by assumption))))) ?_; rintro e wa ⟨sa, rfl, hoa, hba⟩; obtain ⟨Aa, ca, rfl, _⟩ := hoa.len; obtain ⟨hka, _⟩ := reg_end2 (by assumption) hba)
          | (go_at_call 11; with_reducible refine Calls.mono (toPlane_any m1 A1 c1 t1 _ u1 (HRA1.out.below (below_step B2.out (trd (by assumption))))) ?_; rintro e wb ⟨sb, rfl, hob, hbb⟩; obtain ⟨Ab, cb, rfl, _⟩ := hob.len; obtain ⟨hkb, _⟩ := reg_end2 (by assumption) hbb)
          | (with_reducible refine Calls.mono (HS.out _ _ _ _ _ (by first | exact hoa.rp | exact (hoa.rp.below hbb)) (by first | exact hob.rp | exact (hob.rp.below hba))) ?_; rintro e wd ⟨rfl, hbd⟩; obtain ⟨hbel, hle⟩ := reg_end2 (by assumption) hbd))
        all_goals
          go_wp2_with fail
          go_meet
          case rel => exact ⟨rfl, rfl, hbel⟩
      case rest =>
        obtain ⟨w3, hwc⟩ : ∃ w9, w9 = wc := ⟨_, rfl⟩
        subst hwc
        obtain ⟨rfl, rfl, hb⟩ := hcut
        clear Y0 Y1
        have B3 := Lib.hid (below_step B2.out hb)
        have Z3 := Lib.hid (Below.size hb)
        clear hb
        obtain ⟨zp0, zq0⟩ := box_in X0.out B3.out
        go_wp2_with fail
        clear zp0 zq0
        refine (toPlane_any _ _ _ t0 _ u0 (HRA0.out.below B3.out)).mono ?_
        rintro e w4 ⟨sx0, rfl, ho, hb⟩
        obtain ⟨Ax0, cx0, rfl, _⟩ := ho.len
        have B4 := Lib.hid (below_step B3.out hb)
        have Z4 := Lib.hid (Below.size hb)
        have x0_4 := Lib.hid ho
        clear ho hb
        obtain ⟨w5, hV, hx, hb⟩ := start1 28 w4 m0 Ax0 t0.length cx0
        have B5 := Lib.hid (below_step B4.out hb)
        have Z5 := Lib.hid (Below.size hb)
        have x0_5 := Lib.hid (x0_4.out.keep (Below.mono hb (Nat.le_refl _)))
        have x0b_5 := Lib.hid hx
        have HV := Lib.hid hV
        clear hV hx hb
        obtain ⟨zp1, zq1⟩ := box_in X1.out B5.out
        rw [← HV.out] at zp1 zq1
        go_wp2_with fail
        rw [HV.out]
        clear HV
        clear zp1 zq1
        refine (toPlane_any _ _ _ t1 _ u1 (HRA1.out.below B5.out)).mono ?_
        rintro e w6 ⟨sx1, rfl, ho, hb⟩
        obtain ⟨Ax1, cx1, rfl, _⟩ := ho.len
        have B6 := Lib.hid (below_step B5.out hb)
        have Z6 := Lib.hid (Below.size hb)
        have x0_6 := Lib.hid (x0_5.out.keep (Below.mono hb Z5.out))
        have x0b_6 := Lib.hid (x0b_5.out.keep hb)
        have x1_6 := Lib.hid ho
        clear ho hb
        obtain ⟨w7, hV, hx, hb⟩ := start1 28 w6 m1 Ax1 t1.length cx1
        have B7 := Lib.hid (below_step B6.out hb)
        have Z7 := Lib.hid (Below.size hb)
        have x0_7 := Lib.hid (x0_6.out.keep (Below.mono hb (Nat.le_trans Z5.out Z6.out)))
        have x0b_7 := Lib.hid (x0b_6.out.keep hb)
        have x1_7 := Lib.hid (x1_6.out.keep (Below.mono hb (Nat.le_refl _)))
        have x1b_7 := Lib.hid hx
        have HV := Lib.hid hV
        clear hV hx hb
        obtain ⟨zx01, zx02, _⟩ := x0b_7.out
        rw [← HV.out] at zx01 zx02
        go_wp2_with fail
        rw [HV.out]
        clear HV
        clear zx01 zx02
        refine (HI.out _ _ _ _ _ (HE.out.keep B7.out HEl.out) (HZ.out.keep B7.out (Nat.lt_trans Nat.zero_lt_one HEl.out)) x0_7.out.rp x1_7.out.rp).mono ?_
        rintro e w8 ⟨rfl, hb⟩
        have B8 := Lib.hid (below_step B7.out hb)
        have Z8 := Lib.hid (Below.size hb)
        have x0_8 := Lib.hid (x0_7.out.keep (Below.mono hb (Nat.le_trans Z5.out (Nat.le_trans Z6.out Z7.out))))
        have x0b_8 := Lib.hid (x0b_7.out.keep hb)
        have x1_8 := Lib.hid (x1_7.out.keep (Below.mono hb Z7.out))
        have x1b_8 := Lib.hid (x1b_7.out.keep hb)
        clear hb
        go_wp2
        go_region_held3 (fun w' => (w'.cell? ⟨w4.heap.size, 0, none⟩ = some (.int .i64 m0) ∧ w'.cell? ⟨w4.heap.size, 1, none⟩ = some (.slice Ax0 t0.length cx0) ∧ w4.heap.size < w'.heap.size) ∧ (w'.cell? ⟨w.heap.size, 0, none⟩ = some (.int .i64 m0) ∧ w'.cell? ⟨w.heap.size, 1, none⟩ = some (.slice A0 t0.length c0) ∧ w.heap.size < w'.heap.size)) (first | exact ⟨x0b_8.out.keep (below_drew0 _), (X0.out.keep B8.out).keep (below_drew0 _)⟩ | exact box22_call (by assumption) (by assumption)) (first
          | (go_at_call 11; refine (toPlane_any _ _ _ t0 _ u0 (HRA0.out.below (below_step B8.out (below_drew0 _)))).mono ?_; rintro e wq ⟨sy, rfl, ho, hb⟩; obtain ⟨Ay, cy, rfl, _⟩ := ho.len)
          | (go_at_call 13; refine (eqPlane_any _ _ _ _ _ _ _ t0 _ (by omega) (x0_8.out.keep (Below.mono (below_step (below_drew0 _) hb) (Nat.le_trans Z5.out (Nat.le_trans Z6.out (Nat.le_trans Z7.out Z8.out))))) ho (Nat.le_trans (Nat.le_trans Z5.out (Nat.le_trans Z6.out (Nat.le_trans Z7.out Z8.out))) (below_step (below_drew0 _) hb).size) (Nat.le_refl _)).mono ?_; rintro e w9 ⟨rfl, hb2⟩))
        have hb3 := below_step (below_step (below_drew0 w8) hb) hb2
        have B9 := Lib.hid (below_step B8.out hb3)
        have Z9 := Lib.hid (Below.size hb3)
        have x0_9 := Lib.hid (x0_8.out.keep (Below.mono hb3 (Nat.le_trans Z5.out (Nat.le_trans Z6.out (Nat.le_trans Z7.out Z8.out)))))
        have x0b_9 := Lib.hid (x0b_8.out.keep hb3)
        have x1_9 := Lib.hid (x1_8.out.keep (Below.mono hb3 (Nat.le_trans Z7.out Z8.out)))
        have x1b_9 := Lib.hid (x1b_8.out.keep hb3)
        clear ho hb hb2 hb3
        go_wp2
        go_region_held3 (fun w' => (w'.cell? ⟨w6.heap.size, 0, none⟩ = some (.int .i64 m1) ∧ w'.cell? ⟨w6.heap.size, 1, none⟩ = some (.slice Ax1 t1.length cx1) ∧ w6.heap.size < w'.heap.size) ∧ (w'.cell? ⟨w.heap.size + 1, 0, none⟩ = some (.int .i64 m1) ∧ w'.cell? ⟨w.heap.size + 1, 1, none⟩ = some (.slice A1 t1.length c1) ∧ w.heap.size + 1 < w'.heap.size)) (first | exact ⟨x1b_9.out.keep (below_drew0 _), (X1.out.keep B9.out).keep (below_drew0 _)⟩ | exact box22_call (by assumption) (by assumption)) (first
          | (go_at_call 11; refine (toPlane_any _ _ _ t1 _ u1 (HRA1.out.below (below_step B9.out (below_drew0 _)))).mono ?_; rintro e wq ⟨sy, rfl, ho, hb⟩; obtain ⟨Ay, cy, rfl, _⟩ := ho.len)
          | (go_at_call 13; refine (eqPlane_any _ _ _ _ _ _ _ t1 _ (by omega) (x1_9.out.keep (Below.mono (below_step (below_drew0 _) hb) (Nat.le_trans Z7.out (Nat.le_trans Z8.out Z9.out)))) ho (Nat.le_trans (Nat.le_trans Z7.out (Nat.le_trans Z8.out Z9.out)) (below_step (below_drew0 _) hb).size) (Nat.le_refl _)).mono ?_; rintro e w10 ⟨rfl, hb2⟩))
        have hb3 := below_step (below_step (below_drew0 w9) hb) hb2
        have B10 := Lib.hid (below_step B9.out hb3)
        have Z10 := Lib.hid (Below.size hb3)
        have x0_10 := Lib.hid (x0_9.out.keep (Below.mono hb3 (Nat.le_trans Z5.out (Nat.le_trans Z6.out (Nat.le_trans Z7.out (Nat.le_trans Z8.out Z9.out))))))
        have x0b_10 := Lib.hid (x0b_9.out.keep hb3)
        have x1_10 := Lib.hid (x1_9.out.keep (Below.mono hb3 (Nat.le_trans Z7.out (Nat.le_trans Z8.out Z9.out))))
        have x1b_10 := Lib.hid (x1b_9.out.keep hb3)
        clear ho hb hb2 hb3
        go_wp2
        go_ret
        exact ⟨rfl, below_step HB.out B10.out⟩
    · skip
      obtain ⟨W, hW, x0, x1, hwb⟩ := startB2 24 24 w m0 A0 t0.length c0 m1 A1 t1.length c1
      have X0 := Lib.hid x0
      have X1 := Lib.hid x1
      have HW := Lib.hid hW
      have HB := Lib.hid hwb
      have HE := Lib.hid (hE.keep hwb hE.lt)
      have HEl := Lib.hid HE.out.lt
      have HZ := Lib.hid (hZ.keep hwb (Nat.lt_trans Nat.zero_lt_one hE.lt))
      have HRA0 := Lib.hid (RQ.below ra0 hwb)
      have HRA1 := Lib.hid (RQ.below ra1 hwb)
      have B0 := Lib.hid (Below.refl W.heap.size W)
      clear hW hwb x0 ra0 x1 ra1
      go_enter Tryz.func6, Tryz.ntmps6
      go_wp2_with fail
      rw [HW.out]
      refine (szPlane_ok _ _ _ _ _ _ (by omega) (by omega) (HRA0.out.below B0.out)).mono ?_
      rintro e w1 ⟨rfl, hb⟩
      have B1 := Lib.hid (below_step B0.out hb)
      have Z1 := Lib.hid (Below.size hb)
      clear hb
      obtain ⟨zp1, zq1⟩ := box_in X1.out B1.out
      go_wp2_with fail
      clear zp1 zq1
      refine (szPlane_no _ _ _ _ _ _ (by omega) (by omega) (by omega) (HRA1.out.below B1.out) hm1.1 hm1.2).mono ?_
      rintro e w2 ⟨rfl, hb⟩
      have B2 := Lib.hid (below_step B1.out hb)
      have Z2 := Lib.hid (Below.size hb)
      clear hb
      go_wp2
      go_ret
      exact ⟨rfl, below_step HB.out B2.out⟩
  · skip
    obtain ⟨W, hW, x0, x1, hwb⟩ := startB2 24 24 w m0 A0 t0.length c0 m1 A1 t1.length c1
    have X0 := Lib.hid x0
    have X1 := Lib.hid x1
    have HW := Lib.hid hW
    have HB := Lib.hid hwb
    have HE := Lib.hid (hE.keep hwb hE.lt)
    have HEl := Lib.hid HE.out.lt
    have HZ := Lib.hid (hZ.keep hwb (Nat.lt_trans Nat.zero_lt_one hE.lt))
    have HRA0 := Lib.hid (RQ.below ra0 hwb)
    have HRA1 := Lib.hid (RQ.below ra1 hwb)
    have B0 := Lib.hid (Below.refl W.heap.size W)
    clear hW hwb x0 ra0 x1 ra1
    go_enter Tryz.func6, Tryz.ntmps6
    go_wp2_with fail
    rw [HW.out]
    refine (szPlane_no _ _ _ _ _ _ (by omega) (by omega) (by omega) (HRA0.out.below B0.out) hm0.1 hm0.2).mono ?_
    rintro e w1 ⟨rfl, hb⟩
    have B1 := Lib.hid (below_step B0.out hb)
    have Z1 := Lib.hid (Below.size hb)
    clear hb
    go_wp2
    go_ret
    exact ⟨rfl, below_step HB.out B1.out⟩
end Go.Proofs.YtfhdgcndiljjcaaGreatDoor.fnExactAreSameHeight
