/- IsHomomorphism answers as its model at all arguments, leaves them alone, and owns its answer. No conditions. The frame follows the one that the kit prints for a law. -/
import Derived.Test.YtpmbojbdppbkgaaRows
import Derived.Test.YtpmbojbdppbkgaaMgau
import Derived.Test.YtpmbojbdppbkgaaMgaa
import Derived.Test.YtpmbojbdppbkgaaMgaq
import Derived.WalkKit
import Derived.ProofKit
import Derived.OpenShut
import Derived.ShutString
import Derived.ChangeOld
import Derived.Below
import Derived.Deep.DeepCutAuto
namespace Go.Proofs.Ytpmbojbdppbkgaa.fnExactIsHomomorphism
open Go.ChangeShapes Go.WideShapes Go.ChangeAt Go.RowKit
set_option linter.unusedVariables false

set_option maxHeartbeats 32000000 in
set_option maxRecDepth 100000 in
theorem walk (m0 : Int) (A0 : Option Addr) (c0 : Nat) (t0 : List (List Int)) (m1 : Int) (A1 : Option Addr) (c1 : Nat) (t1 : List (List Int)) (m2 : Int) (A2 : Option Addr) (c2 : Nat) (l2 : List Int) (w : World) (hm0 : t0.length ≤ 9223372036854775807 ∧ ∀ k, (Pl.rw' t0 k).length ≤ 9223372036854775807) (ra0 : RQ w A0 t0) (hm1 : t1.length ≤ 9223372036854775807 ∧ ∀ k, (Pl.rw' t1 k).length ≤ 9223372036854775807) (ra1 : RQ w A1 t1) (hm2 : l2.length ≤ maxLen) (ra2 : RA w A2 l2) :
    Calls Try.prog 16 #[.agg #[.int .i64 m0, .slice A0 t0.length c0], .agg #[.int .i64 m1, .slice A1 t1.length c1], .agg #[.int .i64 m2, .slice A2 l2.length c2]] w fun e w' => e = .returned (.bool true) ∧ Below w.heap.size w w' := by
  unfold maxLen at hm2
  by_cases h0 : ((szT t0 : Nat) : Int) ≤ 1048576
  · have u0 : szT t0 ≤ 1048576 := by omega
    have v0 : tot t0 ≤ 1048576 := by unfold szT at u0; omega
    by_cases h1 : ((szT t1 : Nat) : Int) ≤ 1048576 - ((szT t0 : Nat) : Int)
    · have u1 : szT t1 ≤ 1048576 := by omega
      have v1 : tot t1 ≤ 1048576 := by unfold szT at u1; omega
      by_cases h2 : (l2.length : Int) ≤ 1048576 - ((szT t0 : Nat) : Int) - ((szT t1 : Nat) : Int)
      · have u2 : l2.length ≤ 1048576 := by omega
        obtain ⟨b, C, hb⟩ : ∃ b C, homM m0 t0 m1 t1 m2 l2 = (b, C) := ⟨_, _, rfl⟩
        have HS : Hid (∀ (A0 : Option Addr) (c0 : Nat) (A1 : Option Addr) (c1 : Nat) (A2 : Option Addr) (c2 : Nat) (W : World), RP W A0 t0 → RP W A1 t1 → RI W A2 l2 → Calls Try.prog 54 #[.agg #[.int .i64 m0, .slice A0 t0.length c0], .agg #[.int .i64 m1, .slice A1 t1.length c1], .agg #[.int .i64 m2, .slice A2 l2.length c2]] W fun e w' => e = .returned (.tuple #[.bool b, .int .i64 C]) ∧ Below W.heap.size W w') :=
          Lib.hid (fun A0 c0 A1 c1 A2 c2 W r0 r1 r2 => by have := sIsHomomorphism_any m0 A0 c0 t0 m1 A1 c1 t1 m2 A2 c2 l2 W (by omega) (by omega) (by omega) r0 r1 r2; rw [hb] at this; exact this)
        have HI : Hid (∀ (A0 : Option Addr) (c0 : Nat) (A1 : Option Addr) (c1 : Nat) (A2 : Option Addr) (c2 : Nat) (W : World), RP W A0 t0 → RP W A1 t1 → RI W A2 l2 → Calls Try.prog 55 #[.agg #[.int .i64 m0, .slice A0 t0.length c0], .agg #[.int .i64 m1, .slice A1 t1.length c1], .agg #[.int .i64 m2, .slice A2 l2.length c2]] W fun e w' => e = .returned (.tuple #[.bool b, .int .i64 C]) ∧ Below W.heap.size W w') :=
          Lib.hid (fun A0 c0 A1 c1 A2 c2 W r0 r1 r2 => by have := IsHomomorphism_any m0 A0 c0 t0 m1 A1 c1 t1 m2 A2 c2 l2 W (by omega) (by omega) (by omega) r0 r1 r2; rw [hb] at this; exact this)
        obtain ⟨W, hW, x0, x1, x2, hwb⟩ := startB3 24 24 38 w m0 A0 t0.length c0 m1 A1 t1.length c1 m2 A2 l2.length c2
        have X0 := Lib.hid x0
        have X1 := Lib.hid x1
        have X2 := Lib.hid x2
        have HW := Lib.hid hW
        have HB := Lib.hid hwb
        have HRA0 := Lib.hid (RQ.below ra0 hwb)
        have HRA1 := Lib.hid (RQ.below ra1 hwb)
        have HRA2 := Lib.hid (RA.below ra2 hwb)
        have B0 := Lib.hid (Below.refl W.heap.size W)
        clear hW hwb x0 ra0 x1 ra1 x2 ra2
        clear hb
        go_enter Try.func16, Try.ntmps16
        go_wp2_with fail
        rw [HW.out]
        refine (szPlane_ok _ _ _ _ _ _ (by omega) (by omega) (HRA0.out.below B0.out)).mono ?_
        rintro e w1 ⟨rfl, hb⟩
        have B1 := Lib.hid (below_step B0.out hb)
        have Z1 := Lib.hid (Below.size hb)
        clear hb
        obtain ⟨zp1, zq1⟩ := box_in X1.out B1.out
        go_wp2_with fail
        clear zp1 zq1
        refine (szPlane_ok _ _ _ _ _ _ (by omega) (by omega) (HRA1.out.below B1.out)).mono ?_
        rintro e w2 ⟨rfl, hb⟩
        have B2 := Lib.hid (below_step B1.out hb)
        have Z2 := Lib.hid (Below.size hb)
        clear hb
        obtain ⟨zp2, zq2⟩ := box_in X2.out B2.out
        go_wp2_with fail
        clear zp2 zq2
        refine (szSeries_ok _ _ _ _ _ _ (by omega) (by omega)).mono ?_
        rintro e w3 ⟨rfl, hb⟩
        have B3 := Lib.hid (below_step B2.out hb)
        have Z3 := Lib.hid (Below.size hb)
        clear hb
        have Y0 := Lib.hid (X0.out.keep B3.out)
        have Y1 := Lib.hid (X1.out.keep B3.out)
        have Y2 := Lib.hid (X2.out.keep B3.out)
        go_upto_region 11 with fail
        go_cut [8, 9] (fun s6 s7 wx => s6 = .bool b ∧ s7 = .int .i64 C ∧ Below w3.heap.size w3 wx)
        case first =>
          go_region_held3 (fun w' => (w'.cell? ⟨w.heap.size, 0, none⟩ = some (.int .i64 m0) ∧ w'.cell? ⟨w.heap.size, 1, none⟩ = some (.slice A0 t0.length c0)) ∧ (w'.cell? ⟨w.heap.size + 1, 0, none⟩ = some (.int .i64 m1) ∧ w'.cell? ⟨w.heap.size + 1, 1, none⟩ = some (.slice A1 t1.length c1)) ∧ (w'.cell? ⟨w.heap.size + 1 + 1, 0, none⟩ = some (.int .i64 m2) ∧ w'.cell? ⟨w.heap.size + 1 + 1, 1, none⟩ = some (.slice A2 l2.length c2)) ∧ Below w3.heap.size w3 w') (first | exact box3_in Y0.out Y1.out Y2.out (below_drew0 _) | exact box3_in Y0.out Y1.out Y2.out hka | exact box3_in Y0.out Y1.out Y2.out hkb | exact box3_in Y0.out Y1.out Y2.out hkc | exact box3_in Y0.out Y1.out Y2.out hbel | exact box3_alloc Y0.out Y1.out Y2.out (by assumption)) (first
            | (go_at_call 20; with_reducible refine Calls.mono (toPlane_any m0 A0 c0 t0 _ u0 (HRA0.out.below (below_step B3.out (frth (by assumption))))) ?_; rintro e wa ⟨sa, rfl, hoa, hba⟩; obtain ⟨Aa, ca, rfl, _⟩ := hoa.len; obtain ⟨hka, _⟩ := reg_end3 (by assumption) hba)
            | (go_at_call 20; with_reducible refine Calls.mono (toPlane_any m1 A1 c1 t1 _ u1 (HRA1.out.below (below_step B3.out (frth (by assumption))))) ?_; rintro e wb ⟨sb, rfl, hob, hbb⟩; obtain ⟨Ab, cb, rfl, _⟩ := hob.len; obtain ⟨hkb, _⟩ := reg_end3 (by assumption) hbb)
            | (go_at_call 29; with_reducible refine Calls.mono (toSeries_any m2 A2 c2 l2 _ u2 (HRA2.out.below (below_step B3.out (frth (by assumption))))) ?_; rintro e wc ⟨sc, rfl, hoc, hbc⟩; obtain ⟨Ac, cc, rfl, _⟩ := hoc.form; obtain ⟨hkc, _⟩ := reg_end3 (by assumption) hbc)
            | (with_reducible refine Calls.mono (HS.out _ _ _ _ _ _ _ (by first | exact hoa.rp | exact (hoa.rp.below hbb) | exact (hoa.rp.below hbc) | exact ((hoa.rp.below hbb).below hbc) | exact ((hoa.rp.below hbc).below hbb)) (by first | exact hob.rp | exact (hob.rp.below hba) | exact (hob.rp.below hbc) | exact ((hob.rp.below hba).below hbc) | exact ((hob.rp.below hbc).below hba)) (by first | exact hoc.ri | exact (hoc.ri.below hba) | exact (hoc.ri.below hbb) | exact ((hoc.ri.below hba).below hbb) | exact ((hoc.ri.below hbb).below hba))) ?_; rintro e wd ⟨rfl, hbd⟩; obtain ⟨hbel, hle⟩ := reg_end3 (by assumption) hbd))
          all_goals
            go_wp2_with fail
            go_meet
            case rel => exact ⟨rfl, rfl, hbel⟩
        case rest =>
          obtain ⟨w4, hwc⟩ : ∃ w9, w9 = wc := ⟨_, rfl⟩
          subst hwc
          obtain ⟨rfl, rfl, hb⟩ := hcut
          clear Y0 Y1 Y2
          have B4 := Lib.hid (below_step B3.out hb)
          have Z4 := Lib.hid (Below.size hb)
          clear hb
          obtain ⟨zp0, zq0⟩ := box_in X0.out B4.out
          go_wp2_with fail
          clear zp0 zq0
          refine (toPlane_any _ _ _ t0 _ u0 (HRA0.out.below B4.out)).mono ?_
          rintro e w5 ⟨sx0, rfl, ho, hb⟩
          obtain ⟨Ax0, cx0, rfl, _⟩ := ho.len
          have B5 := Lib.hid (below_step B4.out hb)
          have Z5 := Lib.hid (Below.size hb)
          have x0_5 := Lib.hid ho
          clear ho hb
          obtain ⟨w6, hV, hx, hb⟩ := start1 31 w5 m0 Ax0 t0.length cx0
          have B6 := Lib.hid (below_step B5.out hb)
          have Z6 := Lib.hid (Below.size hb)
          have x0_6 := Lib.hid (x0_5.out.keep (Below.mono hb (Nat.le_refl _)))
          have x0b_6 := Lib.hid hx
          have HV := Lib.hid hV
          clear hV hx hb
          obtain ⟨zp1, zq1⟩ := box_in X1.out B6.out
          rw [← HV.out] at zp1 zq1
          go_wp2_with fail
          rw [HV.out]
          clear HV
          clear zp1 zq1
          refine (toPlane_any _ _ _ t1 _ u1 (HRA1.out.below B6.out)).mono ?_
          rintro e w7 ⟨sx1, rfl, ho, hb⟩
          obtain ⟨Ax1, cx1, rfl, _⟩ := ho.len
          have B7 := Lib.hid (below_step B6.out hb)
          have Z7 := Lib.hid (Below.size hb)
          have x0_7 := Lib.hid (x0_6.out.keep (Below.mono hb Z6.out))
          have x0b_7 := Lib.hid (x0b_6.out.keep hb)
          have x1_7 := Lib.hid ho
          clear ho hb
          obtain ⟨w8, hV, hx, hb⟩ := start1 31 w7 m1 Ax1 t1.length cx1
          have B8 := Lib.hid (below_step B7.out hb)
          have Z8 := Lib.hid (Below.size hb)
          have x0_8 := Lib.hid (x0_7.out.keep (Below.mono hb (Nat.le_trans Z6.out Z7.out)))
          have x0b_8 := Lib.hid (x0b_7.out.keep hb)
          have x1_8 := Lib.hid (x1_7.out.keep (Below.mono hb (Nat.le_refl _)))
          have x1b_8 := Lib.hid hx
          have HV := Lib.hid hV
          clear hV hx hb
          obtain ⟨zp2, zq2⟩ := box_in X2.out B8.out
          rw [← HV.out] at zp2 zq2
          go_wp2_with fail
          rw [HV.out]
          clear HV
          clear zp2 zq2
          refine (toSeries_any _ _ _ l2 _ u2 (HRA2.out.below B8.out)).mono ?_
          rintro e w9 ⟨sx2, rfl, ho, hb⟩
          obtain ⟨Ax2, cx2, rfl, _⟩ := ho.form
          have B9 := Lib.hid (below_step B8.out hb)
          have Z9 := Lib.hid (Below.size hb)
          have x0_9 := Lib.hid (x0_8.out.keep (Below.mono hb (Nat.le_trans Z6.out (Nat.le_trans Z7.out Z8.out))))
          have x0b_9 := Lib.hid (x0b_8.out.keep hb)
          have x1_9 := Lib.hid (x1_8.out.keep (Below.mono hb Z8.out))
          have x1b_9 := Lib.hid (x1b_8.out.keep hb)
          have x2_9 := Lib.hid ho
          clear ho hb
          obtain ⟨w10, hV, hx, hb⟩ := start1 28 w9 m2 Ax2 l2.length cx2
          have B10 := Lib.hid (below_step B9.out hb)
          have Z10 := Lib.hid (Below.size hb)
          have x0_10 := Lib.hid (x0_9.out.keep (Below.mono hb (Nat.le_trans Z6.out (Nat.le_trans Z7.out (Nat.le_trans Z8.out Z9.out)))))
          have x0b_10 := Lib.hid (x0b_9.out.keep hb)
          have x1_10 := Lib.hid (x1_9.out.keep (Below.mono hb (Nat.le_trans Z8.out Z9.out)))
          have x1b_10 := Lib.hid (x1b_9.out.keep hb)
          have x2_10 := Lib.hid (x2_9.out.keep hb)
          have x2b_10 := Lib.hid hx
          have HV := Lib.hid hV
          clear hV hx hb
          obtain ⟨zx01, zx02, _⟩ := x0b_10.out
          obtain ⟨zx11, zx12, _⟩ := x1b_10.out
          rw [← HV.out] at zx01 zx02 zx11 zx12
          go_wp2_with fail
          rw [HV.out]
          clear HV
          clear zx01 zx02 zx11 zx12
          refine (HI.out _ _ _ _ _ _ _ x0_10.out.rp x1_10.out.rp x2_10.out.ri).mono ?_
          rintro e w11 ⟨rfl, hb⟩
          have B11 := Lib.hid (below_step B10.out hb)
          have Z11 := Lib.hid (Below.size hb)
          have x0_11 := Lib.hid (x0_10.out.keep (Below.mono hb (Nat.le_trans Z6.out (Nat.le_trans Z7.out (Nat.le_trans Z8.out (Nat.le_trans Z9.out Z10.out))))))
          have x0b_11 := Lib.hid (x0b_10.out.keep hb)
          have x1_11 := Lib.hid (x1_10.out.keep (Below.mono hb (Nat.le_trans Z8.out (Nat.le_trans Z9.out Z10.out))))
          have x1b_11 := Lib.hid (x1b_10.out.keep hb)
          have x2_11 := Lib.hid (x2_10.out.keep hb)
          have x2b_11 := Lib.hid (x2b_10.out.keep hb)
          clear hb
          go_wp2
          go_region_held3 (fun w' => (w'.cell? ⟨w5.heap.size, 0, none⟩ = some (.int .i64 m0) ∧ w'.cell? ⟨w5.heap.size, 1, none⟩ = some (.slice Ax0 t0.length cx0) ∧ w5.heap.size < w'.heap.size) ∧ (w'.cell? ⟨w.heap.size, 0, none⟩ = some (.int .i64 m0) ∧ w'.cell? ⟨w.heap.size, 1, none⟩ = some (.slice A0 t0.length c0) ∧ w.heap.size < w'.heap.size)) (first | exact ⟨x0b_11.out.keep (below_drew0 _), (X0.out.keep B11.out).keep (below_drew0 _)⟩ | exact box22_call (by assumption) (by assumption)) (first
            | (go_at_call 20; refine (toPlane_any _ _ _ t0 _ u0 (HRA0.out.below (below_step B11.out (below_drew0 _)))).mono ?_; rintro e wq ⟨sy, rfl, ho, hb⟩; obtain ⟨Ay, cy, rfl, _⟩ := ho.len)
            | (go_at_call 23; refine (eqPlane_any _ _ _ _ _ _ _ t0 _ (by omega) (x0_11.out.keep (Below.mono (below_step (below_drew0 _) hb) (Nat.le_trans Z6.out (Nat.le_trans Z7.out (Nat.le_trans Z8.out (Nat.le_trans Z9.out (Nat.le_trans Z10.out Z11.out))))))) ho (Nat.le_trans (Nat.le_trans Z6.out (Nat.le_trans Z7.out (Nat.le_trans Z8.out (Nat.le_trans Z9.out (Nat.le_trans Z10.out Z11.out))))) (below_step (below_drew0 _) hb).size) (Nat.le_refl _)).mono ?_; rintro e w12 ⟨rfl, hb2⟩))
          have hb3 := below_step (below_step (below_drew0 w11) hb) hb2
          have B12 := Lib.hid (below_step B11.out hb3)
          have Z12 := Lib.hid (Below.size hb3)
          have x0_12 := Lib.hid (x0_11.out.keep (Below.mono hb3 (Nat.le_trans Z6.out (Nat.le_trans Z7.out (Nat.le_trans Z8.out (Nat.le_trans Z9.out (Nat.le_trans Z10.out Z11.out)))))))
          have x0b_12 := Lib.hid (x0b_11.out.keep hb3)
          have x1_12 := Lib.hid (x1_11.out.keep (Below.mono hb3 (Nat.le_trans Z8.out (Nat.le_trans Z9.out (Nat.le_trans Z10.out Z11.out)))))
          have x1b_12 := Lib.hid (x1b_11.out.keep hb3)
          have x2_12 := Lib.hid (x2_11.out.keep hb3)
          have x2b_12 := Lib.hid (x2b_11.out.keep hb3)
          clear ho hb hb2 hb3
          go_wp2
          go_region_held3 (fun w' => (w'.cell? ⟨w7.heap.size, 0, none⟩ = some (.int .i64 m1) ∧ w'.cell? ⟨w7.heap.size, 1, none⟩ = some (.slice Ax1 t1.length cx1) ∧ w7.heap.size < w'.heap.size) ∧ (w'.cell? ⟨w.heap.size + 1, 0, none⟩ = some (.int .i64 m1) ∧ w'.cell? ⟨w.heap.size + 1, 1, none⟩ = some (.slice A1 t1.length c1) ∧ w.heap.size + 1 < w'.heap.size)) (first | exact ⟨x1b_12.out.keep (below_drew0 _), (X1.out.keep B12.out).keep (below_drew0 _)⟩ | exact box22_call (by assumption) (by assumption)) (first
            | (go_at_call 20; refine (toPlane_any _ _ _ t1 _ u1 (HRA1.out.below (below_step B12.out (below_drew0 _)))).mono ?_; rintro e wq ⟨sy, rfl, ho, hb⟩; obtain ⟨Ay, cy, rfl, _⟩ := ho.len)
            | (go_at_call 23; refine (eqPlane_any _ _ _ _ _ _ _ t1 _ (by omega) (x1_12.out.keep (Below.mono (below_step (below_drew0 _) hb) (Nat.le_trans Z8.out (Nat.le_trans Z9.out (Nat.le_trans Z10.out (Nat.le_trans Z11.out Z12.out)))))) ho (Nat.le_trans (Nat.le_trans Z8.out (Nat.le_trans Z9.out (Nat.le_trans Z10.out (Nat.le_trans Z11.out Z12.out)))) (below_step (below_drew0 _) hb).size) (Nat.le_refl _)).mono ?_; rintro e w13 ⟨rfl, hb2⟩))
          have hb3 := below_step (below_step (below_drew0 w12) hb) hb2
          have B13 := Lib.hid (below_step B12.out hb3)
          have Z13 := Lib.hid (Below.size hb3)
          have x0_13 := Lib.hid (x0_12.out.keep (Below.mono hb3 (Nat.le_trans Z6.out (Nat.le_trans Z7.out (Nat.le_trans Z8.out (Nat.le_trans Z9.out (Nat.le_trans Z10.out (Nat.le_trans Z11.out Z12.out))))))))
          have x0b_13 := Lib.hid (x0b_12.out.keep hb3)
          have x1_13 := Lib.hid (x1_12.out.keep (Below.mono hb3 (Nat.le_trans Z8.out (Nat.le_trans Z9.out (Nat.le_trans Z10.out (Nat.le_trans Z11.out Z12.out))))))
          have x1b_13 := Lib.hid (x1b_12.out.keep hb3)
          have x2_13 := Lib.hid (x2_12.out.keep hb3)
          have x2b_13 := Lib.hid (x2b_12.out.keep hb3)
          clear ho hb hb2 hb3
          go_wp2
          go_region_held3 (fun w' => (w'.cell? ⟨w9.heap.size, 0, none⟩ = some (.int .i64 m2) ∧ w'.cell? ⟨w9.heap.size, 1, none⟩ = some (.slice Ax2 l2.length cx2) ∧ w9.heap.size < w'.heap.size) ∧ (w'.cell? ⟨w.heap.size + 1 + 1, 0, none⟩ = some (.int .i64 m2) ∧ w'.cell? ⟨w.heap.size + 1 + 1, 1, none⟩ = some (.slice A2 l2.length c2) ∧ w.heap.size + 1 + 1 < w'.heap.size)) (first | exact ⟨x2b_13.out.keep (below_drew0 _), (X2.out.keep B13.out).keep (below_drew0 _)⟩ | exact box22_call (by assumption) (by assumption)) (first
            | (go_at_call 29; refine (toSeries_any _ _ _ l2 _ u2 (HRA2.out.below (below_step B13.out (below_drew0 _)))).mono ?_; rintro e wq ⟨sy, rfl, ho, hb⟩; obtain ⟨Ay, cy, rfl, _⟩ := ho.form)
            | (go_at_call 22; refine (eqSeries_any _ _ _ _ _ l2 _ (by omega) (x2_13.out.keep (below_step (below_drew0 _) hb)).ri ho.ri).mono ?_; rintro e w14 ⟨rfl, hb2⟩))
          have hb3 := below_step (below_step (below_drew0 w13) hb) hb2
          have B14 := Lib.hid (below_step B13.out hb3)
          have Z14 := Lib.hid (Below.size hb3)
          have x0_14 := Lib.hid (x0_13.out.keep (Below.mono hb3 (Nat.le_trans Z6.out (Nat.le_trans Z7.out (Nat.le_trans Z8.out (Nat.le_trans Z9.out (Nat.le_trans Z10.out (Nat.le_trans Z11.out (Nat.le_trans Z12.out Z13.out)))))))))
          have x0b_14 := Lib.hid (x0b_13.out.keep hb3)
          have x1_14 := Lib.hid (x1_13.out.keep (Below.mono hb3 (Nat.le_trans Z8.out (Nat.le_trans Z9.out (Nat.le_trans Z10.out (Nat.le_trans Z11.out (Nat.le_trans Z12.out Z13.out)))))))
          have x1b_14 := Lib.hid (x1b_13.out.keep hb3)
          have x2_14 := Lib.hid (x2_13.out.keep hb3)
          have x2b_14 := Lib.hid (x2b_13.out.keep hb3)
          clear ho hb hb2 hb3
          go_wp2
          go_ret
          exact ⟨rfl, below_step HB.out B14.out⟩
      · skip
        obtain ⟨W, hW, x0, x1, x2, hwb⟩ := startB3 24 24 38 w m0 A0 t0.length c0 m1 A1 t1.length c1 m2 A2 l2.length c2
        have X0 := Lib.hid x0
        have X1 := Lib.hid x1
        have X2 := Lib.hid x2
        have HW := Lib.hid hW
        have HB := Lib.hid hwb
        have HRA0 := Lib.hid (RQ.below ra0 hwb)
        have HRA1 := Lib.hid (RQ.below ra1 hwb)
        have HRA2 := Lib.hid (RA.below ra2 hwb)
        have B0 := Lib.hid (Below.refl W.heap.size W)
        clear hW hwb x0 ra0 x1 ra1 x2 ra2
        go_enter Try.func16, Try.ntmps16
        go_wp2_with fail
        rw [HW.out]
        refine (szPlane_ok _ _ _ _ _ _ (by omega) (by omega) (HRA0.out.below B0.out)).mono ?_
        rintro e w1 ⟨rfl, hb⟩
        have B1 := Lib.hid (below_step B0.out hb)
        have Z1 := Lib.hid (Below.size hb)
        clear hb
        obtain ⟨zp1, zq1⟩ := box_in X1.out B1.out
        go_wp2_with fail
        clear zp1 zq1
        refine (szPlane_ok _ _ _ _ _ _ (by omega) (by omega) (HRA1.out.below B1.out)).mono ?_
        rintro e w2 ⟨rfl, hb⟩
        have B2 := Lib.hid (below_step B1.out hb)
        have Z2 := Lib.hid (Below.size hb)
        clear hb
        obtain ⟨zp2, zq2⟩ := box_in X2.out B2.out
        go_wp2_with fail
        clear zp2 zq2
        refine (szSeries_no _ _ _ _ _ _ (by omega) (by omega) (by omega) (by omega)).mono ?_
        rintro e w3 ⟨rfl, hb⟩
        have B3 := Lib.hid (below_step B2.out hb)
        have Z3 := Lib.hid (Below.size hb)
        clear hb
        go_wp2
        go_ret
        exact ⟨rfl, below_step HB.out B3.out⟩
    · skip
      obtain ⟨W, hW, x0, x1, x2, hwb⟩ := startB3 24 24 38 w m0 A0 t0.length c0 m1 A1 t1.length c1 m2 A2 l2.length c2
      have X0 := Lib.hid x0
      have X1 := Lib.hid x1
      have X2 := Lib.hid x2
      have HW := Lib.hid hW
      have HB := Lib.hid hwb
      have HRA0 := Lib.hid (RQ.below ra0 hwb)
      have HRA1 := Lib.hid (RQ.below ra1 hwb)
      have HRA2 := Lib.hid (RA.below ra2 hwb)
      have B0 := Lib.hid (Below.refl W.heap.size W)
      clear hW hwb x0 ra0 x1 ra1 x2 ra2
      go_enter Try.func16, Try.ntmps16
      go_wp2_with fail
      rw [HW.out]
      refine (szPlane_ok _ _ _ _ _ _ (by omega) (by omega) (HRA0.out.below B0.out)).mono ?_
      rintro e w1 ⟨rfl, hb⟩
      have B1 := Lib.hid (below_step B0.out hb)
      have Z1 := Lib.hid (Below.size hb)
      clear hb
      obtain ⟨zp1, zq1⟩ := box_in X1.out B1.out
      go_wp2_with fail
      clear zp1 zq1
      refine (szPlane_no _ _ _ _ _ _ (by omega) (by omega) (by omega) (HRA1.out.below B1.out) hm1.1 hm1.2).mono ?_
      rintro e w2 ⟨rfl, hb⟩
      have B2 := Lib.hid (below_step B1.out hb)
      have Z2 := Lib.hid (Below.size hb)
      clear hb
      go_wp2
      go_ret
      exact ⟨rfl, below_step HB.out B2.out⟩
  · skip
    obtain ⟨W, hW, x0, x1, x2, hwb⟩ := startB3 24 24 38 w m0 A0 t0.length c0 m1 A1 t1.length c1 m2 A2 l2.length c2
    have X0 := Lib.hid x0
    have X1 := Lib.hid x1
    have X2 := Lib.hid x2
    have HW := Lib.hid hW
    have HB := Lib.hid hwb
    have HRA0 := Lib.hid (RQ.below ra0 hwb)
    have HRA1 := Lib.hid (RQ.below ra1 hwb)
    have HRA2 := Lib.hid (RA.below ra2 hwb)
    have B0 := Lib.hid (Below.refl W.heap.size W)
    clear hW hwb x0 ra0 x1 ra1 x2 ra2
    go_enter Try.func16, Try.ntmps16
    go_wp2_with fail
    rw [HW.out]
    refine (szPlane_no _ _ _ _ _ _ (by omega) (by omega) (by omega) (HRA0.out.below B0.out) hm0.1 hm0.2).mono ?_
    rintro e w1 ⟨rfl, hb⟩
    have B1 := Lib.hid (below_step B0.out hb)
    have Z1 := Lib.hid (Below.size hb)
    clear hb
    go_wp2
    go_ret
    exact ⟨rfl, below_step HB.out B1.out⟩
end Go.Proofs.Ytpmbojbdppbkgaa.fnExactIsHomomorphism
