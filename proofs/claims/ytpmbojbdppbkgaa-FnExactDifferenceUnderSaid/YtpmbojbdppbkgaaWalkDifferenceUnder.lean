/- DifferenceUnder answers as its model at all arguments, leaves them alone, and owns its answer. No conditions. The frame follows the one that the kit prints for a law. -/
import Derived.Test.YtpmbojbdppbkgaaRows
import Derived.Test.YtpmbojbdppbkgaaMgaq
import Derived.Test.YtpmbojbdppbkgaaMgaa
import Derived.WalkKit
import Derived.ProofKit
import Derived.OpenShut
import Derived.ShutString
import Derived.ChangeOld
import Derived.Below
import Derived.Deep.DeepCutAuto
namespace Go.Proofs.Ytpmbojbdppbkgaa.fnExactDifferenceUnder
open Go.ChangeShapes Go.WideShapes Go.ChangeAt Go.RowKit
set_option linter.unusedVariables false

set_option maxHeartbeats 32000000 in
set_option maxRecDepth 100000 in
theorem walk (m0 : Int) (A0 : Option Addr) (c0 : Nat) (t0 : List (List Int)) (m1 : Int) (A1 : Option Addr) (c1 : Nat) (l1 : List Int) (m2 : Int) (A2 : Option Addr) (c2 : Nat) (l2 : List Int) (w : World) (hm0 : t0.length ≤ 9223372036854775807 ∧ ∀ k, (Pl.rw' t0 k).length ≤ 9223372036854775807) (ra0 : RQ w A0 t0) (hm1 : l1.length ≤ maxLen) (ra1 : RA w A1 l1) (hm2 : l2.length ≤ maxLen) (ra2 : RA w A2 l2) :
    Calls Try.prog 6 #[.agg #[.int .i64 m0, .slice A0 t0.length c0], .agg #[.int .i64 m1, .slice A1 l1.length c1], .agg #[.int .i64 m2, .slice A2 l2.length c2]] w fun e w' => e = .returned (.bool true) ∧ Below w.heap.size w w' := by
  unfold maxLen at hm1
  unfold maxLen at hm2
  by_cases h0 : ((szT t0 : Nat) : Int) ≤ 1048576
  · have u0 : szT t0 ≤ 1048576 := by omega
    have v0 : tot t0 ≤ 1048576 := by unfold szT at u0; omega
    by_cases h1 : (l1.length : Int) ≤ 1048576 - ((szT t0 : Nat) : Int)
    · have u1 : l1.length ≤ 1048576 := by omega
      by_cases h2 : (l2.length : Int) ≤ 1048576 - ((szT t0 : Nat) : Int) - (l1.length : Int)
      · have u2 : l2.length ≤ 1048576 := by omega
        obtain ⟨M, L, C, hMLC⟩ : ∃ M L C, difL m0 t0 m1 l1 m2 l2 = (M, L, C) := ⟨_, _, _, rfl⟩
        have hL : L.length ≤ 1048576 := by have := difL_len m0 t0 m1 l1 m2 l2; rw [hMLC] at this; exact this
        have HS : Hid (∀ (A0 : Option Addr) (c0 : Nat) (A1 : Option Addr) (c1 : Nat) (A2 : Option Addr) (c2 : Nat) (W : World), RP W A0 t0 → RI W A1 l1 → RI W A2 l2 → Calls Try.prog 33 #[.agg #[.int .i64 m0, .slice A0 t0.length c0], .agg #[.int .i64 m1, .slice A1 l1.length c1], .agg #[.int .i64 m2, .slice A2 l2.length c2]] W fun e w' => ∃ s, e = .returned (.tuple #[.agg #[.int .i64 M, s], .int .i64 C]) ∧ OwnI w' W.heap.size s L ∧ Below W.heap.size W w') :=
          Lib.hid (fun A0 c0 A1 c1 A2 c2 W r0 r1 r2 => by have := sDifferenceUnder_any m0 A0 c0 t0 m1 A1 c1 l1 m2 A2 c2 l2 W (by omega) (by omega) (by omega) r0 r1 r2; rw [hMLC] at this; exact this)
        have HI : Hid (∀ (A0 : Option Addr) (c0 : Nat) (A1 : Option Addr) (c1 : Nat) (A2 : Option Addr) (c2 : Nat) (W : World), RP W A0 t0 → RI W A1 l1 → RI W A2 l2 → Calls Try.prog 34 #[.agg #[.int .i64 m0, .slice A0 t0.length c0], .agg #[.int .i64 m1, .slice A1 l1.length c1], .agg #[.int .i64 m2, .slice A2 l2.length c2]] W fun e w' => ∃ s, e = .returned (.tuple #[.agg #[.int .i64 M, s], .int .i64 C]) ∧ OwnI w' W.heap.size s L ∧ Below W.heap.size W w') :=
          Lib.hid (fun A0 c0 A1 c1 A2 c2 W r0 r1 r2 => by have := DifferenceUnder_any m0 A0 c0 t0 m1 A1 c1 l1 m2 A2 c2 l2 W (by omega) (by omega) (by omega) r0 r1 r2; rw [hMLC] at this; exact this)
        obtain ⟨W, hW, x0, x1, x2, hwb⟩ := startB3 24 38 38 w m0 A0 t0.length c0 m1 A1 l1.length c1 m2 A2 l2.length c2
        have X0 := Lib.hid x0
        have X1 := Lib.hid x1
        have X2 := Lib.hid x2
        have HW := Lib.hid hW
        have HB := Lib.hid hwb
        have HRA0 := Lib.hid (RQ.below ra0 hwb)
        have HRA1 := Lib.hid (RA.below ra1 hwb)
        have HRA2 := Lib.hid (RA.below ra2 hwb)
        have B0 := Lib.hid (Below.refl W.heap.size W)
        clear hW hwb x0 ra0 x1 ra1 x2 ra2
        clear hMLC
        go_enter Try.func6, Try.ntmps6
        go_wp2_with fail
        rw [HW.out]
        refine (szPlane_ok _ _ _ _ _ _ (by omega) (by omega) (HRA0.out.below B0.out)).mono ?_
        rintro e w1 ⟨rfl, hb⟩
        have B1 := Lib.hid (below_step B0.out hb)
        have Z1 := Lib.hid (Below.size hb)
        clear hb
        obtain ⟨zp1, zq1⟩ := box_in X1.out B1.out
        go_wp2_with fail
        clear zp1 zq1
        refine (szSeries_ok _ _ _ _ _ _ (by omega) (by omega)).mono ?_
        rintro e w2 ⟨rfl, hb⟩
        have B2 := Lib.hid (below_step B1.out hb)
        have Z2 := Lib.hid (Below.size hb)
        clear hb
        obtain ⟨zp2, zq2⟩ := box_in X2.out B2.out
        go_wp2_with fail
        clear zp2 zq2
        refine (szSeries_ok _ _ _ _ _ _ (by omega) (by omega)).mono ?_
        rintro e w3 ⟨rfl, hb⟩
        have B3 := Lib.hid (below_step B2.out hb)
        have Z3 := Lib.hid (Below.size hb)
        clear hb
        have Y0 := Lib.hid (X0.out.keep B3.out)
        have Y1 := Lib.hid (X1.out.keep B3.out)
        have Y2 := Lib.hid (X2.out.keep B3.out)
        go_upto_region 11 with fail
        go_cut [8, 9] (fun s6 s7 wx => ∃ g A c, s6 = .pointer (some ⟨g, 0, none⟩) ∧ s7 = .int .i64 C ∧ OwnI wx w3.heap.size (.slice A L.length c) L ∧ Box wx g M A L.length c ∧ w3.heap.size ≤ g ∧ Below w3.heap.size w3 wx)
        case first =>
          go_region_held3 (fun w' => (w'.cell? ⟨w.heap.size, 0, none⟩ = some (.int .i64 m0) ∧ w'.cell? ⟨w.heap.size, 1, none⟩ = some (.slice A0 t0.length c0)) ∧ (w'.cell? ⟨w.heap.size + 1, 0, none⟩ = some (.int .i64 m1) ∧ w'.cell? ⟨w.heap.size + 1, 1, none⟩ = some (.slice A1 l1.length c1)) ∧ (w'.cell? ⟨w.heap.size + 1 + 1, 0, none⟩ = some (.int .i64 m2) ∧ w'.cell? ⟨w.heap.size + 1 + 1, 1, none⟩ = some (.slice A2 l2.length c2)) ∧ Below w3.heap.size w3 w') (first | exact box3_in Y0.out Y1.out Y2.out (below_drew0 _) | exact box3_in Y0.out Y1.out Y2.out hka | exact box3_in Y0.out Y1.out Y2.out hkb | exact box3_in Y0.out Y1.out Y2.out hkc | exact box3_in Y0.out Y1.out Y2.out hbel | exact box3_alloc Y0.out Y1.out Y2.out (by assumption) | exact box3_in Y0.out Y1.out Y2.out (below_alloc _ hbel) | exact box3_in Y0.out Y1.out Y2.out (reg_fin hwg hgc hv hod hbel M).2.2) (first
            | (go_at_call 20; with_reducible refine Calls.mono (toPlane_any m0 A0 c0 t0 _ u0 (HRA0.out.below (below_step B3.out (frth (by assumption))))) ?_; rintro e wa ⟨sa, rfl, hoa, hba⟩; obtain ⟨Aa, ca, rfl, _⟩ := hoa.len; obtain ⟨hka, _⟩ := reg_end3 (by assumption) hba)
            | (go_at_call 29; with_reducible refine Calls.mono (toSeries_any m1 A1 c1 l1 _ u1 (HRA1.out.below (below_step B3.out (frth (by assumption))))) ?_; rintro e wb ⟨sb, rfl, hob, hbb⟩; obtain ⟨Ab, cb, rfl, _⟩ := hob.form; obtain ⟨hkb, _⟩ := reg_end3 (by assumption) hbb)
            | (go_at_call 29; with_reducible refine Calls.mono (toSeries_any m2 A2 c2 l2 _ u2 (HRA2.out.below (below_step B3.out (frth (by assumption))))) ?_; rintro e wc ⟨sc, rfl, hoc, hbc⟩; obtain ⟨Ac, cc, rfl, _⟩ := hoc.form; obtain ⟨hkc, _⟩ := reg_end3 (by assumption) hbc)
            | (with_reducible refine Calls.mono (HS.out _ _ _ _ _ _ _ (by first | exact hoa.rp | exact (hoa.rp.below (below_one _ _)) | exact (hoa.rp.below hbb) | exact (hoa.rp.below (below_step (below_one _ _) hbb)) | exact ((hoa.rp.below hbb).below (below_one _ _)) | exact (hoa.rp.below hbc) | exact (hoa.rp.below (below_step (below_one _ _) hbc)) | exact ((hoa.rp.below hbc).below (below_one _ _)) | exact ((hoa.rp.below hbb).below hbc) | exact ((hoa.rp.below (below_step (below_one _ _) hbb)).below hbc) | exact ((hoa.rp.below hbb).below (below_step (below_one _ _) hbc)) | exact (((hoa.rp.below hbb).below hbc).below (below_one _ _)) | exact ((hoa.rp.below hbc).below hbb) | exact ((hoa.rp.below (below_step (below_one _ _) hbc)).below hbb) | exact ((hoa.rp.below hbc).below (below_step (below_one _ _) hbb)) | exact (((hoa.rp.below hbc).below hbb).below (below_one _ _))) (by first | exact hob.ri | exact (hob.ri.below (below_one _ _)) | exact (hob.ri.below hba) | exact (hob.ri.below (below_step (below_one _ _) hba)) | exact ((hob.ri.below hba).below (below_one _ _)) | exact (hob.ri.below hbc) | exact (hob.ri.below (below_step (below_one _ _) hbc)) | exact ((hob.ri.below hbc).below (below_one _ _)) | exact ((hob.ri.below hba).below hbc) | exact ((hob.ri.below (below_step (below_one _ _) hba)).below hbc) | exact ((hob.ri.below hba).below (below_step (below_one _ _) hbc)) | exact (((hob.ri.below hba).below hbc).below (below_one _ _)) | exact ((hob.ri.below hbc).below hba) | exact ((hob.ri.below (below_step (below_one _ _) hbc)).below hba) | exact ((hob.ri.below hbc).below (below_step (below_one _ _) hba)) | exact (((hob.ri.below hbc).below hba).below (below_one _ _))) (by first | exact hoc.ri | exact (hoc.ri.below (below_one _ _)) | exact (hoc.ri.below hba) | exact (hoc.ri.below (below_step (below_one _ _) hba)) | exact ((hoc.ri.below hba).below (below_one _ _)) | exact (hoc.ri.below hbb) | exact (hoc.ri.below (below_step (below_one _ _) hbb)) | exact ((hoc.ri.below hbb).below (below_one _ _)) | exact ((hoc.ri.below hba).below hbb) | exact ((hoc.ri.below (below_step (below_one _ _) hba)).below hbb) | exact ((hoc.ri.below hba).below (below_step (below_one _ _) hbb)) | exact (((hoc.ri.below hba).below hbb).below (below_one _ _)) | exact ((hoc.ri.below hbb).below hba) | exact ((hoc.ri.below (below_step (below_one _ _) hbb)).below hba) | exact ((hoc.ri.below hbb).below (below_step (below_one _ _) hba)) | exact (((hoc.ri.below hbb).below hba).below (below_one _ _)))) ?_; rintro e wd ⟨sd, rfl, hod, hbd⟩; obtain ⟨Ad, cd, rfl, _⟩ := hod.form; obtain ⟨hbel, hle⟩ := reg_end3 (by assumption) hbd; first | (refine use_it (var_keep (((((Var2.new w3 _ _).drew).keep hbc).keep hbb).keep hba) hbd) ?_; rintro ⟨hv, hgc⟩; have hwg := var_at (k := w3.heap.size) hv (by first | exact Nat.le_refl _ | exact hka.size | exact hkb.size | exact hkc.size); have q0 := hv.c0; have q1 := hv.c1; have q2 := hv.fz 0; have q3 := hv.fz 1) | (refine use_it (var_keep (((((Var2.new w3 _ _).drew).keep hbc).keep hba).keep hbb) hbd) ?_; rintro ⟨hv, hgc⟩; have hwg := var_at (k := w3.heap.size) hv (by first | exact Nat.le_refl _ | exact hka.size | exact hkb.size | exact hkc.size); have q0 := hv.c0; have q1 := hv.c1; have q2 := hv.fz 0; have q3 := hv.fz 1) | (refine use_it (var_keep (((((Var2.new w3 _ _).drew).keep hbb).keep hbc).keep hba) hbd) ?_; rintro ⟨hv, hgc⟩; have hwg := var_at (k := w3.heap.size) hv (by first | exact Nat.le_refl _ | exact hka.size | exact hkb.size | exact hkc.size); have q0 := hv.c0; have q1 := hv.c1; have q2 := hv.fz 0; have q3 := hv.fz 1) | (refine use_it (var_keep (((((Var2.new w3 _ _).drew).keep hbb).keep hba).keep hbc) hbd) ?_; rintro ⟨hv, hgc⟩; have hwg := var_at (k := w3.heap.size) hv (by first | exact Nat.le_refl _ | exact hka.size | exact hkb.size | exact hkc.size); have q0 := hv.c0; have q1 := hv.c1; have q2 := hv.fz 0; have q3 := hv.fz 1) | (refine use_it (var_keep (((((Var2.new w3 _ _).drew).keep hba).keep hbc).keep hbb) hbd) ?_; rintro ⟨hv, hgc⟩; have hwg := var_at (k := w3.heap.size) hv (by first | exact Nat.le_refl _ | exact hka.size | exact hkb.size | exact hkc.size); have q0 := hv.c0; have q1 := hv.c1; have q2 := hv.fz 0; have q3 := hv.fz 1) | (refine use_it (var_keep (((((Var2.new w3 _ _).drew).keep hba).keep hbb).keep hbc) hbd) ?_; rintro ⟨hv, hgc⟩; have hwg := var_at (k := w3.heap.size) hv (by first | exact Nat.le_refl _ | exact hka.size | exact hkb.size | exact hkc.size); have q0 := hv.c0; have q1 := hv.c1; have q2 := hv.fz 0; have q3 := hv.fz 1) | (refine use_it (var_keep (((Var2.new _ _ _).keep hbc).keep hbb) hbd) ?_; rintro ⟨hv, hgc⟩; have hwg := var_at (k := w3.heap.size) hv (by first | exact Nat.le_refl _ | exact hka.size | exact hkb.size | exact hkc.size); have q0 := hv.c0; have q1 := hv.c1; have q2 := hv.fz 0; have q3 := hv.fz 1) | (refine use_it (var_keep (((Var2.new _ _ _).keep hbc).keep hba) hbd) ?_; rintro ⟨hv, hgc⟩; have hwg := var_at (k := w3.heap.size) hv (by first | exact Nat.le_refl _ | exact hka.size | exact hkb.size | exact hkc.size); have q0 := hv.c0; have q1 := hv.c1; have q2 := hv.fz 0; have q3 := hv.fz 1) | (refine use_it (var_keep (((Var2.new _ _ _).keep hbb).keep hbc) hbd) ?_; rintro ⟨hv, hgc⟩; have hwg := var_at (k := w3.heap.size) hv (by first | exact Nat.le_refl _ | exact hka.size | exact hkb.size | exact hkc.size); have q0 := hv.c0; have q1 := hv.c1; have q2 := hv.fz 0; have q3 := hv.fz 1) | (refine use_it (var_keep (((Var2.new _ _ _).keep hbb).keep hba) hbd) ?_; rintro ⟨hv, hgc⟩; have hwg := var_at (k := w3.heap.size) hv (by first | exact Nat.le_refl _ | exact hka.size | exact hkb.size | exact hkc.size); have q0 := hv.c0; have q1 := hv.c1; have q2 := hv.fz 0; have q3 := hv.fz 1) | (refine use_it (var_keep (((Var2.new _ _ _).keep hba).keep hbc) hbd) ?_; rintro ⟨hv, hgc⟩; have hwg := var_at (k := w3.heap.size) hv (by first | exact Nat.le_refl _ | exact hka.size | exact hkb.size | exact hkc.size); have q0 := hv.c0; have q1 := hv.c1; have q2 := hv.fz 0; have q3 := hv.fz 1) | (refine use_it (var_keep (((Var2.new _ _ _).keep hba).keep hbb) hbd) ?_; rintro ⟨hv, hgc⟩; have hwg := var_at (k := w3.heap.size) hv (by first | exact Nat.le_refl _ | exact hka.size | exact hkb.size | exact hkc.size); have q0 := hv.c0; have q1 := hv.c1; have q2 := hv.fz 0; have q3 := hv.fz 1) | (refine use_it (var_keep ((Var2.new _ _ _).keep hbc) hbd) ?_; rintro ⟨hv, hgc⟩; have hwg := var_at (k := w3.heap.size) hv (by first | exact Nat.le_refl _ | exact hka.size | exact hkb.size | exact hkc.size); have q0 := hv.c0; have q1 := hv.c1; have q2 := hv.fz 0; have q3 := hv.fz 1) | (refine use_it (var_keep ((Var2.new _ _ _).keep hbb) hbd) ?_; rintro ⟨hv, hgc⟩; have hwg := var_at (k := w3.heap.size) hv (by first | exact Nat.le_refl _ | exact hka.size | exact hkb.size | exact hkc.size); have q0 := hv.c0; have q1 := hv.c1; have q2 := hv.fz 0; have q3 := hv.fz 1) | (refine use_it (var_keep ((Var2.new _ _ _).keep hba) hbd) ?_; rintro ⟨hv, hgc⟩; have hwg := var_at (k := w3.heap.size) hv (by first | exact Nat.le_refl _ | exact hka.size | exact hkb.size | exact hkc.size); have q0 := hv.c0; have q1 := hv.c1; have q2 := hv.fz 0; have q3 := hv.fz 1) | (refine use_it (var_keep (Var2.new _ _ _) hbd) ?_; rintro ⟨hv, hgc⟩; have hwg := var_at (k := w3.heap.size) hv (by first | exact Nat.le_refl _ | exact hka.size | exact hkb.size | exact hkc.size); have q0 := hv.c0; have q1 := hv.c1; have q2 := hv.fz 0; have q3 := hv.fz 1) | skip))
          all_goals
            go_wp2_with fail
            go_meet
            case rel =>
              first
                | exact ⟨_, _, _, rfl, rfl, (reg_new hle hod hbel M _).1, (reg_new hle hod hbel M _).2.1, hbel.size, (reg_new hle hod hbel M _).2.2⟩
                | exact ⟨_, _, _, rfl, rfl, (reg_fin hwg hgc hv hod hbel M).1, (reg_fin hwg hgc hv hod hbel M).2.1, hwg, (reg_fin hwg hgc hv hod hbel M).2.2⟩
        case rest =>
          obtain ⟨w4, hwc⟩ : ∃ w9, w9 = wc := ⟨_, rfl⟩
          subst hwc
          obtain ⟨gW, AW, cW, rfl, rfl, ho, hx, hgg, hb⟩ := hcut
          clear Y0 Y1 Y2
          have hgW := Lib.hid hgg
          have B4 := Lib.hid (below_step B3.out hb)
          have Z4 := Lib.hid (Below.size hb)
          have W_4 := Lib.hid ho
          have Wb_4 := Lib.hid hx
          clear ho hx hb hgg
          obtain ⟨zp0, zq0⟩ := box_in X0.out B4.out
          go_wp2_with fail
          clear zp0 zq0
          refine (toPlane_any _ _ _ t0 _ u0 (HRA0.out.below B4.out)).mono ?_
          rintro e w5 ⟨sx0, rfl, ho, hb⟩
          obtain ⟨Ax0, cx0, rfl, _⟩ := ho.len
          have B5 := Lib.hid (below_step B4.out hb)
          have Z5 := Lib.hid (Below.size hb)
          have W_5 := Lib.hid (W_4.out.keep hb)
          have Wb_5 := Lib.hid (Wb_4.out.keep hb)
          have x0_5 := Lib.hid ho
          clear ho hb
          obtain ⟨w6, hV, hx, hb⟩ := start1 31 w5 m0 Ax0 t0.length cx0
          have B6 := Lib.hid (below_step B5.out hb)
          have Z6 := Lib.hid (Below.size hb)
          have W_6 := Lib.hid (W_5.out.keep hb)
          have Wb_6 := Lib.hid (Wb_5.out.keep hb)
          have x0_6 := Lib.hid (x0_5.out.keep (Below.mono hb (Nat.le_refl _)))
          have x0b_6 := Lib.hid hx
          have HV := Lib.hid hV
          clear hV hx hb
          obtain ⟨zp1, zq1⟩ := box_in X1.out B6.out
          rw [← HV.out] at zp1 zq1
          go_wp2_with fail
          rw [HV.out]
          clear HV
          clear zp1 zq1
          refine (toSeries_any _ _ _ l1 _ u1 (HRA1.out.below B6.out)).mono ?_
          rintro e w7 ⟨sx1, rfl, ho, hb⟩
          obtain ⟨Ax1, cx1, rfl, _⟩ := ho.form
          have B7 := Lib.hid (below_step B6.out hb)
          have Z7 := Lib.hid (Below.size hb)
          have W_7 := Lib.hid (W_6.out.keep hb)
          have Wb_7 := Lib.hid (Wb_6.out.keep hb)
          have x0_7 := Lib.hid (x0_6.out.keep (Below.mono hb Z6.out))
          have x0b_7 := Lib.hid (x0b_6.out.keep hb)
          have x1_7 := Lib.hid ho
          clear ho hb
          obtain ⟨w8, hV, hx, hb⟩ := start1 28 w7 m1 Ax1 l1.length cx1
          have B8 := Lib.hid (below_step B7.out hb)
          have Z8 := Lib.hid (Below.size hb)
          have W_8 := Lib.hid (W_7.out.keep hb)
          have Wb_8 := Lib.hid (Wb_7.out.keep hb)
          have x0_8 := Lib.hid (x0_7.out.keep (Below.mono hb (Nat.le_trans Z6.out Z7.out)))
          have x0b_8 := Lib.hid (x0b_7.out.keep hb)
          have x1_8 := Lib.hid (x1_7.out.keep hb)
          have x1b_8 := Lib.hid hx
          have HV := Lib.hid hV
          clear hV hx hb
          obtain ⟨zp2, zq2⟩ := box_in X2.out B8.out
          rw [← HV.out] at zp2 zq2
          go_wp2_with fail
          rw [HV.out]
          clear HV
          clear zp2 zq2
          refine (toSeries_any _ _ _ l2 _ u2 (HRA2.out.below B8.out)).mono ?_
          rintro e w9 ⟨sx2, rfl, ho, hb⟩
          obtain ⟨Ax2, cx2, rfl, _⟩ := ho.form
          have B9 := Lib.hid (below_step B8.out hb)
          have Z9 := Lib.hid (Below.size hb)
          have W_9 := Lib.hid (W_8.out.keep hb)
          have Wb_9 := Lib.hid (Wb_8.out.keep hb)
          have x0_9 := Lib.hid (x0_8.out.keep (Below.mono hb (Nat.le_trans Z6.out (Nat.le_trans Z7.out Z8.out))))
          have x0b_9 := Lib.hid (x0b_8.out.keep hb)
          have x1_9 := Lib.hid (x1_8.out.keep hb)
          have x1b_9 := Lib.hid (x1b_8.out.keep hb)
          have x2_9 := Lib.hid ho
          clear ho hb
          obtain ⟨w10, hV, hx, hb⟩ := start1 28 w9 m2 Ax2 l2.length cx2
          have B10 := Lib.hid (below_step B9.out hb)
          have Z10 := Lib.hid (Below.size hb)
          have W_10 := Lib.hid (W_9.out.keep hb)
          have Wb_10 := Lib.hid (Wb_9.out.keep hb)
          have x0_10 := Lib.hid (x0_9.out.keep (Below.mono hb (Nat.le_trans Z6.out (Nat.le_trans Z7.out (Nat.le_trans Z8.out Z9.out)))))
          have x0b_10 := Lib.hid (x0b_9.out.keep hb)
          have x1_10 := Lib.hid (x1_9.out.keep hb)
          have x1b_10 := Lib.hid (x1b_9.out.keep hb)
          have x2_10 := Lib.hid (x2_9.out.keep hb)
          have x2b_10 := Lib.hid hx
          have HV := Lib.hid hV
          clear hV hx hb
          obtain ⟨zx01, zx02, _⟩ := x0b_10.out
          obtain ⟨zx11, zx12, _⟩ := x1b_10.out
          rw [← HV.out] at zx01 zx02 zx11 zx12
          go_wp2_with fail
          rw [HV.out]
          clear HV
          clear zx01 zx02 zx11 zx12
          refine (HI.out _ _ _ _ _ _ _ x0_10.out.rp x1_10.out.ri x2_10.out.ri).mono ?_
          rintro e w11 ⟨sG, rfl, ho, hb⟩
          obtain ⟨AG, cG, rfl, _⟩ := ho.form
          have B11 := Lib.hid (below_step B10.out hb)
          have Z11 := Lib.hid (Below.size hb)
          have W_11 := Lib.hid (W_10.out.keep hb)
          have Wb_11 := Lib.hid (Wb_10.out.keep hb)
          have x0_11 := Lib.hid (x0_10.out.keep (Below.mono hb (Nat.le_trans Z6.out (Nat.le_trans Z7.out (Nat.le_trans Z8.out (Nat.le_trans Z9.out Z10.out))))))
          have x0b_11 := Lib.hid (x0b_10.out.keep hb)
          have x1_11 := Lib.hid (x1_10.out.keep hb)
          have x1b_11 := Lib.hid (x1b_10.out.keep hb)
          have x2_11 := Lib.hid (x2_10.out.keep hb)
          have x2b_11 := Lib.hid (x2b_10.out.keep hb)
          have G_11 := Lib.hid ho
          clear ho hb
          obtain ⟨w12, hV, hx, hb⟩ := start1 28 w11 M AG L.length cG
          have B12 := Lib.hid (below_step B11.out hb)
          have Z12 := Lib.hid (Below.size hb)
          have W_12 := Lib.hid (W_11.out.keep hb)
          have Wb_12 := Lib.hid (Wb_11.out.keep hb)
          have x0_12 := Lib.hid (x0_11.out.keep (Below.mono hb (Nat.le_trans Z6.out (Nat.le_trans Z7.out (Nat.le_trans Z8.out (Nat.le_trans Z9.out (Nat.le_trans Z10.out Z11.out)))))))
          have x0b_12 := Lib.hid (x0b_11.out.keep hb)
          have x1_12 := Lib.hid (x1_11.out.keep hb)
          have x1b_12 := Lib.hid (x1b_11.out.keep hb)
          have x2_12 := Lib.hid (x2_11.out.keep hb)
          have x2b_12 := Lib.hid (x2b_11.out.keep hb)
          have G_12 := Lib.hid (G_11.out.keep hb)
          have Gb_12 := Lib.hid hx
          have HV := Lib.hid hV
          clear hV hx hb
          obtain ⟨zW1, zW2, _⟩ := Wb_12.out
          rw [← HV.out] at zW1 zW2
          go_wp2_with fail
          rw [HV.out]
          clear HV
          clear zW1 zW2
          refine (eqSeries_any _ _ _ _ _ L _ (by omega) G_12.out.ri W_12.out.ri).mono ?_
          rintro e w13 ⟨rfl, hb⟩
          have B13 := Lib.hid (below_step B12.out hb)
          have Z13 := Lib.hid (Below.size hb)
          have W_13 := Lib.hid (W_12.out.keep hb)
          have Wb_13 := Lib.hid (Wb_12.out.keep hb)
          have x0_13 := Lib.hid (x0_12.out.keep (Below.mono hb (Nat.le_trans Z6.out (Nat.le_trans Z7.out (Nat.le_trans Z8.out (Nat.le_trans Z9.out (Nat.le_trans Z10.out (Nat.le_trans Z11.out Z12.out))))))))
          have x0b_13 := Lib.hid (x0b_12.out.keep hb)
          have x1_13 := Lib.hid (x1_12.out.keep hb)
          have x1b_13 := Lib.hid (x1b_12.out.keep hb)
          have x2_13 := Lib.hid (x2_12.out.keep hb)
          have x2b_13 := Lib.hid (x2b_12.out.keep hb)
          have G_13 := Lib.hid (G_12.out.keep hb)
          have Gb_13 := Lib.hid (Gb_12.out.keep hb)
          clear hb
          go_wp2
          go_region_held3 (fun w' => (w'.cell? ⟨w5.heap.size, 0, none⟩ = some (.int .i64 m0) ∧ w'.cell? ⟨w5.heap.size, 1, none⟩ = some (.slice Ax0 t0.length cx0) ∧ w5.heap.size < w'.heap.size) ∧ (w'.cell? ⟨w.heap.size, 0, none⟩ = some (.int .i64 m0) ∧ w'.cell? ⟨w.heap.size, 1, none⟩ = some (.slice A0 t0.length c0) ∧ w.heap.size < w'.heap.size)) (first | exact ⟨x0b_13.out.keep (below_drew0 _), (X0.out.keep B13.out).keep (below_drew0 _)⟩ | exact box22_call (by assumption) (by assumption)) (first
            | (go_at_call 20; refine (toPlane_any _ _ _ t0 _ u0 (HRA0.out.below (below_step B13.out (below_drew0 _)))).mono ?_; rintro e wq ⟨sy, rfl, ho, hb⟩; obtain ⟨Ay, cy, rfl, _⟩ := ho.len)
            | (go_at_call 23; refine (eqPlane_any _ _ _ _ _ _ _ t0 _ (by omega) (x0_13.out.keep (Below.mono (below_step (below_drew0 _) hb) (Nat.le_trans Z6.out (Nat.le_trans Z7.out (Nat.le_trans Z8.out (Nat.le_trans Z9.out (Nat.le_trans Z10.out (Nat.le_trans Z11.out (Nat.le_trans Z12.out Z13.out))))))))) ho (Nat.le_trans (Nat.le_trans Z6.out (Nat.le_trans Z7.out (Nat.le_trans Z8.out (Nat.le_trans Z9.out (Nat.le_trans Z10.out (Nat.le_trans Z11.out (Nat.le_trans Z12.out Z13.out))))))) (below_step (below_drew0 _) hb).size) (Nat.le_refl _)).mono ?_; rintro e w14 ⟨rfl, hb2⟩))
          have hb3 := below_step (below_step (below_drew0 w13) hb) hb2
          have B14 := Lib.hid (below_step B13.out hb3)
          have Z14 := Lib.hid (Below.size hb3)
          have W_14 := Lib.hid (W_13.out.keep hb3)
          have Wb_14 := Lib.hid (Wb_13.out.keep hb3)
          have x0_14 := Lib.hid (x0_13.out.keep (Below.mono hb3 (Nat.le_trans Z6.out (Nat.le_trans Z7.out (Nat.le_trans Z8.out (Nat.le_trans Z9.out (Nat.le_trans Z10.out (Nat.le_trans Z11.out (Nat.le_trans Z12.out Z13.out)))))))))
          have x0b_14 := Lib.hid (x0b_13.out.keep hb3)
          have x1_14 := Lib.hid (x1_13.out.keep hb3)
          have x1b_14 := Lib.hid (x1b_13.out.keep hb3)
          have x2_14 := Lib.hid (x2_13.out.keep hb3)
          have x2b_14 := Lib.hid (x2b_13.out.keep hb3)
          have G_14 := Lib.hid (G_13.out.keep hb3)
          have Gb_14 := Lib.hid (Gb_13.out.keep hb3)
          clear ho hb hb2 hb3
          go_wp2
          go_region_held3 (fun w' => (w'.cell? ⟨w7.heap.size, 0, none⟩ = some (.int .i64 m1) ∧ w'.cell? ⟨w7.heap.size, 1, none⟩ = some (.slice Ax1 l1.length cx1) ∧ w7.heap.size < w'.heap.size) ∧ (w'.cell? ⟨w.heap.size + 1, 0, none⟩ = some (.int .i64 m1) ∧ w'.cell? ⟨w.heap.size + 1, 1, none⟩ = some (.slice A1 l1.length c1) ∧ w.heap.size + 1 < w'.heap.size)) (first | exact ⟨x1b_14.out.keep (below_drew0 _), (X1.out.keep B14.out).keep (below_drew0 _)⟩ | exact box22_call (by assumption) (by assumption)) (first
            | (go_at_call 29; refine (toSeries_any _ _ _ l1 _ u1 (HRA1.out.below (below_step B14.out (below_drew0 _)))).mono ?_; rintro e wq ⟨sy, rfl, ho, hb⟩; obtain ⟨Ay, cy, rfl, _⟩ := ho.form)
            | (go_at_call 22; refine (eqSeries_any _ _ _ _ _ l1 _ (by omega) (x1_14.out.keep (below_step (below_drew0 _) hb)).ri ho.ri).mono ?_; rintro e w15 ⟨rfl, hb2⟩))
          have hb3 := below_step (below_step (below_drew0 w14) hb) hb2
          have B15 := Lib.hid (below_step B14.out hb3)
          have Z15 := Lib.hid (Below.size hb3)
          have W_15 := Lib.hid (W_14.out.keep hb3)
          have Wb_15 := Lib.hid (Wb_14.out.keep hb3)
          have x0_15 := Lib.hid (x0_14.out.keep (Below.mono hb3 (Nat.le_trans Z6.out (Nat.le_trans Z7.out (Nat.le_trans Z8.out (Nat.le_trans Z9.out (Nat.le_trans Z10.out (Nat.le_trans Z11.out (Nat.le_trans Z12.out (Nat.le_trans Z13.out Z14.out))))))))))
          have x0b_15 := Lib.hid (x0b_14.out.keep hb3)
          have x1_15 := Lib.hid (x1_14.out.keep hb3)
          have x1b_15 := Lib.hid (x1b_14.out.keep hb3)
          have x2_15 := Lib.hid (x2_14.out.keep hb3)
          have x2b_15 := Lib.hid (x2b_14.out.keep hb3)
          have G_15 := Lib.hid (G_14.out.keep hb3)
          have Gb_15 := Lib.hid (Gb_14.out.keep hb3)
          clear ho hb hb2 hb3
          go_wp2
          go_region_held3 (fun w' => (w'.cell? ⟨w9.heap.size, 0, none⟩ = some (.int .i64 m2) ∧ w'.cell? ⟨w9.heap.size, 1, none⟩ = some (.slice Ax2 l2.length cx2) ∧ w9.heap.size < w'.heap.size) ∧ (w'.cell? ⟨w.heap.size + 1 + 1, 0, none⟩ = some (.int .i64 m2) ∧ w'.cell? ⟨w.heap.size + 1 + 1, 1, none⟩ = some (.slice A2 l2.length c2) ∧ w.heap.size + 1 + 1 < w'.heap.size)) (first | exact ⟨x2b_15.out.keep (below_drew0 _), (X2.out.keep B15.out).keep (below_drew0 _)⟩ | exact box22_call (by assumption) (by assumption)) (first
            | (go_at_call 29; refine (toSeries_any _ _ _ l2 _ u2 (HRA2.out.below (below_step B15.out (below_drew0 _)))).mono ?_; rintro e wq ⟨sy, rfl, ho, hb⟩; obtain ⟨Ay, cy, rfl, _⟩ := ho.form)
            | (go_at_call 22; refine (eqSeries_any _ _ _ _ _ l2 _ (by omega) (x2_15.out.keep (below_step (below_drew0 _) hb)).ri ho.ri).mono ?_; rintro e w16 ⟨rfl, hb2⟩))
          have hb3 := below_step (below_step (below_drew0 w15) hb) hb2
          have B16 := Lib.hid (below_step B15.out hb3)
          have Z16 := Lib.hid (Below.size hb3)
          have W_16 := Lib.hid (W_15.out.keep hb3)
          have Wb_16 := Lib.hid (Wb_15.out.keep hb3)
          have x0_16 := Lib.hid (x0_15.out.keep (Below.mono hb3 (Nat.le_trans Z6.out (Nat.le_trans Z7.out (Nat.le_trans Z8.out (Nat.le_trans Z9.out (Nat.le_trans Z10.out (Nat.le_trans Z11.out (Nat.le_trans Z12.out (Nat.le_trans Z13.out (Nat.le_trans Z14.out Z15.out)))))))))))
          have x0b_16 := Lib.hid (x0b_15.out.keep hb3)
          have x1_16 := Lib.hid (x1_15.out.keep hb3)
          have x1b_16 := Lib.hid (x1b_15.out.keep hb3)
          have x2_16 := Lib.hid (x2_15.out.keep hb3)
          have x2b_16 := Lib.hid (x2b_15.out.keep hb3)
          have G_16 := Lib.hid (G_15.out.keep hb3)
          have Gb_16 := Lib.hid (Gb_15.out.keep hb3)
          clear ho hb hb2 hb3
          obtain ⟨zx01, zx02, _⟩ := x0b_16.out
          go_wp2_with fail
          clear zx01 zx02
          refine (markPlane_any m0 _ _ _ t0 _ _ (by omega) (by omega) (by omega) x0_16.out (Nat.le_trans Z6.out (Nat.le_trans Z7.out (Nat.le_trans Z8.out (Nat.le_trans Z9.out (Nat.le_trans Z10.out (Nat.le_trans Z11.out (Nat.le_trans Z12.out (Nat.le_trans Z13.out (Nat.le_trans Z14.out (Nat.le_trans Z15.out Z16.out))))))))))).mono ?_
          rintro e w17 ⟨rfl, ho, hs⟩
          have B17 := Lib.hid (B16.out.trans ((hs.below (Nat.le_trans Z5.out (Nat.le_trans Z6.out (Nat.le_trans Z7.out (Nat.le_trans Z8.out (Nat.le_trans Z9.out (Nat.le_trans Z10.out (Nat.le_trans Z11.out (Nat.le_trans Z12.out (Nat.le_trans Z13.out (Nat.le_trans Z14.out (Nat.le_trans Z15.out Z16.out)))))))))))).mono B4.out.size))
          have Z17 := Lib.hid hs.size
          have W_17 := Lib.hid (W_16.out.far hs (fun g h => .inl (Nat.lt_of_lt_of_le (W_4.out.lt g h).2 (Nat.le_refl _))))
          have Wb_17 := Lib.hid (Wb_16.out.span hs (.inl (Nat.lt_of_lt_of_le Wb_4.out.2.2 (Nat.le_refl _))))
          have x0b_17 := Lib.hid (x0b_16.out.span hs (.inr (Nat.le_refl _)))
          have x1_17 := Lib.hid (x1_16.out.far hs (fun g h => .inr (Nat.le_trans Z6.out (x1_7.out.lt g h).1)))
          have x1b_17 := Lib.hid (x1b_16.out.span hs (.inr (Nat.le_trans Z6.out Z7.out)))
          have x2_17 := Lib.hid (x2_16.out.far hs (fun g h => .inr (Nat.le_trans (Nat.le_trans Z6.out (Nat.le_trans Z7.out Z8.out)) (x2_9.out.lt g h).1)))
          have x2b_17 := Lib.hid (x2b_16.out.span hs (.inr (Nat.le_trans Z6.out (Nat.le_trans Z7.out (Nat.le_trans Z8.out Z9.out)))))
          have G_17 := Lib.hid (G_16.out.far hs (fun g h => .inr (Nat.le_trans (Nat.le_trans Z6.out (Nat.le_trans Z7.out (Nat.le_trans Z8.out (Nat.le_trans Z9.out Z10.out)))) (G_11.out.lt g h).1)))
          have Gb_17 := Lib.hid (Gb_16.out.span hs (.inr (Nat.le_trans Z6.out (Nat.le_trans Z7.out (Nat.le_trans Z8.out (Nat.le_trans Z9.out (Nat.le_trans Z10.out Z11.out)))))))
          have x0_17 := Lib.hid ho
          clear ho hs
          obtain ⟨zx11, zx12, _⟩ := x1b_17.out
          go_wp2_with fail
          clear zx11 zx12
          refine (markSeries_any m1 _ _ l1 _ _ (by omega) (by omega) (by omega) x1_17.out).mono ?_
          rintro e w18 ⟨rfl, ho, hg⟩
          have hs : Span w6.heap.size w7.heap.size w17 w18 := Span.of_grown hg (fun g h => ⟨(x1_7.out.lt g h).1, (x1_7.out.lt g h).2⟩)
          clear hg
          have B18 := Lib.hid (B17.out.trans ((hs.below (Nat.le_trans Z7.out (Nat.le_trans Z8.out (Nat.le_trans Z9.out (Nat.le_trans Z10.out (Nat.le_trans Z11.out (Nat.le_trans Z12.out (Nat.le_trans Z13.out (Nat.le_trans Z14.out (Nat.le_trans Z15.out (Nat.le_trans Z16.out Z17.out))))))))))).mono B6.out.size))
          have Z18 := Lib.hid hs.size
          have W_18 := Lib.hid (W_17.out.far hs (fun g h => .inl (Nat.lt_of_lt_of_le (W_4.out.lt g h).2 (Nat.le_trans Z5.out Z6.out))))
          have Wb_18 := Lib.hid (Wb_17.out.span hs (.inl (Nat.lt_of_lt_of_le Wb_4.out.2.2 (Nat.le_trans Z5.out Z6.out))))
          have x0_18 := Lib.hid (x0_17.out.far hs (.inl Z6.out))
          have x0b_18 := Lib.hid (x0b_17.out.span hs (.inl (Nat.lt_of_lt_of_le x0b_6.out.2.2 (Nat.le_refl _))))
          have x1b_18 := Lib.hid (x1b_17.out.span hs (.inr (Nat.le_refl _)))
          have x2_18 := Lib.hid (x2_17.out.far hs (fun g h => .inr (Nat.le_trans Z8.out (x2_9.out.lt g h).1)))
          have x2b_18 := Lib.hid (x2b_17.out.span hs (.inr (Nat.le_trans Z8.out Z9.out)))
          have G_18 := Lib.hid (G_17.out.far hs (fun g h => .inr (Nat.le_trans (Nat.le_trans Z8.out (Nat.le_trans Z9.out Z10.out)) (G_11.out.lt g h).1)))
          have Gb_18 := Lib.hid (Gb_17.out.span hs (.inr (Nat.le_trans Z8.out (Nat.le_trans Z9.out (Nat.le_trans Z10.out Z11.out)))))
          have x1_18 := Lib.hid ho
          clear ho hs
          obtain ⟨zx21, zx22, _⟩ := x2b_18.out
          go_wp2_with fail
          clear zx21 zx22
          refine (markSeries_any m2 _ _ l2 _ _ (by omega) (by omega) (by omega) x2_18.out).mono ?_
          rintro e w19 ⟨rfl, ho, hg⟩
          have hs : Span w8.heap.size w9.heap.size w18 w19 := Span.of_grown hg (fun g h => ⟨(x2_9.out.lt g h).1, (x2_9.out.lt g h).2⟩)
          clear hg
          have B19 := Lib.hid (B18.out.trans ((hs.below (Nat.le_trans Z9.out (Nat.le_trans Z10.out (Nat.le_trans Z11.out (Nat.le_trans Z12.out (Nat.le_trans Z13.out (Nat.le_trans Z14.out (Nat.le_trans Z15.out (Nat.le_trans Z16.out (Nat.le_trans Z17.out Z18.out)))))))))).mono B8.out.size))
          have Z19 := Lib.hid hs.size
          have W_19 := Lib.hid (W_18.out.far hs (fun g h => .inl (Nat.lt_of_lt_of_le (W_4.out.lt g h).2 (Nat.le_trans Z5.out (Nat.le_trans Z6.out (Nat.le_trans Z7.out Z8.out))))))
          have Wb_19 := Lib.hid (Wb_18.out.span hs (.inl (Nat.lt_of_lt_of_le Wb_4.out.2.2 (Nat.le_trans Z5.out (Nat.le_trans Z6.out (Nat.le_trans Z7.out Z8.out))))))
          have x0_19 := Lib.hid (x0_18.out.far hs (.inl (Nat.le_trans Z6.out (Nat.le_trans Z7.out Z8.out))))
          have x0b_19 := Lib.hid (x0b_18.out.span hs (.inl (Nat.lt_of_lt_of_le x0b_6.out.2.2 (Nat.le_trans Z7.out Z8.out))))
          have x1_19 := Lib.hid (x1_18.out.far hs (fun g h => .inl (Nat.lt_of_lt_of_le (x1_7.out.lt g h).2 Z8.out)))
          have x1b_19 := Lib.hid (x1b_18.out.span hs (.inl (Nat.lt_of_lt_of_le x1b_8.out.2.2 (Nat.le_refl _))))
          have x2b_19 := Lib.hid (x2b_18.out.span hs (.inr (Nat.le_refl _)))
          have G_19 := Lib.hid (G_18.out.far hs (fun g h => .inr (Nat.le_trans Z10.out (G_11.out.lt g h).1)))
          have Gb_19 := Lib.hid (Gb_18.out.span hs (.inr (Nat.le_trans Z10.out Z11.out)))
          have x2_19 := Lib.hid ho
          clear ho hs
          obtain ⟨zG1, zG2, _⟩ := Gb_19.out
          obtain ⟨zW1, zW2, _⟩ := Wb_19.out
          go_wp2_with fail
          clear zG1 zG2 zW1 zW2
          refine (eqSeries_any _ _ _ _ _ L _ (by omega) G_19.out.ri W_19.out.ri).mono ?_
          rintro e w20 ⟨rfl, hb⟩
          have B20 := Lib.hid (below_step B19.out hb)
          have Z20 := Lib.hid (Below.size hb)
          have W_20 := Lib.hid (W_19.out.keep hb)
          have Wb_20 := Lib.hid (Wb_19.out.keep hb)
          have G_20 := Lib.hid (G_19.out.keep hb)
          have Gb_20 := Lib.hid (Gb_19.out.keep hb)
          clear hb
          obtain ⟨zG1, zG2, _⟩ := Gb_20.out
          go_wp2_with fail
          clear zG1 zG2
          refine (markSeries_any M _ _ L _ _ (by omega) (by omega) (by omega) G_20.out).mono ?_
          rintro e w21 ⟨rfl, ho, hg⟩
          have hs : Span w10.heap.size w11.heap.size w20 w21 := Span.of_grown hg (fun g h => ⟨(G_11.out.lt g h).1, (G_11.out.lt g h).2⟩)
          clear hg
          have B21 := Lib.hid (B20.out.trans ((hs.below (Nat.le_trans Z11.out (Nat.le_trans Z12.out (Nat.le_trans Z13.out (Nat.le_trans Z14.out (Nat.le_trans Z15.out (Nat.le_trans Z16.out (Nat.le_trans Z17.out (Nat.le_trans Z18.out (Nat.le_trans Z19.out Z20.out)))))))))).mono B10.out.size))
          have Z21 := Lib.hid hs.size
          have W_21 := Lib.hid (W_20.out.far hs (fun g h => .inl (Nat.lt_of_lt_of_le (W_4.out.lt g h).2 (Nat.le_trans Z5.out (Nat.le_trans Z6.out (Nat.le_trans Z7.out (Nat.le_trans Z8.out (Nat.le_trans Z9.out Z10.out))))))))
          have Wb_21 := Lib.hid (Wb_20.out.span hs (.inl (Nat.lt_of_lt_of_le Wb_4.out.2.2 (Nat.le_trans Z5.out (Nat.le_trans Z6.out (Nat.le_trans Z7.out (Nat.le_trans Z8.out (Nat.le_trans Z9.out Z10.out))))))))
          have Gb_21 := Lib.hid (Gb_20.out.span hs (.inr (Nat.le_refl _)))
          have G_21 := Lib.hid ho
          clear ho hs
          obtain ⟨zG1, zG2, _⟩ := Gb_21.out
          go_wp2_with fail
          clear zG1 zG2
          refine (heldSeries_any _ _ _ L.length 1 _ (by omega) (by omega) (by omega) G_21.out.ri).mono ?_
          rintro e w22 ⟨rfl, hb⟩
          have B22 := Lib.hid (below_step B21.out hb)
          have Z22 := Lib.hid (Below.size hb)
          have W_22 := Lib.hid (W_21.out.keep hb)
          have Wb_22 := Lib.hid (Wb_21.out.keep hb)
          have G_22 := Lib.hid (G_21.out.keep hb)
          have Gb_22 := Lib.hid (Gb_21.out.keep hb)
          clear hb
          have Y0 := Lib.hid (X0.out.keep B22.out)
          have Y1 := Lib.hid (X1.out.keep B22.out)
          have Y2 := Lib.hid (X2.out.keep B22.out)
          go_upto_region 38 with fail
          go_cut [18, 19] (fun s6 s7 wx => ∃ g A c, s6 = .pointer (some ⟨g, 0, none⟩) ∧ s7 = .int .i64 C ∧ OwnI wx w22.heap.size (.slice A L.length c) L ∧ Box wx g M A L.length c ∧ w22.heap.size ≤ g ∧ Below w22.heap.size w22 wx)
          case first =>
            go_region_held3 (fun w' => (w'.cell? ⟨w.heap.size, 0, none⟩ = some (.int .i64 m0) ∧ w'.cell? ⟨w.heap.size, 1, none⟩ = some (.slice A0 t0.length c0)) ∧ (w'.cell? ⟨w.heap.size + 1, 0, none⟩ = some (.int .i64 m1) ∧ w'.cell? ⟨w.heap.size + 1, 1, none⟩ = some (.slice A1 l1.length c1)) ∧ (w'.cell? ⟨w.heap.size + 1 + 1, 0, none⟩ = some (.int .i64 m2) ∧ w'.cell? ⟨w.heap.size + 1 + 1, 1, none⟩ = some (.slice A2 l2.length c2)) ∧ Below w22.heap.size w22 w') (first | exact box3_in Y0.out Y1.out Y2.out (below_drew0 _) | exact box3_in Y0.out Y1.out Y2.out hka | exact box3_in Y0.out Y1.out Y2.out hkb | exact box3_in Y0.out Y1.out Y2.out hkc | exact box3_in Y0.out Y1.out Y2.out hbel | exact box3_alloc Y0.out Y1.out Y2.out (by assumption) | exact box3_in Y0.out Y1.out Y2.out (below_alloc _ hbel) | exact box3_in Y0.out Y1.out Y2.out (reg_fin hwg hgc hv hod hbel M).2.2) (first
              | (go_at_call 20; with_reducible refine Calls.mono (toPlane_any m0 A0 c0 t0 _ u0 (HRA0.out.below (below_step B22.out (frth (by assumption))))) ?_; rintro e wa ⟨sa, rfl, hoa, hba⟩; obtain ⟨Aa, ca, rfl, _⟩ := hoa.len; obtain ⟨hka, _⟩ := reg_end3 (by assumption) hba)
              | (go_at_call 29; with_reducible refine Calls.mono (toSeries_any m1 A1 c1 l1 _ u1 (HRA1.out.below (below_step B22.out (frth (by assumption))))) ?_; rintro e wb ⟨sb, rfl, hob, hbb⟩; obtain ⟨Ab, cb, rfl, _⟩ := hob.form; obtain ⟨hkb, _⟩ := reg_end3 (by assumption) hbb)
              | (go_at_call 29; with_reducible refine Calls.mono (toSeries_any m2 A2 c2 l2 _ u2 (HRA2.out.below (below_step B22.out (frth (by assumption))))) ?_; rintro e wc ⟨sc, rfl, hoc, hbc⟩; obtain ⟨Ac, cc, rfl, _⟩ := hoc.form; obtain ⟨hkc, _⟩ := reg_end3 (by assumption) hbc)
              | (with_reducible refine Calls.mono (HI.out _ _ _ _ _ _ _ (by first | exact hoa.rp | exact (hoa.rp.below (below_one _ _)) | exact (hoa.rp.below hbb) | exact (hoa.rp.below (below_step (below_one _ _) hbb)) | exact ((hoa.rp.below hbb).below (below_one _ _)) | exact (hoa.rp.below hbc) | exact (hoa.rp.below (below_step (below_one _ _) hbc)) | exact ((hoa.rp.below hbc).below (below_one _ _)) | exact ((hoa.rp.below hbb).below hbc) | exact ((hoa.rp.below (below_step (below_one _ _) hbb)).below hbc) | exact ((hoa.rp.below hbb).below (below_step (below_one _ _) hbc)) | exact (((hoa.rp.below hbb).below hbc).below (below_one _ _)) | exact ((hoa.rp.below hbc).below hbb) | exact ((hoa.rp.below (below_step (below_one _ _) hbc)).below hbb) | exact ((hoa.rp.below hbc).below (below_step (below_one _ _) hbb)) | exact (((hoa.rp.below hbc).below hbb).below (below_one _ _))) (by first | exact hob.ri | exact (hob.ri.below (below_one _ _)) | exact (hob.ri.below hba) | exact (hob.ri.below (below_step (below_one _ _) hba)) | exact ((hob.ri.below hba).below (below_one _ _)) | exact (hob.ri.below hbc) | exact (hob.ri.below (below_step (below_one _ _) hbc)) | exact ((hob.ri.below hbc).below (below_one _ _)) | exact ((hob.ri.below hba).below hbc) | exact ((hob.ri.below (below_step (below_one _ _) hba)).below hbc) | exact ((hob.ri.below hba).below (below_step (below_one _ _) hbc)) | exact (((hob.ri.below hba).below hbc).below (below_one _ _)) | exact ((hob.ri.below hbc).below hba) | exact ((hob.ri.below (below_step (below_one _ _) hbc)).below hba) | exact ((hob.ri.below hbc).below (below_step (below_one _ _) hba)) | exact (((hob.ri.below hbc).below hba).below (below_one _ _))) (by first | exact hoc.ri | exact (hoc.ri.below (below_one _ _)) | exact (hoc.ri.below hba) | exact (hoc.ri.below (below_step (below_one _ _) hba)) | exact ((hoc.ri.below hba).below (below_one _ _)) | exact (hoc.ri.below hbb) | exact (hoc.ri.below (below_step (below_one _ _) hbb)) | exact ((hoc.ri.below hbb).below (below_one _ _)) | exact ((hoc.ri.below hba).below hbb) | exact ((hoc.ri.below (below_step (below_one _ _) hba)).below hbb) | exact ((hoc.ri.below hba).below (below_step (below_one _ _) hbb)) | exact (((hoc.ri.below hba).below hbb).below (below_one _ _)) | exact ((hoc.ri.below hbb).below hba) | exact ((hoc.ri.below (below_step (below_one _ _) hbb)).below hba) | exact ((hoc.ri.below hbb).below (below_step (below_one _ _) hba)) | exact (((hoc.ri.below hbb).below hba).below (below_one _ _)))) ?_; rintro e wd ⟨sd, rfl, hod, hbd⟩; obtain ⟨Ad, cd, rfl, _⟩ := hod.form; obtain ⟨hbel, hle⟩ := reg_end3 (by assumption) hbd; first | (refine use_it (var_keep (((((Var2.new w22 _ _).drew).keep hbc).keep hbb).keep hba) hbd) ?_; rintro ⟨hv, hgc⟩; have hwg := var_at (k := w22.heap.size) hv (by first | exact Nat.le_refl _ | exact hka.size | exact hkb.size | exact hkc.size); have q0 := hv.c0; have q1 := hv.c1; have q2 := hv.fz 0; have q3 := hv.fz 1) | (refine use_it (var_keep (((((Var2.new w22 _ _).drew).keep hbc).keep hba).keep hbb) hbd) ?_; rintro ⟨hv, hgc⟩; have hwg := var_at (k := w22.heap.size) hv (by first | exact Nat.le_refl _ | exact hka.size | exact hkb.size | exact hkc.size); have q0 := hv.c0; have q1 := hv.c1; have q2 := hv.fz 0; have q3 := hv.fz 1) | (refine use_it (var_keep (((((Var2.new w22 _ _).drew).keep hbb).keep hbc).keep hba) hbd) ?_; rintro ⟨hv, hgc⟩; have hwg := var_at (k := w22.heap.size) hv (by first | exact Nat.le_refl _ | exact hka.size | exact hkb.size | exact hkc.size); have q0 := hv.c0; have q1 := hv.c1; have q2 := hv.fz 0; have q3 := hv.fz 1) | (refine use_it (var_keep (((((Var2.new w22 _ _).drew).keep hbb).keep hba).keep hbc) hbd) ?_; rintro ⟨hv, hgc⟩; have hwg := var_at (k := w22.heap.size) hv (by first | exact Nat.le_refl _ | exact hka.size | exact hkb.size | exact hkc.size); have q0 := hv.c0; have q1 := hv.c1; have q2 := hv.fz 0; have q3 := hv.fz 1) | (refine use_it (var_keep (((((Var2.new w22 _ _).drew).keep hba).keep hbc).keep hbb) hbd) ?_; rintro ⟨hv, hgc⟩; have hwg := var_at (k := w22.heap.size) hv (by first | exact Nat.le_refl _ | exact hka.size | exact hkb.size | exact hkc.size); have q0 := hv.c0; have q1 := hv.c1; have q2 := hv.fz 0; have q3 := hv.fz 1) | (refine use_it (var_keep (((((Var2.new w22 _ _).drew).keep hba).keep hbb).keep hbc) hbd) ?_; rintro ⟨hv, hgc⟩; have hwg := var_at (k := w22.heap.size) hv (by first | exact Nat.le_refl _ | exact hka.size | exact hkb.size | exact hkc.size); have q0 := hv.c0; have q1 := hv.c1; have q2 := hv.fz 0; have q3 := hv.fz 1) | (refine use_it (var_keep (((Var2.new _ _ _).keep hbc).keep hbb) hbd) ?_; rintro ⟨hv, hgc⟩; have hwg := var_at (k := w22.heap.size) hv (by first | exact Nat.le_refl _ | exact hka.size | exact hkb.size | exact hkc.size); have q0 := hv.c0; have q1 := hv.c1; have q2 := hv.fz 0; have q3 := hv.fz 1) | (refine use_it (var_keep (((Var2.new _ _ _).keep hbc).keep hba) hbd) ?_; rintro ⟨hv, hgc⟩; have hwg := var_at (k := w22.heap.size) hv (by first | exact Nat.le_refl _ | exact hka.size | exact hkb.size | exact hkc.size); have q0 := hv.c0; have q1 := hv.c1; have q2 := hv.fz 0; have q3 := hv.fz 1) | (refine use_it (var_keep (((Var2.new _ _ _).keep hbb).keep hbc) hbd) ?_; rintro ⟨hv, hgc⟩; have hwg := var_at (k := w22.heap.size) hv (by first | exact Nat.le_refl _ | exact hka.size | exact hkb.size | exact hkc.size); have q0 := hv.c0; have q1 := hv.c1; have q2 := hv.fz 0; have q3 := hv.fz 1) | (refine use_it (var_keep (((Var2.new _ _ _).keep hbb).keep hba) hbd) ?_; rintro ⟨hv, hgc⟩; have hwg := var_at (k := w22.heap.size) hv (by first | exact Nat.le_refl _ | exact hka.size | exact hkb.size | exact hkc.size); have q0 := hv.c0; have q1 := hv.c1; have q2 := hv.fz 0; have q3 := hv.fz 1) | (refine use_it (var_keep (((Var2.new _ _ _).keep hba).keep hbc) hbd) ?_; rintro ⟨hv, hgc⟩; have hwg := var_at (k := w22.heap.size) hv (by first | exact Nat.le_refl _ | exact hka.size | exact hkb.size | exact hkc.size); have q0 := hv.c0; have q1 := hv.c1; have q2 := hv.fz 0; have q3 := hv.fz 1) | (refine use_it (var_keep (((Var2.new _ _ _).keep hba).keep hbb) hbd) ?_; rintro ⟨hv, hgc⟩; have hwg := var_at (k := w22.heap.size) hv (by first | exact Nat.le_refl _ | exact hka.size | exact hkb.size | exact hkc.size); have q0 := hv.c0; have q1 := hv.c1; have q2 := hv.fz 0; have q3 := hv.fz 1) | (refine use_it (var_keep ((Var2.new _ _ _).keep hbc) hbd) ?_; rintro ⟨hv, hgc⟩; have hwg := var_at (k := w22.heap.size) hv (by first | exact Nat.le_refl _ | exact hka.size | exact hkb.size | exact hkc.size); have q0 := hv.c0; have q1 := hv.c1; have q2 := hv.fz 0; have q3 := hv.fz 1) | (refine use_it (var_keep ((Var2.new _ _ _).keep hbb) hbd) ?_; rintro ⟨hv, hgc⟩; have hwg := var_at (k := w22.heap.size) hv (by first | exact Nat.le_refl _ | exact hka.size | exact hkb.size | exact hkc.size); have q0 := hv.c0; have q1 := hv.c1; have q2 := hv.fz 0; have q3 := hv.fz 1) | (refine use_it (var_keep ((Var2.new _ _ _).keep hba) hbd) ?_; rintro ⟨hv, hgc⟩; have hwg := var_at (k := w22.heap.size) hv (by first | exact Nat.le_refl _ | exact hka.size | exact hkb.size | exact hkc.size); have q0 := hv.c0; have q1 := hv.c1; have q2 := hv.fz 0; have q3 := hv.fz 1) | (refine use_it (var_keep (Var2.new _ _ _) hbd) ?_; rintro ⟨hv, hgc⟩; have hwg := var_at (k := w22.heap.size) hv (by first | exact Nat.le_refl _ | exact hka.size | exact hkb.size | exact hkc.size); have q0 := hv.c0; have q1 := hv.c1; have q2 := hv.fz 0; have q3 := hv.fz 1) | skip))
            all_goals
              go_wp2_with fail
              go_meet
              case rel =>
                first
                  | exact ⟨_, _, _, rfl, rfl, (reg_new hle hod hbel M _).1, (reg_new hle hod hbel M _).2.1, hbel.size, (reg_new hle hod hbel M _).2.2⟩
                  | exact ⟨_, _, _, rfl, rfl, (reg_fin hwg hgc hv hod hbel M).1, (reg_fin hwg hgc hv hod hbel M).2.1, hwg, (reg_fin hwg hgc hv hod hbel M).2.2⟩
          case rest =>
            obtain ⟨w23, hwc⟩ : ∃ w9, w9 = wc := ⟨_, rfl⟩
            subst hwc
            obtain ⟨gH, AH, cH, rfl, rfl, ho, hx, hgg, hb⟩ := hcut
            clear Y0 Y1 Y2
            have hgH := Lib.hid hgg
            have B23 := Lib.hid (below_step B22.out hb)
            have Z23 := Lib.hid (Below.size hb)
            have W_23 := Lib.hid (W_22.out.keep hb)
            have Wb_23 := Lib.hid (Wb_22.out.keep hb)
            have G_23 := Lib.hid (G_22.out.keep hb)
            have Gb_23 := Lib.hid (Gb_22.out.keep hb)
            have H_23 := Lib.hid ho
            have Hb_23 := Lib.hid hx
            clear ho hx hb hgg
            obtain ⟨zH1, zH2, _⟩ := Hb_23.out
            obtain ⟨zW1, zW2, _⟩ := Wb_23.out
            go_wp2_with fail
            clear zH1 zH2 zW1 zW2
            refine (eqSeries_any _ _ _ _ _ L _ (by omega) H_23.out.ri W_23.out.ri).mono ?_
            rintro e w24 ⟨rfl, hb⟩
            have B24 := Lib.hid (below_step B23.out hb)
            have Z24 := Lib.hid (Below.size hb)
            have W_24 := Lib.hid (W_23.out.keep hb)
            have Wb_24 := Lib.hid (Wb_23.out.keep hb)
            have G_24 := Lib.hid (G_23.out.keep hb)
            have Gb_24 := Lib.hid (Gb_23.out.keep hb)
            have H_24 := Lib.hid (H_23.out.keep hb)
            have Hb_24 := Lib.hid (Hb_23.out.keep hb)
            clear hb
            obtain ⟨zG1, zG2, _⟩ := Gb_24.out
            go_wp2_with fail
            clear zG1 zG2
            refine (heldSeries_any _ _ _ L.length 1 _ (by omega) (by omega) (by omega) G_24.out.ri).mono ?_
            rintro e w25 ⟨rfl, hb⟩
            have B25 := Lib.hid (below_step B24.out hb)
            have Z25 := Lib.hid (Below.size hb)
            have G_25 := Lib.hid (G_24.out.keep hb)
            have Gb_25 := Lib.hid (Gb_24.out.keep hb)
            clear hb
            go_wp2
            go_ret
            exact ⟨rfl, below_step HB.out B25.out⟩
      · skip
        obtain ⟨W, hW, x0, x1, x2, hwb⟩ := startB3 24 38 38 w m0 A0 t0.length c0 m1 A1 l1.length c1 m2 A2 l2.length c2
        have X0 := Lib.hid x0
        have X1 := Lib.hid x1
        have X2 := Lib.hid x2
        have HW := Lib.hid hW
        have HB := Lib.hid hwb
        have HRA0 := Lib.hid (RQ.below ra0 hwb)
        have HRA1 := Lib.hid (RA.below ra1 hwb)
        have HRA2 := Lib.hid (RA.below ra2 hwb)
        have B0 := Lib.hid (Below.refl W.heap.size W)
        clear hW hwb x0 ra0 x1 ra1 x2 ra2
        go_enter Try.func6, Try.ntmps6
        go_wp2_with fail
        rw [HW.out]
        refine (szPlane_ok _ _ _ _ _ _ (by omega) (by omega) (HRA0.out.below B0.out)).mono ?_
        rintro e w1 ⟨rfl, hb⟩
        have B1 := Lib.hid (below_step B0.out hb)
        have Z1 := Lib.hid (Below.size hb)
        clear hb
        obtain ⟨zp1, zq1⟩ := box_in X1.out B1.out
        go_wp2_with fail
        clear zp1 zq1
        refine (szSeries_ok _ _ _ _ _ _ (by omega) (by omega)).mono ?_
        rintro e w2 ⟨rfl, hb⟩
        have B2 := Lib.hid (below_step B1.out hb)
        have Z2 := Lib.hid (Below.size hb)
        clear hb
        obtain ⟨zp2, zq2⟩ := box_in X2.out B2.out
        go_wp2_with fail
        clear zp2 zq2
        refine (szSeries_no _ _ _ _ _ _ (by omega) (by omega) (by omega) (by omega)).mono ?_
        rintro e w3 ⟨rfl, hb⟩
        have B3 := Lib.hid (below_step B2.out hb)
        have Z3 := Lib.hid (Below.size hb)
        clear hb
        go_wp2
        go_ret
        exact ⟨rfl, below_step HB.out B3.out⟩
    · skip
      obtain ⟨W, hW, x0, x1, x2, hwb⟩ := startB3 24 38 38 w m0 A0 t0.length c0 m1 A1 l1.length c1 m2 A2 l2.length c2
      have X0 := Lib.hid x0
      have X1 := Lib.hid x1
      have X2 := Lib.hid x2
      have HW := Lib.hid hW
      have HB := Lib.hid hwb
      have HRA0 := Lib.hid (RQ.below ra0 hwb)
      have HRA1 := Lib.hid (RA.below ra1 hwb)
      have HRA2 := Lib.hid (RA.below ra2 hwb)
      have B0 := Lib.hid (Below.refl W.heap.size W)
      clear hW hwb x0 ra0 x1 ra1 x2 ra2
      go_enter Try.func6, Try.ntmps6
      go_wp2_with fail
      rw [HW.out]
      refine (szPlane_ok _ _ _ _ _ _ (by omega) (by omega) (HRA0.out.below B0.out)).mono ?_
      rintro e w1 ⟨rfl, hb⟩
      have B1 := Lib.hid (below_step B0.out hb)
      have Z1 := Lib.hid (Below.size hb)
      clear hb
      obtain ⟨zp1, zq1⟩ := box_in X1.out B1.out
      go_wp2_with fail
      clear zp1 zq1
      refine (szSeries_no _ _ _ _ _ _ (by omega) (by omega) (by omega) (by omega)).mono ?_
      rintro e w2 ⟨rfl, hb⟩
      have B2 := Lib.hid (below_step B1.out hb)
      have Z2 := Lib.hid (Below.size hb)
      clear hb
      go_wp2
      go_ret
      exact ⟨rfl, below_step HB.out B2.out⟩
  · skip
    obtain ⟨W, hW, x0, x1, x2, hwb⟩ := startB3 24 38 38 w m0 A0 t0.length c0 m1 A1 l1.length c1 m2 A2 l2.length c2
    have X0 := Lib.hid x0
    have X1 := Lib.hid x1
    have X2 := Lib.hid x2
    have HW := Lib.hid hW
    have HB := Lib.hid hwb
    have HRA0 := Lib.hid (RQ.below ra0 hwb)
    have HRA1 := Lib.hid (RA.below ra1 hwb)
    have HRA2 := Lib.hid (RA.below ra2 hwb)
    have B0 := Lib.hid (Below.refl W.heap.size W)
    clear hW hwb x0 ra0 x1 ra1 x2 ra2
    go_enter Try.func6, Try.ntmps6
    go_wp2_with fail
    rw [HW.out]
    refine (szPlane_no _ _ _ _ _ _ (by omega) (by omega) (by omega) (HRA0.out.below B0.out) hm0.1 hm0.2).mono ?_
    rintro e w1 ⟨rfl, hb⟩
    have B1 := Lib.hid (below_step B0.out hb)
    have Z1 := Lib.hid (Below.size hb)
    clear hb
    go_wp2
    go_ret
    exact ⟨rfl, below_step HB.out B1.out⟩
end Go.Proofs.Ytpmbojbdppbkgaa.fnExactDifferenceUnder
