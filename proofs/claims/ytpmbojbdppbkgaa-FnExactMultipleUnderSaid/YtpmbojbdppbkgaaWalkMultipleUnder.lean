/- MultipleUnder answers as its model at all arguments, leaves them alone, and owns its answer. No conditions. The frame follows the one that the kit prints for a law. -/
import Derived.Test.YtpmbojbdppbkgaaRows
import Derived.Test.YtpmbojbdppbkgaaMgas
import Derived.Test.YtpmbojbdppbkgaaMgaa
import Derived.Test.YtpmbojbdppbkgaaMgaq
import Derived.WalkKit
import Derived.ProofKit
import Derived.OpenShut
import Derived.ShutString
import Derived.ChangeOld
import Derived.Below
import Derived.Deep.DeepCutAuto
namespace Go.Proofs.Ytpmbojbdppbkgaa.fnExactMultipleUnder
open Go.ChangeShapes Go.WideShapes Go.ChangeAt Go.RowKit
set_option linter.unusedVariables false

set_option maxHeartbeats 32000000 in
set_option maxRecDepth 100000 in
theorem walk (m0 : Int) (A0 : Option Addr) (c0 : Nat) (t0 : List (List Int)) (k1 : Int) (m2 : Int) (A2 : Option Addr) (c2 : Nat) (l2 : List Int) (w : World) (hm0 : t0.length ≤ 9223372036854775807 ∧ ∀ k, (Pl.rw' t0 k).length ≤ 9223372036854775807) (ra0 : RQ w A0 t0) (hm2 : l2.length ≤ maxLen) (ra2 : RA w A2 l2) :
    Calls Try.prog 7 #[.agg #[.int .i64 m0, .slice A0 t0.length c0], .int .i64 k1, .agg #[.int .i64 m2, .slice A2 l2.length c2]] w fun e w' => e = .returned (.bool true) ∧ Below w.heap.size w w' := by
  unfold maxLen at hm2
  by_cases h0 : ((szT t0 : Nat) : Int) ≤ 1048576
  · have u0 : szT t0 ≤ 1048576 := by omega
    have v0 : tot t0 ≤ 1048576 := by unfold szT at u0; omega
    by_cases h2 : (l2.length : Int) ≤ 1048576 - ((szT t0 : Nat) : Int)
    · have u2 : l2.length ≤ 1048576 := by omega
      obtain ⟨M, L, C, hMLC⟩ : ∃ M L C, mulUL m0 t0 k1 m2 l2 = (M, L, C) := ⟨_, _, _, rfl⟩
      have hL : L.length ≤ 1048576 := by have := mulUL_len m0 t0 k1 m2 l2; rw [hMLC] at this; exact this
      have HS : Hid (∀ (A0 : Option Addr) (c0 : Nat) (A2 : Option Addr) (c2 : Nat) (W : World), RP W A0 t0 → RI W A2 l2 → Calls Try.prog 35 #[.agg #[.int .i64 m0, .slice A0 t0.length c0], .int .i64 k1, .agg #[.int .i64 m2, .slice A2 l2.length c2]] W fun e w' => ∃ s, e = .returned (.tuple #[.agg #[.int .i64 M, s], .int .i64 C]) ∧ OwnI w' W.heap.size s L ∧ Below W.heap.size W w') :=
        Lib.hid (fun A0 c0 A2 c2 W r0 r2 => by have := sMultipleUnder_any m0 A0 c0 t0 k1 m2 A2 c2 l2 W (by omega) (by omega) r0 r2; rw [hMLC] at this; exact this)
      have HI : Hid (∀ (A0 : Option Addr) (c0 : Nat) (A2 : Option Addr) (c2 : Nat) (W : World), RP W A0 t0 → RI W A2 l2 → Calls Try.prog 36 #[.agg #[.int .i64 m0, .slice A0 t0.length c0], .int .i64 k1, .agg #[.int .i64 m2, .slice A2 l2.length c2]] W fun e w' => ∃ s, e = .returned (.tuple #[.agg #[.int .i64 M, s], .int .i64 C]) ∧ OwnI w' W.heap.size s L ∧ Below W.heap.size W w') :=
        Lib.hid (fun A0 c0 A2 c2 W r0 r2 => by have := MultipleUnder_any m0 A0 c0 t0 k1 m2 A2 c2 l2 W (by omega) (by omega) r0 r2; rw [hMLC] at this; exact this)
      obtain ⟨W, hW, x0, x2, hwb⟩ := startB2 24 38 w m0 A0 t0.length c0 m2 A2 l2.length c2
      have X0 := Lib.hid x0
      have X2 := Lib.hid x2
      have HW := Lib.hid hW
      have HB := Lib.hid hwb
      have HRA0 := Lib.hid (RQ.below ra0 hwb)
      have HRA2 := Lib.hid (RA.below ra2 hwb)
      have B0 := Lib.hid (Below.refl W.heap.size W)
      clear hW hwb x0 ra0 x2 ra2
      clear hMLC
      go_enter Try.func7, Try.ntmps7
      go_wp2_with fail
      rw [HW.out]
      refine (szPlane_ok _ _ _ _ _ _ (by omega) (by omega) (HRA0.out.below B0.out)).mono ?_
      rintro e w1 ⟨rfl, hb⟩
      have B1 := Lib.hid (below_step B0.out hb)
      have Z1 := Lib.hid (Below.size hb)
      clear hb
      obtain ⟨zp2, zq2⟩ := box_in X2.out B1.out
      go_wp2_with fail
      clear zp2 zq2
      refine (szSeries_ok _ _ _ _ _ _ (by omega) (by omega)).mono ?_
      rintro e w2 ⟨rfl, hb⟩
      have B2 := Lib.hid (below_step B1.out hb)
      have Z2 := Lib.hid (Below.size hb)
      clear hb
      have Y0 := Lib.hid (X0.out.keep B2.out)
      have Y2 := Lib.hid (X2.out.keep B2.out)
      go_upto_region 8 with fail
      go_cut [8, 9] (fun s6 s7 wx => ∃ g A c, s6 = .pointer (some ⟨g, 0, none⟩) ∧ s7 = .int .i64 C ∧ OwnI wx w2.heap.size (.slice A L.length c) L ∧ Box wx g M A L.length c ∧ w2.heap.size ≤ g ∧ Below w2.heap.size w2 wx)
      case first =>
        go_region_held3 (fun w' => (w'.cell? ⟨w.heap.size, 0, none⟩ = some (.int .i64 m0) ∧ w'.cell? ⟨w.heap.size, 1, none⟩ = some (.slice A0 t0.length c0)) ∧ (w'.cell? ⟨w.heap.size + 1, 0, none⟩ = some (.int .i64 m2) ∧ w'.cell? ⟨w.heap.size + 1, 1, none⟩ = some (.slice A2 l2.length c2)) ∧ Below w2.heap.size w2 w') (first | exact box2_in Y0.out Y2.out (below_drew0 _) | exact box2_in Y0.out Y2.out hka | exact box2_in Y0.out Y2.out hkb | exact box2_in Y0.out Y2.out hbel | exact box2_alloc Y0.out Y2.out (by assumption) | exact box2_in Y0.out Y2.out (below_alloc _ hbel) | exact box2_in Y0.out Y2.out (reg_fin hwg hgc hv hod hbel M).2.2) (first
          | (go_at_call 20; with_reducible refine Calls.mono (toPlane_any m0 A0 c0 t0 _ u0 (HRA0.out.below (below_step B2.out (trd (by assumption))))) ?_; rintro e wa ⟨sa, rfl, hoa, hba⟩; obtain ⟨Aa, ca, rfl, _⟩ := hoa.len; obtain ⟨hka, _⟩ := reg_end2 (by assumption) hba)
          | (go_at_call 29; with_reducible refine Calls.mono (toSeries_any m2 A2 c2 l2 _ u2 (HRA2.out.below (below_step B2.out (trd (by assumption))))) ?_; rintro e wb ⟨sb, rfl, hob, hbb⟩; obtain ⟨Ab, cb, rfl, _⟩ := hob.form; obtain ⟨hkb, _⟩ := reg_end2 (by assumption) hbb)
          | (with_reducible refine Calls.mono (HS.out _ _ _ _ _ (by first | exact hoa.rp | exact (hoa.rp.below (below_one _ _)) | exact (hoa.rp.below hbb) | exact (hoa.rp.below (below_step (below_one _ _) hbb)) | exact ((hoa.rp.below hbb).below (below_one _ _))) (by first | exact hob.ri | exact (hob.ri.below (below_one _ _)) | exact (hob.ri.below hba) | exact (hob.ri.below (below_step (below_one _ _) hba)) | exact ((hob.ri.below hba).below (below_one _ _)))) ?_; rintro e wd ⟨sd, rfl, hod, hbd⟩; obtain ⟨Ad, cd, rfl, _⟩ := hod.form; obtain ⟨hbel, hle⟩ := reg_end2 (by assumption) hbd; first | (refine use_it (var_keep ((((Var2.new w2 _ _).drew).keep hbb).keep hba) hbd) ?_; rintro ⟨hv, hgc⟩; have hwg := var_at (k := w2.heap.size) hv (by first | exact Nat.le_refl _ | exact hka.size | exact hkb.size); have q0 := hv.c0; have q1 := hv.c1; have q2 := hv.fz 0; have q3 := hv.fz 1) | (refine use_it (var_keep ((((Var2.new w2 _ _).drew).keep hba).keep hbb) hbd) ?_; rintro ⟨hv, hgc⟩; have hwg := var_at (k := w2.heap.size) hv (by first | exact Nat.le_refl _ | exact hka.size | exact hkb.size); have q0 := hv.c0; have q1 := hv.c1; have q2 := hv.fz 0; have q3 := hv.fz 1) | (refine use_it (var_keep ((Var2.new _ _ _).keep hbb) hbd) ?_; rintro ⟨hv, hgc⟩; have hwg := var_at (k := w2.heap.size) hv (by first | exact Nat.le_refl _ | exact hka.size | exact hkb.size); have q0 := hv.c0; have q1 := hv.c1; have q2 := hv.fz 0; have q3 := hv.fz 1) | (refine use_it (var_keep ((Var2.new _ _ _).keep hba) hbd) ?_; rintro ⟨hv, hgc⟩; have hwg := var_at (k := w2.heap.size) hv (by first | exact Nat.le_refl _ | exact hka.size | exact hkb.size); have q0 := hv.c0; have q1 := hv.c1; have q2 := hv.fz 0; have q3 := hv.fz 1) | (refine use_it (var_keep (Var2.new _ _ _) hbd) ?_; rintro ⟨hv, hgc⟩; have hwg := var_at (k := w2.heap.size) hv (by first | exact Nat.le_refl _ | exact hka.size | exact hkb.size); have q0 := hv.c0; have q1 := hv.c1; have q2 := hv.fz 0; have q3 := hv.fz 1) | skip))
        all_goals
          go_wp2_with fail
          go_meet
          case rel =>
            first
              | exact ⟨_, _, _, rfl, rfl, (reg_new hle hod hbel M _).1, (reg_new hle hod hbel M _).2.1, hbel.size, (reg_new hle hod hbel M _).2.2⟩
              | exact ⟨_, _, _, rfl, rfl, (reg_fin hwg hgc hv hod hbel M).1, (reg_fin hwg hgc hv hod hbel M).2.1, hwg, (reg_fin hwg hgc hv hod hbel M).2.2⟩
      case rest =>
        obtain ⟨w3, hwc⟩ : ∃ w9, w9 = wc := ⟨_, rfl⟩
        subst hwc
        obtain ⟨gW, AW, cW, rfl, rfl, ho, hx, hgg, hb⟩ := hcut
        clear Y0 Y2
        have hgW := Lib.hid hgg
        have B3 := Lib.hid (below_step B2.out hb)
        have Z3 := Lib.hid (Below.size hb)
        have W_3 := Lib.hid ho
        have Wb_3 := Lib.hid hx
        clear ho hx hb hgg
        obtain ⟨zp0, zq0⟩ := box_in X0.out B3.out
        go_wp2_with fail
        clear zp0 zq0
        refine (toPlane_any _ _ _ t0 _ u0 (HRA0.out.below B3.out)).mono ?_
        rintro e w4 ⟨sx0, rfl, ho, hb⟩
        obtain ⟨Ax0, cx0, rfl, _⟩ := ho.len
        have B4 := Lib.hid (below_step B3.out hb)
        have Z4 := Lib.hid (Below.size hb)
        have W_4 := Lib.hid (W_3.out.keep hb)
        have Wb_4 := Lib.hid (Wb_3.out.keep hb)
        have x0_4 := Lib.hid ho
        clear ho hb
        obtain ⟨w5, hV, hx, hb⟩ := start1 31 w4 m0 Ax0 t0.length cx0
        have B5 := Lib.hid (below_step B4.out hb)
        have Z5 := Lib.hid (Below.size hb)
        have W_5 := Lib.hid (W_4.out.keep hb)
        have Wb_5 := Lib.hid (Wb_4.out.keep hb)
        have x0_5 := Lib.hid (x0_4.out.keep (Below.mono hb (Nat.le_refl _)))
        have x0b_5 := Lib.hid hx
        have HV := Lib.hid hV
        clear hV hx hb
        obtain ⟨zp2, zq2⟩ := box_in X2.out B5.out
        rw [← HV.out] at zp2 zq2
        go_wp2_with fail
        rw [HV.out]
        clear HV
        clear zp2 zq2
        refine (toSeries_any _ _ _ l2 _ u2 (HRA2.out.below B5.out)).mono ?_
        rintro e w6 ⟨sx2, rfl, ho, hb⟩
        obtain ⟨Ax2, cx2, rfl, _⟩ := ho.form
        have B6 := Lib.hid (below_step B5.out hb)
        have Z6 := Lib.hid (Below.size hb)
        have W_6 := Lib.hid (W_5.out.keep hb)
        have Wb_6 := Lib.hid (Wb_5.out.keep hb)
        have x0_6 := Lib.hid (x0_5.out.keep (Below.mono hb Z5.out))
        have x0b_6 := Lib.hid (x0b_5.out.keep hb)
        have x2_6 := Lib.hid ho
        clear ho hb
        obtain ⟨w7, hV, hx, hb⟩ := start1 28 w6 m2 Ax2 l2.length cx2
        have B7 := Lib.hid (below_step B6.out hb)
        have Z7 := Lib.hid (Below.size hb)
        have W_7 := Lib.hid (W_6.out.keep hb)
        have Wb_7 := Lib.hid (Wb_6.out.keep hb)
        have x0_7 := Lib.hid (x0_6.out.keep (Below.mono hb (Nat.le_trans Z5.out Z6.out)))
        have x0b_7 := Lib.hid (x0b_6.out.keep hb)
        have x2_7 := Lib.hid (x2_6.out.keep hb)
        have x2b_7 := Lib.hid hx
        have HV := Lib.hid hV
        clear hV hx hb
        obtain ⟨zx01, zx02, _⟩ := x0b_7.out
        rw [← HV.out] at zx01 zx02
        go_wp2_with fail
        rw [HV.out]
        clear HV
        clear zx01 zx02
        refine (HI.out _ _ _ _ _ x0_7.out.rp x2_7.out.ri).mono ?_
        rintro e w8 ⟨sG, rfl, ho, hb⟩
        obtain ⟨AG, cG, rfl, _⟩ := ho.form
        have B8 := Lib.hid (below_step B7.out hb)
        have Z8 := Lib.hid (Below.size hb)
        have W_8 := Lib.hid (W_7.out.keep hb)
        have Wb_8 := Lib.hid (Wb_7.out.keep hb)
        have x0_8 := Lib.hid (x0_7.out.keep (Below.mono hb (Nat.le_trans Z5.out (Nat.le_trans Z6.out Z7.out))))
        have x0b_8 := Lib.hid (x0b_7.out.keep hb)
        have x2_8 := Lib.hid (x2_7.out.keep hb)
        have x2b_8 := Lib.hid (x2b_7.out.keep hb)
        have G_8 := Lib.hid ho
        clear ho hb
        obtain ⟨w9, hV, hx, hb⟩ := start1 28 w8 M AG L.length cG
        have B9 := Lib.hid (below_step B8.out hb)
        have Z9 := Lib.hid (Below.size hb)
        have W_9 := Lib.hid (W_8.out.keep hb)
        have Wb_9 := Lib.hid (Wb_8.out.keep hb)
        have x0_9 := Lib.hid (x0_8.out.keep (Below.mono hb (Nat.le_trans Z5.out (Nat.le_trans Z6.out (Nat.le_trans Z7.out Z8.out)))))
        have x0b_9 := Lib.hid (x0b_8.out.keep hb)
        have x2_9 := Lib.hid (x2_8.out.keep hb)
        have x2b_9 := Lib.hid (x2b_8.out.keep hb)
        have G_9 := Lib.hid (G_8.out.keep hb)
        have Gb_9 := Lib.hid hx
        have HV := Lib.hid hV
        clear hV hx hb
        obtain ⟨zW1, zW2, _⟩ := Wb_9.out
        rw [← HV.out] at zW1 zW2
        go_wp2_with fail
        rw [HV.out]
        clear HV
        clear zW1 zW2
        refine (eqSeries_any _ _ _ _ _ L _ (by omega) G_9.out.ri W_9.out.ri).mono ?_
        rintro e w10 ⟨rfl, hb⟩
        have B10 := Lib.hid (below_step B9.out hb)
        have Z10 := Lib.hid (Below.size hb)
        have W_10 := Lib.hid (W_9.out.keep hb)
        have Wb_10 := Lib.hid (Wb_9.out.keep hb)
        have x0_10 := Lib.hid (x0_9.out.keep (Below.mono hb (Nat.le_trans Z5.out (Nat.le_trans Z6.out (Nat.le_trans Z7.out (Nat.le_trans Z8.out Z9.out))))))
        have x0b_10 := Lib.hid (x0b_9.out.keep hb)
        have x2_10 := Lib.hid (x2_9.out.keep hb)
        have x2b_10 := Lib.hid (x2b_9.out.keep hb)
        have G_10 := Lib.hid (G_9.out.keep hb)
        have Gb_10 := Lib.hid (Gb_9.out.keep hb)
        clear hb
        go_wp2
        go_region_held3 (fun w' => (w'.cell? ⟨w4.heap.size, 0, none⟩ = some (.int .i64 m0) ∧ w'.cell? ⟨w4.heap.size, 1, none⟩ = some (.slice Ax0 t0.length cx0) ∧ w4.heap.size < w'.heap.size) ∧ (w'.cell? ⟨w.heap.size, 0, none⟩ = some (.int .i64 m0) ∧ w'.cell? ⟨w.heap.size, 1, none⟩ = some (.slice A0 t0.length c0) ∧ w.heap.size < w'.heap.size)) (first | exact ⟨x0b_10.out.keep (below_drew0 _), (X0.out.keep B10.out).keep (below_drew0 _)⟩ | exact box22_call (by assumption) (by assumption)) (first
          | (go_at_call 20; refine (toPlane_any _ _ _ t0 _ u0 (HRA0.out.below (below_step B10.out (below_drew0 _)))).mono ?_; rintro e wq ⟨sy, rfl, ho, hb⟩; obtain ⟨Ay, cy, rfl, _⟩ := ho.len)
          | (go_at_call 23; refine (eqPlane_any _ _ _ _ _ _ _ t0 _ (by omega) (x0_10.out.keep (Below.mono (below_step (below_drew0 _) hb) (Nat.le_trans Z5.out (Nat.le_trans Z6.out (Nat.le_trans Z7.out (Nat.le_trans Z8.out (Nat.le_trans Z9.out Z10.out))))))) ho (Nat.le_trans (Nat.le_trans Z5.out (Nat.le_trans Z6.out (Nat.le_trans Z7.out (Nat.le_trans Z8.out (Nat.le_trans Z9.out Z10.out))))) (below_step (below_drew0 _) hb).size) (Nat.le_refl _)).mono ?_; rintro e w11 ⟨rfl, hb2⟩))
        have hb3 := below_step (below_step (below_drew0 w10) hb) hb2
        have B11 := Lib.hid (below_step B10.out hb3)
        have Z11 := Lib.hid (Below.size hb3)
        have W_11 := Lib.hid (W_10.out.keep hb3)
        have Wb_11 := Lib.hid (Wb_10.out.keep hb3)
        have x0_11 := Lib.hid (x0_10.out.keep (Below.mono hb3 (Nat.le_trans Z5.out (Nat.le_trans Z6.out (Nat.le_trans Z7.out (Nat.le_trans Z8.out (Nat.le_trans Z9.out Z10.out)))))))
        have x0b_11 := Lib.hid (x0b_10.out.keep hb3)
        have x2_11 := Lib.hid (x2_10.out.keep hb3)
        have x2b_11 := Lib.hid (x2b_10.out.keep hb3)
        have G_11 := Lib.hid (G_10.out.keep hb3)
        have Gb_11 := Lib.hid (Gb_10.out.keep hb3)
        clear ho hb hb2 hb3
        go_wp2
        go_region_held3 (fun w' => (w'.cell? ⟨w6.heap.size, 0, none⟩ = some (.int .i64 m2) ∧ w'.cell? ⟨w6.heap.size, 1, none⟩ = some (.slice Ax2 l2.length cx2) ∧ w6.heap.size < w'.heap.size) ∧ (w'.cell? ⟨w.heap.size + 1, 0, none⟩ = some (.int .i64 m2) ∧ w'.cell? ⟨w.heap.size + 1, 1, none⟩ = some (.slice A2 l2.length c2) ∧ w.heap.size + 1 < w'.heap.size)) (first | exact ⟨x2b_11.out.keep (below_drew0 _), (X2.out.keep B11.out).keep (below_drew0 _)⟩ | exact box22_call (by assumption) (by assumption)) (first
          | (go_at_call 29; refine (toSeries_any _ _ _ l2 _ u2 (HRA2.out.below (below_step B11.out (below_drew0 _)))).mono ?_; rintro e wq ⟨sy, rfl, ho, hb⟩; obtain ⟨Ay, cy, rfl, _⟩ := ho.form)
          | (go_at_call 22; refine (eqSeries_any _ _ _ _ _ l2 _ (by omega) (x2_11.out.keep (below_step (below_drew0 _) hb)).ri ho.ri).mono ?_; rintro e w12 ⟨rfl, hb2⟩))
        have hb3 := below_step (below_step (below_drew0 w11) hb) hb2
        have B12 := Lib.hid (below_step B11.out hb3)
        have Z12 := Lib.hid (Below.size hb3)
        have W_12 := Lib.hid (W_11.out.keep hb3)
        have Wb_12 := Lib.hid (Wb_11.out.keep hb3)
        have x0_12 := Lib.hid (x0_11.out.keep (Below.mono hb3 (Nat.le_trans Z5.out (Nat.le_trans Z6.out (Nat.le_trans Z7.out (Nat.le_trans Z8.out (Nat.le_trans Z9.out (Nat.le_trans Z10.out Z11.out))))))))
        have x0b_12 := Lib.hid (x0b_11.out.keep hb3)
        have x2_12 := Lib.hid (x2_11.out.keep hb3)
        have x2b_12 := Lib.hid (x2b_11.out.keep hb3)
        have G_12 := Lib.hid (G_11.out.keep hb3)
        have Gb_12 := Lib.hid (Gb_11.out.keep hb3)
        clear ho hb hb2 hb3
        obtain ⟨zx01, zx02, _⟩ := x0b_12.out
        go_wp2_with fail
        clear zx01 zx02
        refine (markPlane_any m0 _ _ _ t0 _ _ (by omega) (by omega) (by omega) x0_12.out (Nat.le_trans Z5.out (Nat.le_trans Z6.out (Nat.le_trans Z7.out (Nat.le_trans Z8.out (Nat.le_trans Z9.out (Nat.le_trans Z10.out (Nat.le_trans Z11.out Z12.out)))))))).mono ?_
        rintro e w13 ⟨rfl, ho, hs⟩
        have B13 := Lib.hid (B12.out.trans ((hs.below (Nat.le_trans Z4.out (Nat.le_trans Z5.out (Nat.le_trans Z6.out (Nat.le_trans Z7.out (Nat.le_trans Z8.out (Nat.le_trans Z9.out (Nat.le_trans Z10.out (Nat.le_trans Z11.out Z12.out))))))))).mono B3.out.size))
        have Z13 := Lib.hid hs.size
        have W_13 := Lib.hid (W_12.out.far hs (fun g h => .inl (Nat.lt_of_lt_of_le (W_3.out.lt g h).2 (Nat.le_refl _))))
        have Wb_13 := Lib.hid (Wb_12.out.span hs (.inl (Nat.lt_of_lt_of_le Wb_3.out.2.2 (Nat.le_refl _))))
        have x0b_13 := Lib.hid (x0b_12.out.span hs (.inr (Nat.le_refl _)))
        have x2_13 := Lib.hid (x2_12.out.far hs (fun g h => .inr (Nat.le_trans Z5.out (x2_6.out.lt g h).1)))
        have x2b_13 := Lib.hid (x2b_12.out.span hs (.inr (Nat.le_trans Z5.out Z6.out)))
        have G_13 := Lib.hid (G_12.out.far hs (fun g h => .inr (Nat.le_trans (Nat.le_trans Z5.out (Nat.le_trans Z6.out Z7.out)) (G_8.out.lt g h).1)))
        have Gb_13 := Lib.hid (Gb_12.out.span hs (.inr (Nat.le_trans Z5.out (Nat.le_trans Z6.out (Nat.le_trans Z7.out Z8.out)))))
        have x0_13 := Lib.hid ho
        clear ho hs
        obtain ⟨zx21, zx22, _⟩ := x2b_13.out
        go_wp2_with fail
        clear zx21 zx22
        refine (markSeries_any m2 _ _ l2 _ _ (by omega) (by omega) (by omega) x2_13.out).mono ?_
        rintro e w14 ⟨rfl, ho, hg⟩
        have hs : Span w5.heap.size w6.heap.size w13 w14 := Span.of_grown hg (fun g h => ⟨(x2_6.out.lt g h).1, (x2_6.out.lt g h).2⟩)
        clear hg
        have B14 := Lib.hid (B13.out.trans ((hs.below (Nat.le_trans Z6.out (Nat.le_trans Z7.out (Nat.le_trans Z8.out (Nat.le_trans Z9.out (Nat.le_trans Z10.out (Nat.le_trans Z11.out (Nat.le_trans Z12.out Z13.out)))))))).mono B5.out.size))
        have Z14 := Lib.hid hs.size
        have W_14 := Lib.hid (W_13.out.far hs (fun g h => .inl (Nat.lt_of_lt_of_le (W_3.out.lt g h).2 (Nat.le_trans Z4.out Z5.out))))
        have Wb_14 := Lib.hid (Wb_13.out.span hs (.inl (Nat.lt_of_lt_of_le Wb_3.out.2.2 (Nat.le_trans Z4.out Z5.out))))
        have x0_14 := Lib.hid (x0_13.out.far hs (.inl Z5.out))
        have x0b_14 := Lib.hid (x0b_13.out.span hs (.inl (Nat.lt_of_lt_of_le x0b_5.out.2.2 (Nat.le_refl _))))
        have x2b_14 := Lib.hid (x2b_13.out.span hs (.inr (Nat.le_refl _)))
        have G_14 := Lib.hid (G_13.out.far hs (fun g h => .inr (Nat.le_trans Z7.out (G_8.out.lt g h).1)))
        have Gb_14 := Lib.hid (Gb_13.out.span hs (.inr (Nat.le_trans Z7.out Z8.out)))
        have x2_14 := Lib.hid ho
        clear ho hs
        obtain ⟨zG1, zG2, _⟩ := Gb_14.out
        obtain ⟨zW1, zW2, _⟩ := Wb_14.out
        go_wp2_with fail
        clear zG1 zG2 zW1 zW2
        refine (eqSeries_any _ _ _ _ _ L _ (by omega) G_14.out.ri W_14.out.ri).mono ?_
        rintro e w15 ⟨rfl, hb⟩
        have B15 := Lib.hid (below_step B14.out hb)
        have Z15 := Lib.hid (Below.size hb)
        have W_15 := Lib.hid (W_14.out.keep hb)
        have Wb_15 := Lib.hid (Wb_14.out.keep hb)
        have G_15 := Lib.hid (G_14.out.keep hb)
        have Gb_15 := Lib.hid (Gb_14.out.keep hb)
        clear hb
        obtain ⟨zG1, zG2, _⟩ := Gb_15.out
        go_wp2_with fail
        clear zG1 zG2
        refine (markSeries_any M _ _ L _ _ (by omega) (by omega) (by omega) G_15.out).mono ?_
        rintro e w16 ⟨rfl, ho, hg⟩
        have hs : Span w7.heap.size w8.heap.size w15 w16 := Span.of_grown hg (fun g h => ⟨(G_8.out.lt g h).1, (G_8.out.lt g h).2⟩)
        clear hg
        have B16 := Lib.hid (B15.out.trans ((hs.below (Nat.le_trans Z8.out (Nat.le_trans Z9.out (Nat.le_trans Z10.out (Nat.le_trans Z11.out (Nat.le_trans Z12.out (Nat.le_trans Z13.out (Nat.le_trans Z14.out Z15.out)))))))).mono B7.out.size))
        have Z16 := Lib.hid hs.size
        have W_16 := Lib.hid (W_15.out.far hs (fun g h => .inl (Nat.lt_of_lt_of_le (W_3.out.lt g h).2 (Nat.le_trans Z4.out (Nat.le_trans Z5.out (Nat.le_trans Z6.out Z7.out))))))
        have Wb_16 := Lib.hid (Wb_15.out.span hs (.inl (Nat.lt_of_lt_of_le Wb_3.out.2.2 (Nat.le_trans Z4.out (Nat.le_trans Z5.out (Nat.le_trans Z6.out Z7.out))))))
        have Gb_16 := Lib.hid (Gb_15.out.span hs (.inr (Nat.le_refl _)))
        have G_16 := Lib.hid ho
        clear ho hs
        obtain ⟨zG1, zG2, _⟩ := Gb_16.out
        go_wp2_with fail
        clear zG1 zG2
        refine (heldSeries_any _ _ _ L.length 1 _ (by omega) (by omega) (by omega) G_16.out.ri).mono ?_
        rintro e w17 ⟨rfl, hb⟩
        have B17 := Lib.hid (below_step B16.out hb)
        have Z17 := Lib.hid (Below.size hb)
        have W_17 := Lib.hid (W_16.out.keep hb)
        have Wb_17 := Lib.hid (Wb_16.out.keep hb)
        have G_17 := Lib.hid (G_16.out.keep hb)
        have Gb_17 := Lib.hid (Gb_16.out.keep hb)
        clear hb
        have Y0 := Lib.hid (X0.out.keep B17.out)
        have Y2 := Lib.hid (X2.out.keep B17.out)
        go_upto_region 31 with fail
        go_cut [17, 18] (fun s6 s7 wx => ∃ g A c, s6 = .pointer (some ⟨g, 0, none⟩) ∧ s7 = .int .i64 C ∧ OwnI wx w17.heap.size (.slice A L.length c) L ∧ Box wx g M A L.length c ∧ w17.heap.size ≤ g ∧ Below w17.heap.size w17 wx)
        case first =>
          go_region_held3 (fun w' => (w'.cell? ⟨w.heap.size, 0, none⟩ = some (.int .i64 m0) ∧ w'.cell? ⟨w.heap.size, 1, none⟩ = some (.slice A0 t0.length c0)) ∧ (w'.cell? ⟨w.heap.size + 1, 0, none⟩ = some (.int .i64 m2) ∧ w'.cell? ⟨w.heap.size + 1, 1, none⟩ = some (.slice A2 l2.length c2)) ∧ Below w17.heap.size w17 w') (first | exact box2_in Y0.out Y2.out (below_drew0 _) | exact box2_in Y0.out Y2.out hka | exact box2_in Y0.out Y2.out hkb | exact box2_in Y0.out Y2.out hbel | exact box2_alloc Y0.out Y2.out (by assumption) | exact box2_in Y0.out Y2.out (below_alloc _ hbel) | exact box2_in Y0.out Y2.out (reg_fin hwg hgc hv hod hbel M).2.2) (first
            | (go_at_call 20; with_reducible refine Calls.mono (toPlane_any m0 A0 c0 t0 _ u0 (HRA0.out.below (below_step B17.out (trd (by assumption))))) ?_; rintro e wa ⟨sa, rfl, hoa, hba⟩; obtain ⟨Aa, ca, rfl, _⟩ := hoa.len; obtain ⟨hka, _⟩ := reg_end2 (by assumption) hba)
            | (go_at_call 29; with_reducible refine Calls.mono (toSeries_any m2 A2 c2 l2 _ u2 (HRA2.out.below (below_step B17.out (trd (by assumption))))) ?_; rintro e wb ⟨sb, rfl, hob, hbb⟩; obtain ⟨Ab, cb, rfl, _⟩ := hob.form; obtain ⟨hkb, _⟩ := reg_end2 (by assumption) hbb)
            | (with_reducible refine Calls.mono (HI.out _ _ _ _ _ (by first | exact hoa.rp | exact (hoa.rp.below (below_one _ _)) | exact (hoa.rp.below hbb) | exact (hoa.rp.below (below_step (below_one _ _) hbb)) | exact ((hoa.rp.below hbb).below (below_one _ _))) (by first | exact hob.ri | exact (hob.ri.below (below_one _ _)) | exact (hob.ri.below hba) | exact (hob.ri.below (below_step (below_one _ _) hba)) | exact ((hob.ri.below hba).below (below_one _ _)))) ?_; rintro e wd ⟨sd, rfl, hod, hbd⟩; obtain ⟨Ad, cd, rfl, _⟩ := hod.form; obtain ⟨hbel, hle⟩ := reg_end2 (by assumption) hbd; first | (refine use_it (var_keep ((((Var2.new w17 _ _).drew).keep hbb).keep hba) hbd) ?_; rintro ⟨hv, hgc⟩; have hwg := var_at (k := w17.heap.size) hv (by first | exact Nat.le_refl _ | exact hka.size | exact hkb.size); have q0 := hv.c0; have q1 := hv.c1; have q2 := hv.fz 0; have q3 := hv.fz 1) | (refine use_it (var_keep ((((Var2.new w17 _ _).drew).keep hba).keep hbb) hbd) ?_; rintro ⟨hv, hgc⟩; have hwg := var_at (k := w17.heap.size) hv (by first | exact Nat.le_refl _ | exact hka.size | exact hkb.size); have q0 := hv.c0; have q1 := hv.c1; have q2 := hv.fz 0; have q3 := hv.fz 1) | (refine use_it (var_keep ((Var2.new _ _ _).keep hbb) hbd) ?_; rintro ⟨hv, hgc⟩; have hwg := var_at (k := w17.heap.size) hv (by first | exact Nat.le_refl _ | exact hka.size | exact hkb.size); have q0 := hv.c0; have q1 := hv.c1; have q2 := hv.fz 0; have q3 := hv.fz 1) | (refine use_it (var_keep ((Var2.new _ _ _).keep hba) hbd) ?_; rintro ⟨hv, hgc⟩; have hwg := var_at (k := w17.heap.size) hv (by first | exact Nat.le_refl _ | exact hka.size | exact hkb.size); have q0 := hv.c0; have q1 := hv.c1; have q2 := hv.fz 0; have q3 := hv.fz 1) | (refine use_it (var_keep (Var2.new _ _ _) hbd) ?_; rintro ⟨hv, hgc⟩; have hwg := var_at (k := w17.heap.size) hv (by first | exact Nat.le_refl _ | exact hka.size | exact hkb.size); have q0 := hv.c0; have q1 := hv.c1; have q2 := hv.fz 0; have q3 := hv.fz 1) | skip))
          all_goals
            go_wp2_with fail
            go_meet
            case rel =>
              first
                | exact ⟨_, _, _, rfl, rfl, (reg_new hle hod hbel M _).1, (reg_new hle hod hbel M _).2.1, hbel.size, (reg_new hle hod hbel M _).2.2⟩
                | exact ⟨_, _, _, rfl, rfl, (reg_fin hwg hgc hv hod hbel M).1, (reg_fin hwg hgc hv hod hbel M).2.1, hwg, (reg_fin hwg hgc hv hod hbel M).2.2⟩
        case rest =>
          obtain ⟨w18, hwc⟩ : ∃ w9, w9 = wc := ⟨_, rfl⟩
          subst hwc
          obtain ⟨gH, AH, cH, rfl, rfl, ho, hx, hgg, hb⟩ := hcut
          clear Y0 Y2
          have hgH := Lib.hid hgg
          have B18 := Lib.hid (below_step B17.out hb)
          have Z18 := Lib.hid (Below.size hb)
          have W_18 := Lib.hid (W_17.out.keep hb)
          have Wb_18 := Lib.hid (Wb_17.out.keep hb)
          have G_18 := Lib.hid (G_17.out.keep hb)
          have Gb_18 := Lib.hid (Gb_17.out.keep hb)
          have H_18 := Lib.hid ho
          have Hb_18 := Lib.hid hx
          clear ho hx hb hgg
          obtain ⟨zH1, zH2, _⟩ := Hb_18.out
          obtain ⟨zW1, zW2, _⟩ := Wb_18.out
          go_wp2_with fail
          clear zH1 zH2 zW1 zW2
          refine (eqSeries_any _ _ _ _ _ L _ (by omega) H_18.out.ri W_18.out.ri).mono ?_
          rintro e w19 ⟨rfl, hb⟩
          have B19 := Lib.hid (below_step B18.out hb)
          have Z19 := Lib.hid (Below.size hb)
          have W_19 := Lib.hid (W_18.out.keep hb)
          have Wb_19 := Lib.hid (Wb_18.out.keep hb)
          have G_19 := Lib.hid (G_18.out.keep hb)
          have Gb_19 := Lib.hid (Gb_18.out.keep hb)
          have H_19 := Lib.hid (H_18.out.keep hb)
          have Hb_19 := Lib.hid (Hb_18.out.keep hb)
          clear hb
          obtain ⟨zG1, zG2, _⟩ := Gb_19.out
          go_wp2_with fail
          clear zG1 zG2
          refine (heldSeries_any _ _ _ L.length 1 _ (by omega) (by omega) (by omega) G_19.out.ri).mono ?_
          rintro e w20 ⟨rfl, hb⟩
          have B20 := Lib.hid (below_step B19.out hb)
          have Z20 := Lib.hid (Below.size hb)
          have G_20 := Lib.hid (G_19.out.keep hb)
          have Gb_20 := Lib.hid (Gb_19.out.keep hb)
          clear hb
          go_wp2
          go_ret
          exact ⟨rfl, below_step HB.out B20.out⟩
    · skip
      obtain ⟨W, hW, x0, x2, hwb⟩ := startB2 24 38 w m0 A0 t0.length c0 m2 A2 l2.length c2
      have X0 := Lib.hid x0
      have X2 := Lib.hid x2
      have HW := Lib.hid hW
      have HB := Lib.hid hwb
      have HRA0 := Lib.hid (RQ.below ra0 hwb)
      have HRA2 := Lib.hid (RA.below ra2 hwb)
      have B0 := Lib.hid (Below.refl W.heap.size W)
      clear hW hwb x0 ra0 x2 ra2
      go_enter Try.func7, Try.ntmps7
      go_wp2_with fail
      rw [HW.out]
      refine (szPlane_ok _ _ _ _ _ _ (by omega) (by omega) (HRA0.out.below B0.out)).mono ?_
      rintro e w1 ⟨rfl, hb⟩
      have B1 := Lib.hid (below_step B0.out hb)
      have Z1 := Lib.hid (Below.size hb)
      clear hb
      obtain ⟨zp2, zq2⟩ := box_in X2.out B1.out
      go_wp2_with fail
      clear zp2 zq2
      refine (szSeries_no _ _ _ _ _ _ (by omega) (by omega) (by omega) (by omega)).mono ?_
      rintro e w2 ⟨rfl, hb⟩
      have B2 := Lib.hid (below_step B1.out hb)
      have Z2 := Lib.hid (Below.size hb)
      clear hb
      go_wp2
      go_ret
      exact ⟨rfl, below_step HB.out B2.out⟩
  · skip
    obtain ⟨W, hW, x0, x2, hwb⟩ := startB2 24 38 w m0 A0 t0.length c0 m2 A2 l2.length c2
    have X0 := Lib.hid x0
    have X2 := Lib.hid x2
    have HW := Lib.hid hW
    have HB := Lib.hid hwb
    have HRA0 := Lib.hid (RQ.below ra0 hwb)
    have HRA2 := Lib.hid (RA.below ra2 hwb)
    have B0 := Lib.hid (Below.refl W.heap.size W)
    clear hW hwb x0 ra0 x2 ra2
    go_enter Try.func7, Try.ntmps7
    go_wp2_with fail
    rw [HW.out]
    refine (szPlane_no _ _ _ _ _ _ (by omega) (by omega) (by omega) (HRA0.out.below B0.out) hm0.1 hm0.2).mono ?_
    rintro e w1 ⟨rfl, hb⟩
    have B1 := Lib.hid (below_step B0.out hb)
    have Z1 := Lib.hid (Below.size hb)
    clear hb
    go_wp2
    go_ret
    exact ⟨rfl, below_step HB.out B1.out⟩
end Go.Proofs.Ytpmbojbdppbkgaa.fnExactMultipleUnder
