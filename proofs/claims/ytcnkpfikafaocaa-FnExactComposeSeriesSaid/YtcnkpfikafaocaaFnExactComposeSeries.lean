/- ComposeSeries answers as its model at all arguments, leaves them alone, and owns its answer. No conditions. The frame follows the one that the kit prints for a law. -/
import Derived.Test.YtcnkpfikafaocaaRows
import Derived.Test.YtcnkpfikafaocaaCmt
import Derived.Test.YtcnkpfikafaocaaExa
import Derived.Test.YtcnkpfikafaocaaFrm
import Derived.WalkKit
import Derived.ProofKit
import Derived.OpenShut
import Derived.ShutString
import Derived.ChangeOld
import Derived.Below
import Derived.Deep.DeepCutAuto
namespace Go.Proofs.Ytcnkpfikafaocaa.fnExactComposeSeries
open Go.ChangeShapes Go.WideShapes Go.ChangeAt Go.RowKit
set_option linter.unusedVariables false

theorem own : ownKnob Try.prog.godebug = none := by kernel_rfl
theorem laidOut : laidOutB Try.prog = true := by kernel_rfl

set_option maxHeartbeats 16000000 in
set_option maxRecDepth 100000 in
theorem walk (m0 : Int) (A0 : Option Addr) (c0 : Nat) (l0 : List Int) (m1 : Int) (A1 : Option Addr) (c1 : Nat) (l1 : List Int) (w : World) (hm0 : l0.length ≤ maxLen) (ra0 : RA w A0 l0) (hm1 : l1.length ≤ maxLen) (ra1 : RA w A1 l1) :
    Calls Try.prog 10 #[.agg #[.int .i64 m0, .slice A0 l0.length c0], .agg #[.int .i64 m1, .slice A1 l1.length c1]] w fun e w' => e = .returned (.bool true) ∧ Below w.heap.size w w' := by
  unfold maxLen at hm0
  unfold maxLen at hm1
  by_cases h0 : (l0.length : Int) ≤ 1048576
  · have u0 : l0.length ≤ 1048576 := by omega
    by_cases h1 : (l1.length : Int) ≤ 1048576 - (l0.length : Int)
    · have u1 : l1.length ≤ 1048576 := by omega
      obtain ⟨M, L, C, hMLC⟩ : ∃ M L C, cmpM m0 l0 m1 l1 = (M, L, C) := ⟨_, _, _, rfl⟩
      have hL : L.length ≤ 1048576 := by have := cmpM_len m0 l0 m1 l1; rw [hMLC] at this; exact this
      have HS : Hid (∀ (A0 : Option Addr) (c0 : Nat) (A1 : Option Addr) (c1 : Nat) (W : World), RI W A0 l0 → RI W A1 l1 → Calls Try.prog 36 #[.agg #[.int .i64 m0, .slice A0 l0.length c0], .agg #[.int .i64 m1, .slice A1 l1.length c1]] W fun e w' => ∃ s, e = .returned (.tuple #[.agg #[.int .i64 M, s], .int .i64 C]) ∧ OwnI w' W.heap.size s L ∧ Below W.heap.size W w') :=
        Lib.hid (fun A0 c0 A1 c1 W r0 r1 => by have := sComposeSeries_any m0 A0 c0 l0 m1 A1 c1 l1 W (by omega) (by omega) r0 r1; rw [hMLC] at this; exact this)
      have HI : Hid (∀ (A0 : Option Addr) (c0 : Nat) (A1 : Option Addr) (c1 : Nat) (W : World), RI W A0 l0 → RI W A1 l1 → Calls Try.prog 33 #[.agg #[.int .i64 m0, .slice A0 l0.length c0], .agg #[.int .i64 m1, .slice A1 l1.length c1]] W fun e w' => ∃ s, e = .returned (.tuple #[.agg #[.int .i64 M, s], .int .i64 C]) ∧ OwnI w' W.heap.size s L ∧ Below W.heap.size W w') :=
        Lib.hid (fun A0 c0 A1 c1 W r0 r1 => by have := ComposeSeries_any m0 A0 c0 l0 m1 A1 c1 l1 W (by omega) (by omega) r0 r1; rw [hMLC] at this; exact this)
      obtain ⟨W, hW, x0, x1, hwb⟩ := start2 40 w m0 A0 l0.length c0 m1 A1 l1.length c1
      have X0 := Lib.hid x0
      have X1 := Lib.hid x1
      have HW := Lib.hid hW
      have HB := Lib.hid hwb
      have HRA0 := Lib.hid (RA.below ra0 hwb)
      have HRA1 := Lib.hid (RA.below ra1 hwb)
      have B0 := Lib.hid (Below.refl W.heap.size W)
      clear hW hwb x0 ra0 x1 ra1
      clear hMLC
      go_enter Try.func10, Try.ntmps10
      go_wp2_with fail
      rw [HW.out]
      refine (szSeries_ok _ _ _ _ _ _ (by omega) (by omega)).mono ?_
      rintro e w1 ⟨rfl, hb⟩
      have B1 := Lib.hid (below_step B0.out hb)
      clear hb
      obtain ⟨zp1, zq1⟩ := box_in X1.out B1.out
      go_wp2_with fail
      clear zp1 zq1
      refine (szSeries_ok _ _ _ _ _ _ (by omega) (by omega)).mono ?_
      rintro e w2 ⟨rfl, hb⟩
      have B2 := Lib.hid (below_step B1.out hb)
      clear hb
      have Y0 := Lib.hid (X0.out.keep B2.out)
      have Y1 := Lib.hid (X1.out.keep B2.out)
      go_upto_region 8 with fail
      go_cut [6, 7] (fun s6 s7 wx => ∃ g A c, s6 = .pointer (some ⟨g, 0, none⟩) ∧ s7 = .int .i64 C ∧ OwnI wx w2.heap.size (.slice A L.length c) L ∧ Box wx g M A L.length c ∧ Below w2.heap.size w2 wx)
      case first =>
        go_region_held3 (fun w' => (w'.cell? ⟨w.heap.size, 0, none⟩ = some (.int .i64 m0) ∧ w'.cell? ⟨w.heap.size, 1, none⟩ = some (.slice A0 l0.length c0)) ∧ (w'.cell? ⟨w.heap.size + 1, 0, none⟩ = some (.int .i64 m1) ∧ w'.cell? ⟨w.heap.size + 1, 1, none⟩ = some (.slice A1 l1.length c1)) ∧ Below w2.heap.size w2 w') (first | exact box2_in Y0.out Y1.out (below_drew0 _) | exact box2_in Y0.out Y1.out hka | exact box2_in Y0.out Y1.out hkb | exact box2_in Y0.out Y1.out hbel | exact box2_alloc Y0.out Y1.out (by assumption) | exact box2_in Y0.out Y1.out (below_alloc _ hbel) | exact box2_in Y0.out Y1.out (reg_fin hwg hgc hv hod hbel M).2.2) (first
          | (go_at_call 51; with_reducible refine Calls.mono (toSeries_any m0 A0 c0 l0 _ u0 (HRA0.out.below (below_step B2.out (trd (by assumption))))) ?_; rintro e wa ⟨sa, rfl, hoa, hba⟩; obtain ⟨Aa, ca, rfl, _⟩ := hoa.form; obtain ⟨hka, _⟩ := reg_end (by assumption) hba)
          | (go_at_call 51; with_reducible refine Calls.mono (toSeries_any m1 A1 c1 l1 _ u1 (HRA1.out.below (below_step B2.out (trd (by assumption))))) ?_; rintro e wb ⟨sb, rfl, hob, hbb⟩; obtain ⟨Ab, cb, rfl, _⟩ := hob.form; obtain ⟨hkb, _⟩ := reg_end (by assumption) hbb)
          | (with_reducible refine Calls.mono (HS.out _ _ _ _ _ (by first | exact hoa.ri | exact (hoa.keep hbb).ri | exact (hoa.keep (below_one _ _)).ri | exact (hoa.keep (below_step (below_one _ _) hbb)).ri | exact (hoa.keep (below_alloc _ hbb)).ri) (by first | exact hob.ri | exact (hob.keep hba).ri | exact (hob.keep (below_one _ _)).ri | exact (hob.keep (below_step (below_one _ _) hba)).ri | exact (hob.keep (below_alloc _ hba)).ri)) ?_; rintro e wd ⟨sd, rfl, hod, hbd⟩; obtain ⟨Ad, cd, rfl, _⟩ := hod.form; obtain ⟨hbel, hle⟩ := reg_end (by assumption) hbd; first | (refine use_it (var_keep (((Var2.new w2 _ _).drew.keep hba).keep hbb) hbd) ?_; rintro ⟨hv, hgc⟩; have hwg := var_at (k := w2.heap.size) hv (by first | exact Nat.le_refl _ | exact hka.size | exact hkb.size); have q0 := hv.c0; have q1 := hv.c1; have q2 := hv.fz 0; have q3 := hv.fz 1) | (refine use_it (var_keep (((Var2.new w2 _ _).drew.keep hbb).keep hba) hbd) ?_; rintro ⟨hv, hgc⟩; have hwg := var_at (k := w2.heap.size) hv (by first | exact Nat.le_refl _ | exact hka.size | exact hkb.size); have q0 := hv.c0; have q1 := hv.c1; have q2 := hv.fz 0; have q3 := hv.fz 1) | (refine use_it (var_keep ((Var2.new _ _ _).keep hbb) hbd) ?_; rintro ⟨hv, hgc⟩; have hwg := var_at (k := w2.heap.size) hv (by first | exact Nat.le_refl _ | exact hka.size | exact hkb.size); have q0 := hv.c0; have q1 := hv.c1; have q2 := hv.fz 0; have q3 := hv.fz 1) | (refine use_it (var_keep ((Var2.new _ _ _).keep hba) hbd) ?_; rintro ⟨hv, hgc⟩; have hwg := var_at (k := w2.heap.size) hv (by first | exact Nat.le_refl _ | exact hka.size | exact hkb.size); have q0 := hv.c0; have q1 := hv.c1; have q2 := hv.fz 0; have q3 := hv.fz 1) | (refine use_it (var_keep (Var2.new _ _ _) hbd) ?_; rintro ⟨hv, hgc⟩; have hwg := var_at (k := w2.heap.size) hv (by first | exact Nat.le_refl _ | exact hka.size | exact hkb.size); have q0 := hv.c0; have q1 := hv.c1; have q2 := hv.fz 0; have q3 := hv.fz 1) | skip))
        all_goals
          go_wp2_with fail
          go_meet
          case rel =>
            first
              | exact ⟨_, _, _, rfl, rfl, (reg_new hle hod hbel M _).1, (reg_new hle hod hbel M _).2.1, (reg_new hle hod hbel M _).2.2⟩
              | exact ⟨_, _, _, rfl, rfl, (reg_fin hwg hgc hv hod hbel M).1, (reg_fin hwg hgc hv hod hbel M).2.1, (reg_fin hwg hgc hv hod hbel M).2.2⟩
      case rest =>
        obtain ⟨w3, hwc⟩ : ∃ w9, w9 = wc := ⟨_, rfl⟩
        subst hwc
        obtain ⟨gW, AW, cW, rfl, rfl, ho, hx, hb⟩ := hcut
        clear Y0 Y1
        have B3 := Lib.hid (below_step B2.out hb)
        have W_3 := Lib.hid ho
        have Wb_3 := Lib.hid hx
        clear ho hx hb
        obtain ⟨zp0, zq0⟩ := box_in X0.out B3.out
        go_wp2_with fail
        clear zp0 zq0
        refine (toSeries_any _ _ _ l0 _ u0 (HRA0.out.below B3.out)).mono ?_
        rintro e w4 ⟨sx0, rfl, ho, hb⟩
        obtain ⟨Ax0, cx0, rfl, _⟩ := ho.form
        have B4 := Lib.hid (below_step B3.out hb)
        have W_4 := Lib.hid (W_3.out.keep hb)
        have Wb_4 := Lib.hid (Wb_3.out.keep hb)
        have x0_4 := Lib.hid ho
        clear ho hb
        obtain ⟨w5, hV, hx, hb⟩ := start1 26 w4 m0 Ax0 l0.length cx0
        have B5 := Lib.hid (below_step B4.out hb)
        have W_5 := Lib.hid (W_4.out.keep hb)
        have Wb_5 := Lib.hid (Wb_4.out.keep hb)
        have x0_5 := Lib.hid (x0_4.out.keep hb)
        have x0b_5 := Lib.hid hx
        have HV := Lib.hid hV
        clear hV hx hb
        obtain ⟨zp1, zq1⟩ := box_in X1.out B5.out
        rw [← HV.out] at zp1 zq1
        go_wp2_with fail
        rw [HV.out]
        clear HV
        clear zp1 zq1
        refine (toSeries_any _ _ _ l1 _ u1 (HRA1.out.below B5.out)).mono ?_
        rintro e w6 ⟨sx1, rfl, ho, hb⟩
        obtain ⟨Ax1, cx1, rfl, _⟩ := ho.form
        have B6 := Lib.hid (below_step B5.out hb)
        have W_6 := Lib.hid (W_5.out.keep hb)
        have Wb_6 := Lib.hid (Wb_5.out.keep hb)
        have x0_6 := Lib.hid (x0_5.out.keep hb)
        have x0b_6 := Lib.hid (x0b_5.out.keep hb)
        have x1_6 := Lib.hid ho
        clear ho hb
        obtain ⟨w7, hV, hx, hb⟩ := start1 26 w6 m1 Ax1 l1.length cx1
        have B7 := Lib.hid (below_step B6.out hb)
        have W_7 := Lib.hid (W_6.out.keep hb)
        have Wb_7 := Lib.hid (Wb_6.out.keep hb)
        have x0_7 := Lib.hid (x0_6.out.keep hb)
        have x0b_7 := Lib.hid (x0b_6.out.keep hb)
        have x1_7 := Lib.hid (x1_6.out.keep hb)
        have x1b_7 := Lib.hid hx
        have HV := Lib.hid hV
        clear hV hx hb
        obtain ⟨zx01, zx02, _⟩ := x0b_7.out
        rw [← HV.out] at zx01 zx02
        go_wp2_with fail
        rw [HV.out]
        clear HV
        clear zx01 zx02
        refine (HI.out _ _ _ _ _ x0_7.out.ri x1_7.out.ri).mono ?_
        rintro e w8 ⟨sG, rfl, ho, hb⟩
        obtain ⟨AG, cG, rfl, _⟩ := ho.form
        have B8 := Lib.hid (below_step B7.out hb)
        have W_8 := Lib.hid (W_7.out.keep hb)
        have Wb_8 := Lib.hid (Wb_7.out.keep hb)
        have x0_8 := Lib.hid (x0_7.out.keep hb)
        have x0b_8 := Lib.hid (x0b_7.out.keep hb)
        have x1_8 := Lib.hid (x1_7.out.keep hb)
        have x1b_8 := Lib.hid (x1b_7.out.keep hb)
        have G_8 := Lib.hid ho
        clear ho hb
        obtain ⟨w9, hV, hx, hb⟩ := start1 26 w8 M AG L.length cG
        have B9 := Lib.hid (below_step B8.out hb)
        have W_9 := Lib.hid (W_8.out.keep hb)
        have Wb_9 := Lib.hid (Wb_8.out.keep hb)
        have x0_9 := Lib.hid (x0_8.out.keep hb)
        have x0b_9 := Lib.hid (x0b_8.out.keep hb)
        have x1_9 := Lib.hid (x1_8.out.keep hb)
        have x1b_9 := Lib.hid (x1b_8.out.keep hb)
        have G_9 := Lib.hid (G_8.out.keep hb)
        have Gb_9 := Lib.hid hx
        have HV := Lib.hid hV
        clear hV hx hb
        obtain ⟨zW1, zW2, _⟩ := Wb_9.out
        rw [← HV.out] at zW1 zW2
        go_wp2_with fail
        rw [HV.out]
        clear HV
        clear zW1 zW2
        refine (eqSeries_any _ _ _ _ _ L _ (by omega) G_9.out.ri W_9.out.ri).mono ?_
        rintro e w10 ⟨rfl, hb⟩
        have B10 := Lib.hid (below_step B9.out hb)
        have W_10 := Lib.hid (W_9.out.keep hb)
        have Wb_10 := Lib.hid (Wb_9.out.keep hb)
        have x0_10 := Lib.hid (x0_9.out.keep hb)
        have x0b_10 := Lib.hid (x0b_9.out.keep hb)
        have x1_10 := Lib.hid (x1_9.out.keep hb)
        have x1b_10 := Lib.hid (x1b_9.out.keep hb)
        have G_10 := Lib.hid (G_9.out.keep hb)
        have Gb_10 := Lib.hid (Gb_9.out.keep hb)
        clear hb
        go_wp2
        go_region_held3 (fun w' => (w'.cell? ⟨w4.heap.size, 0, none⟩ = some (.int .i64 m0) ∧ w'.cell? ⟨w4.heap.size, 1, none⟩ = some (.slice Ax0 l0.length cx0) ∧ w4.heap.size < w'.heap.size) ∧ (w'.cell? ⟨w.heap.size, 0, none⟩ = some (.int .i64 m0) ∧ w'.cell? ⟨w.heap.size, 1, none⟩ = some (.slice A0 l0.length c0) ∧ w.heap.size < w'.heap.size)) (first | exact ⟨x0b_10.out.keep (below_drew0 _), (X0.out.keep B10.out).keep (below_drew0 _)⟩ | exact box22_call (by assumption) (by assumption)) (first
          | (go_at_call 51; refine (toSeries_any _ _ _ l0 _ u0 (HRA0.out.below (below_step B10.out (below_drew0 _)))).mono ?_; rintro e w11 ⟨sy, rfl, ho, hb⟩; obtain ⟨Ay, cy, rfl, _⟩ := ho.form)
          | (go_at_call 52; refine (eqSeries_any _ _ _ _ _ l0 _ (by omega) (x0_10.out.keep (below_step (below_drew0 _) hb)).ri ho.ri).mono ?_; rintro e w12 ⟨rfl, hb2⟩))
        have hb3 := below_step (below_step (below_drew0 w10) hb) hb2
        have B12 := Lib.hid (below_step B10.out hb3)
        have W_12 := Lib.hid (W_10.out.keep hb3)
        have Wb_12 := Lib.hid (Wb_10.out.keep hb3)
        have x0_12 := Lib.hid (x0_10.out.keep hb3)
        have x0b_12 := Lib.hid (x0b_10.out.keep hb3)
        have x1_12 := Lib.hid (x1_10.out.keep hb3)
        have x1b_12 := Lib.hid (x1b_10.out.keep hb3)
        have G_12 := Lib.hid (G_10.out.keep hb3)
        have Gb_12 := Lib.hid (Gb_10.out.keep hb3)
        clear ho hb hb2 hb3
        go_wp2
        go_region_held3 (fun w' => (w'.cell? ⟨w6.heap.size, 0, none⟩ = some (.int .i64 m1) ∧ w'.cell? ⟨w6.heap.size, 1, none⟩ = some (.slice Ax1 l1.length cx1) ∧ w6.heap.size < w'.heap.size) ∧ (w'.cell? ⟨w.heap.size + 1, 0, none⟩ = some (.int .i64 m1) ∧ w'.cell? ⟨w.heap.size + 1, 1, none⟩ = some (.slice A1 l1.length c1) ∧ w.heap.size + 1 < w'.heap.size)) (first | exact ⟨x1b_12.out.keep (below_drew0 _), (X1.out.keep B12.out).keep (below_drew0 _)⟩ | exact box22_call (by assumption) (by assumption)) (first
          | (go_at_call 51; refine (toSeries_any _ _ _ l1 _ u1 (HRA1.out.below (below_step B12.out (below_drew0 _)))).mono ?_; rintro e w13 ⟨sy, rfl, ho, hb⟩; obtain ⟨Ay, cy, rfl, _⟩ := ho.form)
          | (go_at_call 52; refine (eqSeries_any _ _ _ _ _ l1 _ (by omega) (x1_12.out.keep (below_step (below_drew0 _) hb)).ri ho.ri).mono ?_; rintro e w14 ⟨rfl, hb2⟩))
        have hb3 := below_step (below_step (below_drew0 w12) hb) hb2
        have B14 := Lib.hid (below_step B12.out hb3)
        have W_14 := Lib.hid (W_12.out.keep hb3)
        have Wb_14 := Lib.hid (Wb_12.out.keep hb3)
        have x0_14 := Lib.hid (x0_12.out.keep hb3)
        have x0b_14 := Lib.hid (x0b_12.out.keep hb3)
        have x1_14 := Lib.hid (x1_12.out.keep hb3)
        have x1b_14 := Lib.hid (x1b_12.out.keep hb3)
        have G_14 := Lib.hid (G_12.out.keep hb3)
        have Gb_14 := Lib.hid (Gb_12.out.keep hb3)
        clear ho hb hb2 hb3
        obtain ⟨zx01, zx02, _⟩ := x0b_14.out
        go_wp2_with fail
        clear zx01 zx02
        refine (markSeries_any m0 _ _ l0 _ _ (by omega) (by omega) (by omega) x0_14.out).mono ?_
        rintro e w15 ⟨rfl, ho, hg⟩
        have B15 := Lib.hid (below_grown B14.out hg x0_14.out B3.out.size)
        have W_15 := Lib.hid (W_14.out.other hg (apart W_3.out x0_4.out (Nat.le_refl _)))
        have Wb_15 := Lib.hid (Wb_14.out.mark hg (fun e => absurd (x0_4.out.lt _ e).1 (Nat.not_le_of_lt Wb_3.out.2.2)))
        have x0b_15 := Lib.hid (x0b_14.out.mark hg (fun e => absurd (x0_4.out.lt _ e).2 (Nat.lt_irrefl _)))
        have x1_15 := Lib.hid (x1_14.out.other hg (apart' x0_5.out x1_6.out (Nat.le_refl _)))
        have x1b_15 := Lib.hid (x1b_14.out.mark hg (fun e => absurd (x0_6.out.lt _ e).2 (Nat.lt_irrefl _)))
        have G_15 := Lib.hid (G_14.out.other hg (apart' x0_7.out G_8.out (Nat.le_refl _)))
        have Gb_15 := Lib.hid (Gb_14.out.mark hg (fun e => absurd (x0_8.out.lt _ e).2 (Nat.lt_irrefl _)))
        have x0_15 := Lib.hid ho
        clear ho hg
        obtain ⟨zx11, zx12, _⟩ := x1b_15.out
        go_wp2_with fail
        clear zx11 zx12
        refine (markSeries_any m1 _ _ l1 _ _ (by omega) (by omega) (by omega) x1_15.out).mono ?_
        rintro e w16 ⟨rfl, ho, hg⟩
        have B16 := Lib.hid (below_grown B15.out hg x1_15.out B5.out.size)
        have W_16 := Lib.hid (W_15.out.other hg (apart W_5.out x1_6.out (Nat.le_refl _)))
        have Wb_16 := Lib.hid (Wb_15.out.mark hg (fun e => absurd (x1_6.out.lt _ e).1 (Nat.not_le_of_lt Wb_5.out.2.2)))
        have x0_16 := Lib.hid (x0_15.out.other hg (apart x0_5.out x1_6.out (Nat.le_refl _)))
        have x0b_16 := Lib.hid (x0b_15.out.mark hg (fun e => absurd (x1_6.out.lt _ e).1 (Nat.not_le_of_lt x0b_5.out.2.2)))
        have x1b_16 := Lib.hid (x1b_15.out.mark hg (fun e => absurd (x1_6.out.lt _ e).2 (Nat.lt_irrefl _)))
        have G_16 := Lib.hid (G_15.out.other hg (apart' x1_7.out G_8.out (Nat.le_refl _)))
        have Gb_16 := Lib.hid (Gb_15.out.mark hg (fun e => absurd (x1_8.out.lt _ e).2 (Nat.lt_irrefl _)))
        have x1_16 := Lib.hid ho
        clear ho hg
        obtain ⟨zG1, zG2, _⟩ := Gb_16.out
        obtain ⟨zW1, zW2, _⟩ := Wb_16.out
        go_wp2_with fail
        clear zG1 zG2 zW1 zW2
        refine (eqSeries_any _ _ _ _ _ L _ (by omega) G_16.out.ri W_16.out.ri).mono ?_
        rintro e w17 ⟨rfl, hb⟩
        have B17 := Lib.hid (below_step B16.out hb)
        have W_17 := Lib.hid (W_16.out.keep hb)
        have Wb_17 := Lib.hid (Wb_16.out.keep hb)
        have G_17 := Lib.hid (G_16.out.keep hb)
        have Gb_17 := Lib.hid (Gb_16.out.keep hb)
        clear hb
        obtain ⟨zG1, zG2, _⟩ := Gb_17.out
        go_wp2_with fail
        clear zG1 zG2
        refine (markSeries_any M _ _ L _ _ (by omega) (by omega) (by omega) G_17.out).mono ?_
        rintro e w18 ⟨rfl, ho, hg⟩
        have B18 := Lib.hid (below_grown B17.out hg G_17.out B7.out.size)
        have W_18 := Lib.hid (W_17.out.other hg (apart W_7.out G_8.out (Nat.le_refl _)))
        have Wb_18 := Lib.hid (Wb_17.out.mark hg (fun e => absurd (G_8.out.lt _ e).1 (Nat.not_le_of_lt Wb_7.out.2.2)))
        have Gb_18 := Lib.hid (Gb_17.out.mark hg (fun e => absurd (G_8.out.lt _ e).2 (Nat.lt_irrefl _)))
        have G_18 := Lib.hid ho
        clear ho hg
        obtain ⟨zG1, zG2, _⟩ := Gb_18.out
        go_wp2_with fail
        clear zG1 zG2
        refine (heldSeries_any _ _ _ L.length 1 _ (by omega) (by omega) (by omega) G_18.out.ri).mono ?_
        rintro e w19 ⟨rfl, hb⟩
        have B19 := Lib.hid (below_step B18.out hb)
        have W_19 := Lib.hid (W_18.out.keep hb)
        have Wb_19 := Lib.hid (Wb_18.out.keep hb)
        have G_19 := Lib.hid (G_18.out.keep hb)
        have Gb_19 := Lib.hid (Gb_18.out.keep hb)
        clear hb
        have Y0 := Lib.hid (X0.out.keep B19.out)
        have Y1 := Lib.hid (X1.out.keep B19.out)
        go_upto_region 31 with fail
        go_cut [15, 16] (fun s6 s7 wx => ∃ g A c, s6 = .pointer (some ⟨g, 0, none⟩) ∧ s7 = .int .i64 C ∧ OwnI wx w19.heap.size (.slice A L.length c) L ∧ Box wx g M A L.length c ∧ Below w19.heap.size w19 wx)
        case first =>
          go_region_held3 (fun w' => (w'.cell? ⟨w.heap.size, 0, none⟩ = some (.int .i64 m0) ∧ w'.cell? ⟨w.heap.size, 1, none⟩ = some (.slice A0 l0.length c0)) ∧ (w'.cell? ⟨w.heap.size + 1, 0, none⟩ = some (.int .i64 m1) ∧ w'.cell? ⟨w.heap.size + 1, 1, none⟩ = some (.slice A1 l1.length c1)) ∧ Below w19.heap.size w19 w') (first | exact box2_in Y0.out Y1.out (below_drew0 _) | exact box2_in Y0.out Y1.out hka | exact box2_in Y0.out Y1.out hkb | exact box2_in Y0.out Y1.out hbel | exact box2_alloc Y0.out Y1.out (by assumption) | exact box2_in Y0.out Y1.out (below_alloc _ hbel) | exact box2_in Y0.out Y1.out (reg_fin hwg hgc hv hod hbel M).2.2) (first
            | (go_at_call 51; with_reducible refine Calls.mono (toSeries_any m0 A0 c0 l0 _ u0 (HRA0.out.below (below_step B19.out (trd (by assumption))))) ?_; rintro e wa ⟨sa, rfl, hoa, hba⟩; obtain ⟨Aa, ca, rfl, _⟩ := hoa.form; obtain ⟨hka, _⟩ := reg_end (by assumption) hba)
            | (go_at_call 51; with_reducible refine Calls.mono (toSeries_any m1 A1 c1 l1 _ u1 (HRA1.out.below (below_step B19.out (trd (by assumption))))) ?_; rintro e wb ⟨sb, rfl, hob, hbb⟩; obtain ⟨Ab, cb, rfl, _⟩ := hob.form; obtain ⟨hkb, _⟩ := reg_end (by assumption) hbb)
            | (with_reducible refine Calls.mono (HI.out _ _ _ _ _ (by first | exact hoa.ri | exact (hoa.keep hbb).ri | exact (hoa.keep (below_one _ _)).ri | exact (hoa.keep (below_step (below_one _ _) hbb)).ri | exact (hoa.keep (below_alloc _ hbb)).ri) (by first | exact hob.ri | exact (hob.keep hba).ri | exact (hob.keep (below_one _ _)).ri | exact (hob.keep (below_step (below_one _ _) hba)).ri | exact (hob.keep (below_alloc _ hba)).ri)) ?_; rintro e wd ⟨sd, rfl, hod, hbd⟩; obtain ⟨Ad, cd, rfl, _⟩ := hod.form; obtain ⟨hbel, hle⟩ := reg_end (by assumption) hbd; first | (refine use_it (var_keep (((Var2.new w19 _ _).drew.keep hba).keep hbb) hbd) ?_; rintro ⟨hv, hgc⟩; have hwg := var_at (k := w19.heap.size) hv (by first | exact Nat.le_refl _ | exact hka.size | exact hkb.size); have q0 := hv.c0; have q1 := hv.c1; have q2 := hv.fz 0; have q3 := hv.fz 1) | (refine use_it (var_keep (((Var2.new w19 _ _).drew.keep hbb).keep hba) hbd) ?_; rintro ⟨hv, hgc⟩; have hwg := var_at (k := w19.heap.size) hv (by first | exact Nat.le_refl _ | exact hka.size | exact hkb.size); have q0 := hv.c0; have q1 := hv.c1; have q2 := hv.fz 0; have q3 := hv.fz 1) | (refine use_it (var_keep ((Var2.new _ _ _).keep hbb) hbd) ?_; rintro ⟨hv, hgc⟩; have hwg := var_at (k := w19.heap.size) hv (by first | exact Nat.le_refl _ | exact hka.size | exact hkb.size); have q0 := hv.c0; have q1 := hv.c1; have q2 := hv.fz 0; have q3 := hv.fz 1) | (refine use_it (var_keep ((Var2.new _ _ _).keep hba) hbd) ?_; rintro ⟨hv, hgc⟩; have hwg := var_at (k := w19.heap.size) hv (by first | exact Nat.le_refl _ | exact hka.size | exact hkb.size); have q0 := hv.c0; have q1 := hv.c1; have q2 := hv.fz 0; have q3 := hv.fz 1) | (refine use_it (var_keep (Var2.new _ _ _) hbd) ?_; rintro ⟨hv, hgc⟩; have hwg := var_at (k := w19.heap.size) hv (by first | exact Nat.le_refl _ | exact hka.size | exact hkb.size); have q0 := hv.c0; have q1 := hv.c1; have q2 := hv.fz 0; have q3 := hv.fz 1) | skip))
          all_goals
            go_wp2_with fail
            go_meet
            case rel =>
              first
                | exact ⟨_, _, _, rfl, rfl, (reg_new hle hod hbel M _).1, (reg_new hle hod hbel M _).2.1, (reg_new hle hod hbel M _).2.2⟩
                | exact ⟨_, _, _, rfl, rfl, (reg_fin hwg hgc hv hod hbel M).1, (reg_fin hwg hgc hv hod hbel M).2.1, (reg_fin hwg hgc hv hod hbel M).2.2⟩
        case rest =>
          obtain ⟨w20, hwc⟩ : ∃ w9, w9 = wc := ⟨_, rfl⟩
          subst hwc
          obtain ⟨gH, AH, cH, rfl, rfl, ho, hx, hb⟩ := hcut
          clear Y0 Y1
          have B20 := Lib.hid (below_step B19.out hb)
          have W_20 := Lib.hid (W_19.out.keep hb)
          have Wb_20 := Lib.hid (Wb_19.out.keep hb)
          have G_20 := Lib.hid (G_19.out.keep hb)
          have Gb_20 := Lib.hid (Gb_19.out.keep hb)
          have H_20 := Lib.hid ho
          have Hb_20 := Lib.hid hx
          clear ho hx hb
          obtain ⟨zH1, zH2, _⟩ := Hb_20.out
          obtain ⟨zW1, zW2, _⟩ := Wb_20.out
          go_wp2_with fail
          clear zH1 zH2 zW1 zW2
          refine (eqSeries_any _ _ _ _ _ L _ (by omega) H_20.out.ri W_20.out.ri).mono ?_
          rintro e w21 ⟨rfl, hb⟩
          have B21 := Lib.hid (below_step B20.out hb)
          have W_21 := Lib.hid (W_20.out.keep hb)
          have Wb_21 := Lib.hid (Wb_20.out.keep hb)
          have G_21 := Lib.hid (G_20.out.keep hb)
          have Gb_21 := Lib.hid (Gb_20.out.keep hb)
          have H_21 := Lib.hid (H_20.out.keep hb)
          have Hb_21 := Lib.hid (Hb_20.out.keep hb)
          clear hb
          obtain ⟨zG1, zG2, _⟩ := Gb_21.out
          go_wp2_with fail
          clear zG1 zG2
          refine (heldSeries_any _ _ _ L.length 1 _ (by omega) (by omega) (by omega) G_21.out.ri).mono ?_
          rintro e w22 ⟨rfl, hb⟩
          have B22 := Lib.hid (below_step B21.out hb)
          have G_22 := Lib.hid (G_21.out.keep hb)
          have Gb_22 := Lib.hid (Gb_21.out.keep hb)
          clear hb
          go_wp2
          go_ret
          exact ⟨rfl, below_step HB.out B22.out⟩
    · skip
      obtain ⟨W, hW, x0, x1, hwb⟩ := start2 40 w m0 A0 l0.length c0 m1 A1 l1.length c1
      have X0 := Lib.hid x0
      have X1 := Lib.hid x1
      have HW := Lib.hid hW
      have HB := Lib.hid hwb
      have HRA0 := Lib.hid (RA.below ra0 hwb)
      have HRA1 := Lib.hid (RA.below ra1 hwb)
      have B0 := Lib.hid (Below.refl W.heap.size W)
      clear hW hwb x0 ra0 x1 ra1
      go_enter Try.func10, Try.ntmps10
      go_wp2_with fail
      rw [HW.out]
      refine (szSeries_ok _ _ _ _ _ _ (by omega) (by omega)).mono ?_
      rintro e w1 ⟨rfl, hb⟩
      have B1 := Lib.hid (below_step B0.out hb)
      clear hb
      obtain ⟨zp1, zq1⟩ := box_in X1.out B1.out
      go_wp2_with fail
      clear zp1 zq1
      refine (szSeries_no _ _ _ _ _ _ (by omega) (by omega) (by omega) (by omega)).mono ?_
      rintro e w2 ⟨rfl, hb⟩
      have B2 := Lib.hid (below_step B1.out hb)
      clear hb
      go_wp2
      go_ret
      exact ⟨rfl, below_step HB.out B2.out⟩
  · skip
    obtain ⟨W, hW, x0, x1, hwb⟩ := start2 40 w m0 A0 l0.length c0 m1 A1 l1.length c1
    have X0 := Lib.hid x0
    have X1 := Lib.hid x1
    have HW := Lib.hid hW
    have HB := Lib.hid hwb
    have HRA0 := Lib.hid (RA.below ra0 hwb)
    have HRA1 := Lib.hid (RA.below ra1 hwb)
    have B0 := Lib.hid (Below.refl W.heap.size W)
    clear hW hwb x0 ra0 x1 ra1
    go_enter Try.func10, Try.ntmps10
    go_wp2_with fail
    rw [HW.out]
    refine (szSeries_no _ _ _ _ _ _ (by omega) (by omega) (by omega) (by omega)).mono ?_
    rintro e w1 ⟨rfl, hb⟩
    have B1 := Lib.hid (below_step B0.out hb)
    clear hb
    go_wp2
    go_ret
    exact ⟨rfl, below_step HB.out B1.out⟩

set_option maxRecDepth 100000 in
theorem lifted (os : Os) (started : os.Started) (H : Type) (enc : TypeId × Value → H) :
    ReturnsInHanded {} Try.checked os 10 .any (Rows.fnExactComposeSeriesSpec.pre6 enc Try.prog Try.f10 Rows.fnExactComposeSeriesRow.domain false) (Rows.fnExactComposeSeriesSpec.post enc Try.prog Try.f10 false true false false) := by
  refine returnsInHanded_of_change (C := Try.checked) own started (by kernel_rfl) Try.func10
    (ChangeSpec.witness6 (enc := enc) (C := Try.checked) false ⟨#[], #[.agg #[.int .i64 0, .slice none 0 0], .agg #[.int .i64 0, .slice none 0 0]], []⟩ 8 (by kernel_rfl) (by kernel_rfl) (by kernel_rfl) (by kernel_rfl)) ?_
  intro W base args ds gs before hval0 hW hcnd _
  have hval : ∀ (j : Nat) t v, Try.f10.params[j]? = some t → args[j]? = some v → Value.okWide Try.prog W .any base t v := hval0
  have hW' := hW
  obtain ⟨p, q, hA0, hV, rfl, hfz, hnd⟩ := hW
  have hA : DataW.TrodAll enc Try.prog W 0 (fun _ => true) true Try.f10.params.toList args.toList ds p := hA0
  rw [Try.params10] at hA hval
  obtain ⟨v0, vs0, d0, ds0, p0, q0, hargs, rfl, rfl, h0, r0⟩ := trodAll_cons hA
  obtain ⟨v1, vs1, d1, ds1, p1, q1, rfl, rfl, rfl, h1, r1⟩ := trodAll_cons r0
  obtain ⟨rfl, rfl, rfl⟩ := trodAll_nil r1
  obtain rfl : args = #[v0, v1] := by cases args; simp_all
  obtain ⟨rfl, rfl⟩ := trodVars_none hV
  have t0 := h0
  have lt0 : ∀ x ∈ p0, x.block < W.heap.size := by obtain ⟨m, hm⟩ := t0; exact DataW.trod_lt m _ _ _ hm
  obtain ⟨m0, A0, c0, l0, rfl, hm0, ra0⟩ := open_ser (hval 0 40 v0 rfl rfl) h0
  have t1 := h1
  have lt1 : ∀ x ∈ p1, x.block < W.heap.size := by obtain ⟨m, hm⟩ := t1; exact DataW.trod_lt m _ _ _ hm
  obtain ⟨m1, A1, c1, l1, rfl, hm1, ra1⟩ := open_ser (hval 1 40 v1 rfl rfl) h1
  clear hA0 hval0
  refine (walk m0 A0 c0 l0 m1 A1 c1 l1 W hm0 ra0 hm1 ra1).mono fun e W' ⟨he, bel⟩ => ?_
  subst he
  exact ⟨_, rfl, _, _, _, [], _, [], hW', trodAll_mk1 (shut_bool Try.underlying4 _), (trodAll_cons_mk (Below.trod laidOut (by kernel_rfl) (of_decide_eq_true (by kernel_rfl)) t0 bel lt0) (trodAll_cons_mk (Below.trod laidOut (by kernel_rfl) (of_decide_eq_true (by kernel_rfl)) t1 bel lt1) trodAll_mk0)), rfl, bel.frame _, fun h => by cases h⟩

theorem over : Rows.fnExactComposeSeriesRow.holds Try.pinned (OpenSpec.ofChange Rows.fnExactComposeSeriesSpec) :=
  OpenClaim.holds_of_wide 10 Try.f10 rfl rfl rfl rfl rfl rfl rfl ⟨rfl, rfl, rfl, rfl, rfl⟩ rfl rfl rfl rfl rfl (by kernel_rfl) Try.func10 (by kernel_rfl)
    (of_decide_eq_true (by kernel_rfl)) (by unfold Func.isWrapper; first | (rw [if_pos (by decide +kernel)]; kernel_rfl) | (rw [if_neg (by decide +kernel)]; exact ⟨rfl, rfl⟩))
    (fun os started H enc _ => lifted os started H enc)

theorem proved : Rows.FnExactComposeSeriesSaid := over
#print axioms proved
end Go.Proofs.Ytcnkpfikafaocaa.fnExactComposeSeries
