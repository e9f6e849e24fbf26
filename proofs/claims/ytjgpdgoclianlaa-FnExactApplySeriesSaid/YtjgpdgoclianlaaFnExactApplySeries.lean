/- ApplySeries answers as its model at all arguments, leaves them alone, and owns its answer. No conditions. The frame follows the one that the kit prints for a law. -/
import Derived.Test.YtjgpdgoclianlaaRows
import Derived.Test.YtjgpdgoclianlaaPar
import Derived.Test.YtjgpdgoclianlaaExa
import Derived.Test.YtjgpdgoclianlaaFrp
import Derived.WalkKit
import Derived.ProofKit
import Derived.OpenShut
import Derived.ShutString
import Derived.ChangeOld
import Derived.Below
import Derived.Deep.DeepCutAuto
namespace Go.Proofs.Ytjgpdgoclianlaa.fnExactApplySeries
open Go.ChangeShapes Go.WideShapes Go.ChangeAt Go.RowKit
set_option linter.unusedVariables false

theorem own : ownKnob Try.prog.godebug = none := by kernel_rfl
theorem laidOut : laidOutB Try.prog = true := by kernel_rfl

set_option maxHeartbeats 32000000 in
set_option maxRecDepth 100000 in
theorem walk (m0 : Int) (A0 : Option Addr) (c0 : Nat) (l0 : List Int) (m1 : Int) (A1 : Option Addr) (c1 : Nat) (t1 : List (List Int)) (w : World) (hm0 : l0.length ≤ maxLen) (ra0 : RA w A0 l0) (hm1 : t1.length ≤ 9223372036854775807 ∧ ∀ k, (Pl.rw' t1 k).length ≤ 9223372036854775807) (ra1 : RQ w A1 t1) :
    Calls Try.prog 13 #[.agg #[.int .i64 m0, .slice A0 l0.length c0], .agg #[.int .i64 m1, .slice A1 t1.length c1]] w fun e w' => e = .returned (.bool true) ∧ Below w.heap.size w w' := by
  unfold maxLen at hm0
  by_cases h0 : (l0.length : Int) ≤ 1048576
  · have u0 : l0.length ≤ 1048576 := by omega
    by_cases h1 : ((szT t1 : Nat) : Int) ≤ 1048576 - (l0.length : Int)
    · have u1 : szT t1 ≤ 1048576 := by omega
      have v1 : tot t1 ≤ 1048576 := by unfold szT at u1; omega
      obtain ⟨M, L, C, hMLC⟩ : ∃ M L C, appP m0 l0 m1 t1 = (M, L, C) := ⟨_, _, _, rfl⟩
      have hL : szT L ≤ 1048576 := by have := appP_len m0 l0 m1 t1; rw [hMLC] at this; exact this
      have hLt : tot L ≤ 1048576 := by unfold szT at hL; omega
      have HS : Hid (∀ (A0 : Option Addr) (c0 : Nat) (A1 : Option Addr) (c1 : Nat) (W : World), RI W A0 l0 → RP W A1 t1 → Calls Try.prog 46 #[.agg #[.int .i64 m0, .slice A0 l0.length c0], .agg #[.int .i64 m1, .slice A1 t1.length c1]] W fun e w' => ∃ s, e = .returned (.tuple #[.agg #[.int .i64 M, s], .int .i64 C]) ∧ OwnR w' W.heap.size w'.heap.size s L ∧ Below W.heap.size W w') :=
        Lib.hid (fun A0 c0 A1 c1 W r0 r1 => by have := sApplySeries_any m0 A0 c0 l0 m1 A1 c1 t1 W (by omega) (by omega) r0 r1; rw [hMLC] at this; exact this)
      have HI : Hid (∀ (A0 : Option Addr) (c0 : Nat) (A1 : Option Addr) (c1 : Nat) (W : World), RI W A0 l0 → RP W A1 t1 → Calls Try.prog 47 #[.agg #[.int .i64 m0, .slice A0 l0.length c0], .agg #[.int .i64 m1, .slice A1 t1.length c1]] W fun e w' => ∃ s, e = .returned (.tuple #[.agg #[.int .i64 M, s], .int .i64 C]) ∧ OwnR w' W.heap.size w'.heap.size s L ∧ Below W.heap.size W w') :=
        Lib.hid (fun A0 c0 A1 c1 W r0 r1 => by have := ApplySeries_any m0 A0 c0 l0 m1 A1 c1 t1 W (by omega) (by omega) r0 r1; rw [hMLC] at this; exact this)
      obtain ⟨W, hW, x0, x1, hwb⟩ := startB2 47 24 w m0 A0 l0.length c0 m1 A1 t1.length c1
      have X0 := Lib.hid x0
      have X1 := Lib.hid x1
      have HW := Lib.hid hW
      have HB := Lib.hid hwb
      have HRA0 := Lib.hid (RA.below ra0 hwb)
      have HRA1 := Lib.hid (RQ.below ra1 hwb)
      have B0 := Lib.hid (Below.refl W.heap.size W)
      clear hW hwb x0 ra0 x1 ra1
      clear hMLC
      go_enter Try.func13, Try.ntmps13
      go_wp2_with fail
      rw [HW.out]
      refine (szSeries_ok _ _ _ _ _ _ (by omega) (by omega)).mono ?_
      rintro e w1 ⟨rfl, hb⟩
      have B1 := Lib.hid (below_step B0.out hb)
      have Z1 := Lib.hid (Below.size hb)
      clear hb
      obtain ⟨zp1, zq1⟩ := box_in X1.out B1.out
      go_wp2_with fail
      clear zp1 zq1
      refine (szPlane_ok _ _ _ _ _ _ (by omega) (by omega) (HRA1.out.below B1.out)).mono ?_
      rintro e w2 ⟨rfl, hb⟩
      have B2 := Lib.hid (below_step B1.out hb)
      have Z2 := Lib.hid (Below.size hb)
      clear hb
      have Y0 := Lib.hid (X0.out.keep B2.out)
      have Y1 := Lib.hid (X1.out.keep B2.out)
      go_upto_region 8 with fail
      go_cut [6, 7] (fun s6 s7 wx => ∃ g A c, s6 = .pointer (some ⟨g, 0, none⟩) ∧ s7 = .int .i64 C ∧ OwnR wx w2.heap.size wx.heap.size (.slice A L.length c) L ∧ Box wx g M A L.length c ∧ w2.heap.size ≤ g ∧ Below w2.heap.size w2 wx)
      case first =>
        go_region_held3 (fun w' => (w'.cell? ⟨w.heap.size, 0, none⟩ = some (.int .i64 m0) ∧ w'.cell? ⟨w.heap.size, 1, none⟩ = some (.slice A0 l0.length c0)) ∧ (w'.cell? ⟨w.heap.size + 1, 0, none⟩ = some (.int .i64 m1) ∧ w'.cell? ⟨w.heap.size + 1, 1, none⟩ = some (.slice A1 t1.length c1)) ∧ Below w2.heap.size w2 w') (first | exact box2_in Y0.out Y1.out (below_drew0 _) | exact box2_in Y0.out Y1.out hka | exact box2_in Y0.out Y1.out hkb | exact box2_in Y0.out Y1.out hbel | exact box2_alloc Y0.out Y1.out (by assumption) | exact box2_in Y0.out Y1.out (below_alloc _ hbel) | exact box2_in Y0.out Y1.out (reg_finP hwg hgc hv hod hbel M).2.2) (first
          | (go_at_call 39; with_reducible refine Calls.mono (toSeries_any m0 A0 c0 l0 _ u0 (HRA0.out.below (below_step B2.out (trd (by assumption))))) ?_; rintro e wa ⟨sa, rfl, hoa, hba⟩; obtain ⟨Aa, ca, rfl, _⟩ := hoa.form; obtain ⟨hka, _⟩ := reg_end2 (by assumption) hba)
          | (go_at_call 18; with_reducible refine Calls.mono (toPlane_any m1 A1 c1 t1 _ u1 (HRA1.out.below (below_step B2.out (trd (by assumption))))) ?_; rintro e wb ⟨sb, rfl, hob, hbb⟩; obtain ⟨Ab, cb, rfl, _⟩ := hob.len; obtain ⟨hkb, _⟩ := reg_end2 (by assumption) hbb)
          | (with_reducible refine Calls.mono (HS.out _ _ _ _ _ (by first | exact hoa.ri | exact (hoa.ri.below (below_one _ _)) | exact (hoa.ri.below hbb) | exact (hoa.ri.below (below_step (below_one _ _) hbb)) | exact ((hoa.ri.below hbb).below (below_one _ _))) (by first | exact hob.rp | exact (hob.rp.below (below_one _ _)) | exact (hob.rp.below hba) | exact (hob.rp.below (below_step (below_one _ _) hba)) | exact ((hob.rp.below hba).below (below_one _ _)))) ?_; rintro e wd ⟨sd, rfl, hod, hbd⟩; obtain ⟨Ad, cd, rfl, _⟩ := hod.len; obtain ⟨hbel, hle⟩ := reg_end2 (by assumption) hbd; first | (refine use_it (varC_keep ((((VarC.new 27 w2 _).drew).keep hbb).keep hba) hbd) ?_; rintro ⟨hv, hgc⟩; have hwg := varC_at (k := w2.heap.size) hv (by first | exact Nat.le_refl _ | exact hka.size | exact hkb.size); have q0 := hv.cell 0 _ rfl; have q1 := hv.cell 1 _ rfl; simp only [List.getElem_toArray, List.getElem_cons_zero, List.getElem_cons_succ] at q0 q1; have q2 := hv.fz 0; have q3 := hv.fz 1) | (refine use_it (varC_keep ((((VarC.new 27 w2 _).drew).keep hba).keep hbb) hbd) ?_; rintro ⟨hv, hgc⟩; have hwg := varC_at (k := w2.heap.size) hv (by first | exact Nat.le_refl _ | exact hka.size | exact hkb.size); have q0 := hv.cell 0 _ rfl; have q1 := hv.cell 1 _ rfl; simp only [List.getElem_toArray, List.getElem_cons_zero, List.getElem_cons_succ] at q0 q1; have q2 := hv.fz 0; have q3 := hv.fz 1) | (refine use_it (varC_keep ((VarC.new 27 _ _).keep hbb) hbd) ?_; rintro ⟨hv, hgc⟩; have hwg := varC_at (k := w2.heap.size) hv (by first | exact Nat.le_refl _ | exact hka.size | exact hkb.size); have q0 := hv.cell 0 _ rfl; have q1 := hv.cell 1 _ rfl; simp only [List.getElem_toArray, List.getElem_cons_zero, List.getElem_cons_succ] at q0 q1; have q2 := hv.fz 0; have q3 := hv.fz 1) | (refine use_it (varC_keep ((VarC.new 27 _ _).keep hba) hbd) ?_; rintro ⟨hv, hgc⟩; have hwg := varC_at (k := w2.heap.size) hv (by first | exact Nat.le_refl _ | exact hka.size | exact hkb.size); have q0 := hv.cell 0 _ rfl; have q1 := hv.cell 1 _ rfl; simp only [List.getElem_toArray, List.getElem_cons_zero, List.getElem_cons_succ] at q0 q1; have q2 := hv.fz 0; have q3 := hv.fz 1) | (refine use_it (varC_keep (VarC.new 27 _ _) hbd) ?_; rintro ⟨hv, hgc⟩; have hwg := varC_at (k := w2.heap.size) hv (by first | exact Nat.le_refl _ | exact hka.size | exact hkb.size); have q0 := hv.cell 0 _ rfl; have q1 := hv.cell 1 _ rfl; simp only [List.getElem_toArray, List.getElem_cons_zero, List.getElem_cons_succ] at q0 q1; have q2 := hv.fz 0; have q3 := hv.fz 1) | skip))
        all_goals
          go_wp2_with fail
          go_meet
          case rel =>
            first
              | exact ⟨_, _, _, rfl, rfl, (reg_newP hle hod hbel M _).1, (reg_newP hle hod hbel M _).2.1, hbel.size, (reg_newP hle hod hbel M _).2.2⟩
              | exact ⟨_, _, _, rfl, rfl, (reg_finP hwg hgc hv hod hbel M).1, (reg_finP hwg hgc hv hod hbel M).2.1, hwg, (reg_finP hwg hgc hv hod hbel M).2.2⟩
      case rest =>
        obtain ⟨w3, hwc⟩ : ∃ w9, w9 = wc := ⟨_, rfl⟩
        subst hwc
        obtain ⟨gW, AW, cW, rfl, rfl, ho, hx, hgg, hb⟩ := hcut
        clear Y0 Y1
        have hgW := Lib.hid hgg
        have B3 := Lib.hid (below_step B2.out hb)
        have Z3 := Lib.hid (Below.size hb)
        have W_3 := Lib.hid ho
        have Wb_3 := Lib.hid hx
        clear ho hx hb hgg
        obtain ⟨zp0, zq0⟩ := box_in X0.out B3.out
        go_wp2_with fail
        clear zp0 zq0
        refine (toSeries_any _ _ _ l0 _ u0 (HRA0.out.below B3.out)).mono ?_
        rintro e w4 ⟨sx0, rfl, ho, hb⟩
        obtain ⟨Ax0, cx0, rfl, _⟩ := ho.form
        have B4 := Lib.hid (below_step B3.out hb)
        have Z4 := Lib.hid (Below.size hb)
        have W_4 := Lib.hid (W_3.out.keep (Below.mono hb (Nat.le_refl _)))
        have Wb_4 := Lib.hid (Wb_3.out.keep hb)
        have x0_4 := Lib.hid ho
        clear ho hb
        obtain ⟨w5, hV, hx, hb⟩ := start1 49 w4 m0 Ax0 l0.length cx0
        have B5 := Lib.hid (below_step B4.out hb)
        have Z5 := Lib.hid (Below.size hb)
        have W_5 := Lib.hid (W_4.out.keep (Below.mono hb Z4.out))
        have Wb_5 := Lib.hid (Wb_4.out.keep hb)
        have x0_5 := Lib.hid (x0_4.out.keep hb)
        have x0b_5 := Lib.hid hx
        have HV := Lib.hid hV
        clear hV hx hb
        obtain ⟨zp1, zq1⟩ := box_in X1.out B5.out
        rw [← HV.out] at zp1 zq1
        go_wp2_with fail
        rw [HV.out]
        clear HV
        clear zp1 zq1
        refine (toPlane_any _ _ _ t1 _ u1 (HRA1.out.below B5.out)).mono ?_
        rintro e w6 ⟨sx1, rfl, ho, hb⟩
        obtain ⟨Ax1, cx1, rfl, _⟩ := ho.len
        have B6 := Lib.hid (below_step B5.out hb)
        have Z6 := Lib.hid (Below.size hb)
        have W_6 := Lib.hid (W_5.out.keep (Below.mono hb (Nat.le_trans Z4.out Z5.out)))
        have Wb_6 := Lib.hid (Wb_5.out.keep hb)
        have x0_6 := Lib.hid (x0_5.out.keep hb)
        have x0b_6 := Lib.hid (x0b_5.out.keep hb)
        have x1_6 := Lib.hid ho
        clear ho hb
        obtain ⟨w7, hV, hx, hb⟩ := start1 27 w6 m1 Ax1 t1.length cx1
        have B7 := Lib.hid (below_step B6.out hb)
        have Z7 := Lib.hid (Below.size hb)
        have W_7 := Lib.hid (W_6.out.keep (Below.mono hb (Nat.le_trans Z4.out (Nat.le_trans Z5.out Z6.out))))
        have Wb_7 := Lib.hid (Wb_6.out.keep hb)
        have x0_7 := Lib.hid (x0_6.out.keep hb)
        have x0b_7 := Lib.hid (x0b_6.out.keep hb)
        have x1_7 := Lib.hid (x1_6.out.keep (Below.mono hb (Nat.le_refl _)))
        have x1b_7 := Lib.hid hx
        have HV := Lib.hid hV
        clear hV hx hb
        obtain ⟨zx01, zx02, _⟩ := x0b_7.out
        rw [← HV.out] at zx01 zx02
        go_wp2_with fail
        rw [HV.out]
        clear HV
        clear zx01 zx02
        refine (HI.out _ _ _ _ _ x0_7.out.ri x1_7.out.rp).mono ?_
        rintro e w8 ⟨sG, rfl, ho, hb⟩
        obtain ⟨AG, cG, rfl, _⟩ := ho.len
        have B8 := Lib.hid (below_step B7.out hb)
        have Z8 := Lib.hid (Below.size hb)
        have W_8 := Lib.hid (W_7.out.keep (Below.mono hb (Nat.le_trans Z4.out (Nat.le_trans Z5.out (Nat.le_trans Z6.out Z7.out)))))
        have Wb_8 := Lib.hid (Wb_7.out.keep hb)
        have x0_8 := Lib.hid (x0_7.out.keep hb)
        have x0b_8 := Lib.hid (x0b_7.out.keep hb)
        have x1_8 := Lib.hid (x1_7.out.keep (Below.mono hb Z7.out))
        have x1b_8 := Lib.hid (x1b_7.out.keep hb)
        have G_8 := Lib.hid ho
        clear ho hb
        obtain ⟨w9, hV, hx, hb⟩ := start1 27 w8 M AG L.length cG
        have B9 := Lib.hid (below_step B8.out hb)
        have Z9 := Lib.hid (Below.size hb)
        have W_9 := Lib.hid (W_8.out.keep (Below.mono hb (Nat.le_trans Z4.out (Nat.le_trans Z5.out (Nat.le_trans Z6.out (Nat.le_trans Z7.out Z8.out))))))
        have Wb_9 := Lib.hid (Wb_8.out.keep hb)
        have x0_9 := Lib.hid (x0_8.out.keep hb)
        have x0b_9 := Lib.hid (x0b_8.out.keep hb)
        have x1_9 := Lib.hid (x1_8.out.keep (Below.mono hb (Nat.le_trans Z7.out Z8.out)))
        have x1b_9 := Lib.hid (x1b_8.out.keep hb)
        have G_9 := Lib.hid (G_8.out.keep (Below.mono hb (Nat.le_refl _)))
        have Gb_9 := Lib.hid hx
        have HV := Lib.hid hV
        clear hV hx hb
        obtain ⟨zW1, zW2, _⟩ := Wb_9.out
        rw [← HV.out] at zW1 zW2
        go_wp2_with fail
        rw [HV.out]
        clear HV
        clear zW1 zW2
        refine (eqPlane_any _ _ _ _ _ _ _ L _ (by omega) G_9.out W_9.out Z9.out (Nat.le_trans Z4.out (Nat.le_trans Z5.out (Nat.le_trans Z6.out (Nat.le_trans Z7.out (Nat.le_trans Z8.out Z9.out)))))).mono ?_
        rintro e w10 ⟨rfl, hb⟩
        have B10 := Lib.hid (below_step B9.out hb)
        have Z10 := Lib.hid (Below.size hb)
        have W_10 := Lib.hid (W_9.out.keep (Below.mono hb (Nat.le_trans Z4.out (Nat.le_trans Z5.out (Nat.le_trans Z6.out (Nat.le_trans Z7.out (Nat.le_trans Z8.out Z9.out)))))))
        have Wb_10 := Lib.hid (Wb_9.out.keep hb)
        have x0_10 := Lib.hid (x0_9.out.keep hb)
        have x0b_10 := Lib.hid (x0b_9.out.keep hb)
        have x1_10 := Lib.hid (x1_9.out.keep (Below.mono hb (Nat.le_trans Z7.out (Nat.le_trans Z8.out Z9.out))))
        have x1b_10 := Lib.hid (x1b_9.out.keep hb)
        have G_10 := Lib.hid (G_9.out.keep (Below.mono hb Z9.out))
        have Gb_10 := Lib.hid (Gb_9.out.keep hb)
        clear hb
        go_wp2
        go_region_held3 (fun w' => (w'.cell? ⟨w4.heap.size, 0, none⟩ = some (.int .i64 m0) ∧ w'.cell? ⟨w4.heap.size, 1, none⟩ = some (.slice Ax0 l0.length cx0) ∧ w4.heap.size < w'.heap.size) ∧ (w'.cell? ⟨w.heap.size, 0, none⟩ = some (.int .i64 m0) ∧ w'.cell? ⟨w.heap.size, 1, none⟩ = some (.slice A0 l0.length c0) ∧ w.heap.size < w'.heap.size)) (first | exact ⟨x0b_10.out.keep (below_drew0 _), (X0.out.keep B10.out).keep (below_drew0 _)⟩ | exact box22_call (by assumption) (by assumption)) (first
          | (go_at_call 39; refine (toSeries_any _ _ _ l0 _ u0 (HRA0.out.below (below_step B10.out (below_drew0 _)))).mono ?_; rintro e wq ⟨sy, rfl, ho, hb⟩; obtain ⟨Ay, cy, rfl, _⟩ := ho.form)
          | (go_at_call 41; refine (eqSeries_any _ _ _ _ _ l0 _ (by omega) (x0_10.out.keep (below_step (below_drew0 _) hb)).ri ho.ri).mono ?_; rintro e w11 ⟨rfl, hb2⟩))
        have hb3 := below_step (below_step (below_drew0 w10) hb) hb2
        have B11 := Lib.hid (below_step B10.out hb3)
        have Z11 := Lib.hid (Below.size hb3)
        have W_11 := Lib.hid (W_10.out.keep (Below.mono hb3 (Nat.le_trans Z4.out (Nat.le_trans Z5.out (Nat.le_trans Z6.out (Nat.le_trans Z7.out (Nat.le_trans Z8.out (Nat.le_trans Z9.out Z10.out))))))))
        have Wb_11 := Lib.hid (Wb_10.out.keep hb3)
        have x0_11 := Lib.hid (x0_10.out.keep hb3)
        have x0b_11 := Lib.hid (x0b_10.out.keep hb3)
        have x1_11 := Lib.hid (x1_10.out.keep (Below.mono hb3 (Nat.le_trans Z7.out (Nat.le_trans Z8.out (Nat.le_trans Z9.out Z10.out)))))
        have x1b_11 := Lib.hid (x1b_10.out.keep hb3)
        have G_11 := Lib.hid (G_10.out.keep (Below.mono hb3 (Nat.le_trans Z9.out Z10.out)))
        have Gb_11 := Lib.hid (Gb_10.out.keep hb3)
        clear ho hb hb2 hb3
        go_wp2
        go_region_held3 (fun w' => (w'.cell? ⟨w6.heap.size, 0, none⟩ = some (.int .i64 m1) ∧ w'.cell? ⟨w6.heap.size, 1, none⟩ = some (.slice Ax1 t1.length cx1) ∧ w6.heap.size < w'.heap.size) ∧ (w'.cell? ⟨w.heap.size + 1, 0, none⟩ = some (.int .i64 m1) ∧ w'.cell? ⟨w.heap.size + 1, 1, none⟩ = some (.slice A1 t1.length c1) ∧ w.heap.size + 1 < w'.heap.size)) (first | exact ⟨x1b_11.out.keep (below_drew0 _), (X1.out.keep B11.out).keep (below_drew0 _)⟩ | exact box22_call (by assumption) (by assumption)) (first
          | (go_at_call 18; refine (toPlane_any _ _ _ t1 _ u1 (HRA1.out.below (below_step B11.out (below_drew0 _)))).mono ?_; rintro e wq ⟨sy, rfl, ho, hb⟩; obtain ⟨Ay, cy, rfl, _⟩ := ho.len)
          | (go_at_call 20; refine (eqPlane_any _ _ _ _ _ _ _ t1 _ (by omega) (x1_11.out.keep (Below.mono (below_step (below_drew0 _) hb) (Nat.le_trans Z7.out (Nat.le_trans Z8.out (Nat.le_trans Z9.out (Nat.le_trans Z10.out Z11.out)))))) ho (Nat.le_trans (Nat.le_trans Z7.out (Nat.le_trans Z8.out (Nat.le_trans Z9.out (Nat.le_trans Z10.out Z11.out)))) (below_step (below_drew0 _) hb).size) (Nat.le_refl _)).mono ?_; rintro e w12 ⟨rfl, hb2⟩))
        have hb3 := below_step (below_step (below_drew0 w11) hb) hb2
        have B12 := Lib.hid (below_step B11.out hb3)
        have Z12 := Lib.hid (Below.size hb3)
        have W_12 := Lib.hid (W_11.out.keep (Below.mono hb3 (Nat.le_trans Z4.out (Nat.le_trans Z5.out (Nat.le_trans Z6.out (Nat.le_trans Z7.out (Nat.le_trans Z8.out (Nat.le_trans Z9.out (Nat.le_trans Z10.out Z11.out)))))))))
        have Wb_12 := Lib.hid (Wb_11.out.keep hb3)
        have x0_12 := Lib.hid (x0_11.out.keep hb3)
        have x0b_12 := Lib.hid (x0b_11.out.keep hb3)
        have x1_12 := Lib.hid (x1_11.out.keep (Below.mono hb3 (Nat.le_trans Z7.out (Nat.le_trans Z8.out (Nat.le_trans Z9.out (Nat.le_trans Z10.out Z11.out))))))
        have x1b_12 := Lib.hid (x1b_11.out.keep hb3)
        have G_12 := Lib.hid (G_11.out.keep (Below.mono hb3 (Nat.le_trans Z9.out (Nat.le_trans Z10.out Z11.out))))
        have Gb_12 := Lib.hid (Gb_11.out.keep hb3)
        clear ho hb hb2 hb3
        obtain ⟨zx01, zx02, _⟩ := x0b_12.out
        go_wp2_with fail
        clear zx01 zx02
        refine (markSeries_any m0 _ _ l0 _ _ (by omega) (by omega) (by omega) x0_12.out).mono ?_
        rintro e w13 ⟨rfl, ho, hg⟩
        have hs : Span w3.heap.size w4.heap.size w12 w13 := Span.of_grown hg (fun g h => ⟨(x0_4.out.lt g h).1, (x0_4.out.lt g h).2⟩)
        clear hg
        have B13 := Lib.hid (B12.out.trans ((hs.below (Nat.le_trans Z4.out (Nat.le_trans Z5.out (Nat.le_trans Z6.out (Nat.le_trans Z7.out (Nat.le_trans Z8.out (Nat.le_trans Z9.out (Nat.le_trans Z10.out (Nat.le_trans Z11.out Z12.out))))))))).mono B3.out.size))
        have Z13 := Lib.hid hs.size
        have W_13 := Lib.hid (W_12.out.far hs (.inl (Nat.le_refl _)))
        have Wb_13 := Lib.hid (Wb_12.out.span hs (.inl (Nat.lt_of_lt_of_le Wb_3.out.2.2 (Nat.le_refl _))))
        have x0b_13 := Lib.hid (x0b_12.out.span hs (.inr (Nat.le_refl _)))
        have x1_13 := Lib.hid (x1_12.out.far hs (.inr Z5.out))
        have x1b_13 := Lib.hid (x1b_12.out.span hs (.inr (Nat.le_trans Z5.out Z6.out)))
        have G_13 := Lib.hid (G_12.out.far hs (.inr (Nat.le_trans Z5.out (Nat.le_trans Z6.out Z7.out))))
        have Gb_13 := Lib.hid (Gb_12.out.span hs (.inr (Nat.le_trans Z5.out (Nat.le_trans Z6.out (Nat.le_trans Z7.out Z8.out)))))
        have x0_13 := Lib.hid ho
        clear ho hs
        obtain ⟨zx11, zx12, _⟩ := x1b_13.out
        go_wp2_with fail
        clear zx11 zx12
        refine (markPlane_any m1 _ _ _ t1 _ _ (by omega) (by omega) (by omega) x1_13.out (Nat.le_trans Z7.out (Nat.le_trans Z8.out (Nat.le_trans Z9.out (Nat.le_trans Z10.out (Nat.le_trans Z11.out (Nat.le_trans Z12.out Z13.out))))))).mono ?_
        rintro e w14 ⟨rfl, ho, hs⟩
        have B14 := Lib.hid (B13.out.trans ((hs.below (Nat.le_trans Z6.out (Nat.le_trans Z7.out (Nat.le_trans Z8.out (Nat.le_trans Z9.out (Nat.le_trans Z10.out (Nat.le_trans Z11.out (Nat.le_trans Z12.out Z13.out)))))))).mono B5.out.size))
        have Z14 := Lib.hid hs.size
        have W_14 := Lib.hid (W_13.out.far hs (.inl (Nat.le_trans Z4.out Z5.out)))
        have Wb_14 := Lib.hid (Wb_13.out.span hs (.inl (Nat.lt_of_lt_of_le Wb_3.out.2.2 (Nat.le_trans Z4.out Z5.out))))
        have x0_14 := Lib.hid (x0_13.out.far hs (fun g h => .inl (Nat.lt_of_lt_of_le (x0_4.out.lt g h).2 Z5.out)))
        have x0b_14 := Lib.hid (x0b_13.out.span hs (.inl (Nat.lt_of_lt_of_le x0b_5.out.2.2 (Nat.le_refl _))))
        have x1b_14 := Lib.hid (x1b_13.out.span hs (.inr (Nat.le_refl _)))
        have G_14 := Lib.hid (G_13.out.far hs (.inr Z7.out))
        have Gb_14 := Lib.hid (Gb_13.out.span hs (.inr (Nat.le_trans Z7.out Z8.out)))
        have x1_14 := Lib.hid ho
        clear ho hs
        obtain ⟨zG1, zG2, _⟩ := Gb_14.out
        obtain ⟨zW1, zW2, _⟩ := Wb_14.out
        go_wp2_with fail
        clear zG1 zG2 zW1 zW2
        refine (eqPlane_any _ _ _ _ _ _ _ L _ (by omega) G_14.out W_14.out (Nat.le_trans Z9.out (Nat.le_trans Z10.out (Nat.le_trans Z11.out (Nat.le_trans Z12.out (Nat.le_trans Z13.out Z14.out))))) (Nat.le_trans Z4.out (Nat.le_trans Z5.out (Nat.le_trans Z6.out (Nat.le_trans Z7.out (Nat.le_trans Z8.out (Nat.le_trans Z9.out (Nat.le_trans Z10.out (Nat.le_trans Z11.out (Nat.le_trans Z12.out (Nat.le_trans Z13.out Z14.out))))))))))).mono ?_
        rintro e w15 ⟨rfl, hb⟩
        have B15 := Lib.hid (below_step B14.out hb)
        have Z15 := Lib.hid (Below.size hb)
        have W_15 := Lib.hid (W_14.out.keep (Below.mono hb (Nat.le_trans Z4.out (Nat.le_trans Z5.out (Nat.le_trans Z6.out (Nat.le_trans Z7.out (Nat.le_trans Z8.out (Nat.le_trans Z9.out (Nat.le_trans Z10.out (Nat.le_trans Z11.out (Nat.le_trans Z12.out (Nat.le_trans Z13.out Z14.out))))))))))))
        have Wb_15 := Lib.hid (Wb_14.out.keep hb)
        have G_15 := Lib.hid (G_14.out.keep (Below.mono hb (Nat.le_trans Z9.out (Nat.le_trans Z10.out (Nat.le_trans Z11.out (Nat.le_trans Z12.out (Nat.le_trans Z13.out Z14.out)))))))
        have Gb_15 := Lib.hid (Gb_14.out.keep hb)
        clear hb
        obtain ⟨zG1, zG2, _⟩ := Gb_15.out
        go_wp2_with fail
        clear zG1 zG2
        refine (markPlane_any M _ _ _ L _ _ (by omega) (by omega) (by omega) G_15.out (Nat.le_trans Z9.out (Nat.le_trans Z10.out (Nat.le_trans Z11.out (Nat.le_trans Z12.out (Nat.le_trans Z13.out (Nat.le_trans Z14.out Z15.out))))))).mono ?_
        rintro e w16 ⟨rfl, ho, hs⟩
        have B16 := Lib.hid (B15.out.trans ((hs.below (Nat.le_trans Z8.out (Nat.le_trans Z9.out (Nat.le_trans Z10.out (Nat.le_trans Z11.out (Nat.le_trans Z12.out (Nat.le_trans Z13.out (Nat.le_trans Z14.out Z15.out)))))))).mono B7.out.size))
        have Z16 := Lib.hid hs.size
        have W_16 := Lib.hid (W_15.out.far hs (.inl (Nat.le_trans Z4.out (Nat.le_trans Z5.out (Nat.le_trans Z6.out Z7.out)))))
        have Wb_16 := Lib.hid (Wb_15.out.span hs (.inl (Nat.lt_of_lt_of_le Wb_3.out.2.2 (Nat.le_trans Z4.out (Nat.le_trans Z5.out (Nat.le_trans Z6.out Z7.out))))))
        have Gb_16 := Lib.hid (Gb_15.out.span hs (.inr (Nat.le_refl _)))
        have G_16 := Lib.hid ho
        clear ho hs
        obtain ⟨zG1, zG2, _⟩ := Gb_16.out
        go_wp2_with fail
        clear zG1 zG2
        refine (heldPlane_any _ _ _ _ L 1 _ (by omega) (by omega) (by omega) G_16.out (Nat.le_trans Z9.out (Nat.le_trans Z10.out (Nat.le_trans Z11.out (Nat.le_trans Z12.out (Nat.le_trans Z13.out (Nat.le_trans Z14.out (Nat.le_trans Z15.out Z16.out)))))))).mono ?_
        rintro e w17 ⟨rfl, hb⟩
        have B17 := Lib.hid (below_step B16.out hb)
        have Z17 := Lib.hid (Below.size hb)
        have W_17 := Lib.hid (W_16.out.keep (Below.mono hb (Nat.le_trans Z4.out (Nat.le_trans Z5.out (Nat.le_trans Z6.out (Nat.le_trans Z7.out (Nat.le_trans Z8.out (Nat.le_trans Z9.out (Nat.le_trans Z10.out (Nat.le_trans Z11.out (Nat.le_trans Z12.out (Nat.le_trans Z13.out (Nat.le_trans Z14.out (Nat.le_trans Z15.out Z16.out))))))))))))))
        have Wb_17 := Lib.hid (Wb_16.out.keep hb)
        have G_17 := Lib.hid (G_16.out.keep (Below.mono hb (Nat.le_trans Z9.out (Nat.le_trans Z10.out (Nat.le_trans Z11.out (Nat.le_trans Z12.out (Nat.le_trans Z13.out (Nat.le_trans Z14.out (Nat.le_trans Z15.out Z16.out)))))))))
        have Gb_17 := Lib.hid (Gb_16.out.keep hb)
        clear hb
        have Y0 := Lib.hid (X0.out.keep B17.out)
        have Y1 := Lib.hid (X1.out.keep B17.out)
        go_upto_region 31 with fail
        go_cut [15, 16] (fun s6 s7 wx => ∃ g A c, s6 = .pointer (some ⟨g, 0, none⟩) ∧ s7 = .int .i64 C ∧ OwnR wx w17.heap.size wx.heap.size (.slice A L.length c) L ∧ Box wx g M A L.length c ∧ w17.heap.size ≤ g ∧ Below w17.heap.size w17 wx)
        case first =>
          go_region_held3 (fun w' => (w'.cell? ⟨w.heap.size, 0, none⟩ = some (.int .i64 m0) ∧ w'.cell? ⟨w.heap.size, 1, none⟩ = some (.slice A0 l0.length c0)) ∧ (w'.cell? ⟨w.heap.size + 1, 0, none⟩ = some (.int .i64 m1) ∧ w'.cell? ⟨w.heap.size + 1, 1, none⟩ = some (.slice A1 t1.length c1)) ∧ Below w17.heap.size w17 w') (first | exact box2_in Y0.out Y1.out (below_drew0 _) | exact box2_in Y0.out Y1.out hka | exact box2_in Y0.out Y1.out hkb | exact box2_in Y0.out Y1.out hbel | exact box2_alloc Y0.out Y1.out (by assumption) | exact box2_in Y0.out Y1.out (below_alloc _ hbel) | exact box2_in Y0.out Y1.out (reg_finP hwg hgc hv hod hbel M).2.2) (first
            | (go_at_call 39; with_reducible refine Calls.mono (toSeries_any m0 A0 c0 l0 _ u0 (HRA0.out.below (below_step B17.out (trd (by assumption))))) ?_; rintro e wa ⟨sa, rfl, hoa, hba⟩; obtain ⟨Aa, ca, rfl, _⟩ := hoa.form; obtain ⟨hka, _⟩ := reg_end2 (by assumption) hba)
            | (go_at_call 18; with_reducible refine Calls.mono (toPlane_any m1 A1 c1 t1 _ u1 (HRA1.out.below (below_step B17.out (trd (by assumption))))) ?_; rintro e wb ⟨sb, rfl, hob, hbb⟩; obtain ⟨Ab, cb, rfl, _⟩ := hob.len; obtain ⟨hkb, _⟩ := reg_end2 (by assumption) hbb)
            | (with_reducible refine Calls.mono (HI.out _ _ _ _ _ (by first | exact hoa.ri | exact (hoa.ri.below (below_one _ _)) | exact (hoa.ri.below hbb) | exact (hoa.ri.below (below_step (below_one _ _) hbb)) | exact ((hoa.ri.below hbb).below (below_one _ _))) (by first | exact hob.rp | exact (hob.rp.below (below_one _ _)) | exact (hob.rp.below hba) | exact (hob.rp.below (below_step (below_one _ _) hba)) | exact ((hob.rp.below hba).below (below_one _ _)))) ?_; rintro e wd ⟨sd, rfl, hod, hbd⟩; obtain ⟨Ad, cd, rfl, _⟩ := hod.len; obtain ⟨hbel, hle⟩ := reg_end2 (by assumption) hbd; first | (refine use_it (varC_keep ((((VarC.new 27 w17 _).drew).keep hbb).keep hba) hbd) ?_; rintro ⟨hv, hgc⟩; have hwg := varC_at (k := w17.heap.size) hv (by first | exact Nat.le_refl _ | exact hka.size | exact hkb.size); have q0 := hv.cell 0 _ rfl; have q1 := hv.cell 1 _ rfl; simp only [List.getElem_toArray, List.getElem_cons_zero, List.getElem_cons_succ] at q0 q1; have q2 := hv.fz 0; have q3 := hv.fz 1) | (refine use_it (varC_keep ((((VarC.new 27 w17 _).drew).keep hba).keep hbb) hbd) ?_; rintro ⟨hv, hgc⟩; have hwg := varC_at (k := w17.heap.size) hv (by first | exact Nat.le_refl _ | exact hka.size | exact hkb.size); have q0 := hv.cell 0 _ rfl; have q1 := hv.cell 1 _ rfl; simp only [List.getElem_toArray, List.getElem_cons_zero, List.getElem_cons_succ] at q0 q1; have q2 := hv.fz 0; have q3 := hv.fz 1) | (refine use_it (varC_keep ((VarC.new 27 _ _).keep hbb) hbd) ?_; rintro ⟨hv, hgc⟩; have hwg := varC_at (k := w17.heap.size) hv (by first | exact Nat.le_refl _ | exact hka.size | exact hkb.size); have q0 := hv.cell 0 _ rfl; have q1 := hv.cell 1 _ rfl; simp only [List.getElem_toArray, List.getElem_cons_zero, List.getElem_cons_succ] at q0 q1; have q2 := hv.fz 0; have q3 := hv.fz 1) | (refine use_it (varC_keep ((VarC.new 27 _ _).keep hba) hbd) ?_; rintro ⟨hv, hgc⟩; have hwg := varC_at (k := w17.heap.size) hv (by first | exact Nat.le_refl _ | exact hka.size | exact hkb.size); have q0 := hv.cell 0 _ rfl; have q1 := hv.cell 1 _ rfl; simp only [List.getElem_toArray, List.getElem_cons_zero, List.getElem_cons_succ] at q0 q1; have q2 := hv.fz 0; have q3 := hv.fz 1) | (refine use_it (varC_keep (VarC.new 27 _ _) hbd) ?_; rintro ⟨hv, hgc⟩; have hwg := varC_at (k := w17.heap.size) hv (by first | exact Nat.le_refl _ | exact hka.size | exact hkb.size); have q0 := hv.cell 0 _ rfl; have q1 := hv.cell 1 _ rfl; simp only [List.getElem_toArray, List.getElem_cons_zero, List.getElem_cons_succ] at q0 q1; have q2 := hv.fz 0; have q3 := hv.fz 1) | skip))
          all_goals
            go_wp2_with fail
            go_meet
            case rel =>
              first
                | exact ⟨_, _, _, rfl, rfl, (reg_newP hle hod hbel M _).1, (reg_newP hle hod hbel M _).2.1, hbel.size, (reg_newP hle hod hbel M _).2.2⟩
                | exact ⟨_, _, _, rfl, rfl, (reg_finP hwg hgc hv hod hbel M).1, (reg_finP hwg hgc hv hod hbel M).2.1, hwg, (reg_finP hwg hgc hv hod hbel M).2.2⟩
        case rest =>
          obtain ⟨w18, hwc⟩ : ∃ w9, w9 = wc := ⟨_, rfl⟩
          subst hwc
          obtain ⟨gH, AH, cH, rfl, rfl, ho, hx, hgg, hb⟩ := hcut
          clear Y0 Y1
          have hgH := Lib.hid hgg
          have B18 := Lib.hid (below_step B17.out hb)
          have Z18 := Lib.hid (Below.size hb)
          have W_18 := Lib.hid (W_17.out.keep (Below.mono hb (Nat.le_trans Z4.out (Nat.le_trans Z5.out (Nat.le_trans Z6.out (Nat.le_trans Z7.out (Nat.le_trans Z8.out (Nat.le_trans Z9.out (Nat.le_trans Z10.out (Nat.le_trans Z11.out (Nat.le_trans Z12.out (Nat.le_trans Z13.out (Nat.le_trans Z14.out (Nat.le_trans Z15.out (Nat.le_trans Z16.out Z17.out)))))))))))))))
          have Wb_18 := Lib.hid (Wb_17.out.keep hb)
          have G_18 := Lib.hid (G_17.out.keep (Below.mono hb (Nat.le_trans Z9.out (Nat.le_trans Z10.out (Nat.le_trans Z11.out (Nat.le_trans Z12.out (Nat.le_trans Z13.out (Nat.le_trans Z14.out (Nat.le_trans Z15.out (Nat.le_trans Z16.out Z17.out))))))))))
          have Gb_18 := Lib.hid (Gb_17.out.keep hb)
          have H_18 := Lib.hid ho
          have Hb_18 := Lib.hid hx
          clear ho hx hb hgg
          obtain ⟨zH1, zH2, _⟩ := Hb_18.out
          obtain ⟨zW1, zW2, _⟩ := Wb_18.out
          go_wp2_with fail
          clear zH1 zH2 zW1 zW2
          refine (eqPlane_any _ _ _ _ _ _ _ L _ (by omega) H_18.out W_18.out (Nat.le_refl _) (Nat.le_trans Z4.out (Nat.le_trans Z5.out (Nat.le_trans Z6.out (Nat.le_trans Z7.out (Nat.le_trans Z8.out (Nat.le_trans Z9.out (Nat.le_trans Z10.out (Nat.le_trans Z11.out (Nat.le_trans Z12.out (Nat.le_trans Z13.out (Nat.le_trans Z14.out (Nat.le_trans Z15.out (Nat.le_trans Z16.out (Nat.le_trans Z17.out Z18.out))))))))))))))).mono ?_
          rintro e w19 ⟨rfl, hb⟩
          have B19 := Lib.hid (below_step B18.out hb)
          have Z19 := Lib.hid (Below.size hb)
          have W_19 := Lib.hid (W_18.out.keep (Below.mono hb (Nat.le_trans Z4.out (Nat.le_trans Z5.out (Nat.le_trans Z6.out (Nat.le_trans Z7.out (Nat.le_trans Z8.out (Nat.le_trans Z9.out (Nat.le_trans Z10.out (Nat.le_trans Z11.out (Nat.le_trans Z12.out (Nat.le_trans Z13.out (Nat.le_trans Z14.out (Nat.le_trans Z15.out (Nat.le_trans Z16.out (Nat.le_trans Z17.out Z18.out))))))))))))))))
          have Wb_19 := Lib.hid (Wb_18.out.keep hb)
          have G_19 := Lib.hid (G_18.out.keep (Below.mono hb (Nat.le_trans Z9.out (Nat.le_trans Z10.out (Nat.le_trans Z11.out (Nat.le_trans Z12.out (Nat.le_trans Z13.out (Nat.le_trans Z14.out (Nat.le_trans Z15.out (Nat.le_trans Z16.out (Nat.le_trans Z17.out Z18.out)))))))))))
          have Gb_19 := Lib.hid (Gb_18.out.keep hb)
          have H_19 := Lib.hid (H_18.out.keep (Below.mono hb (Nat.le_refl _)))
          have Hb_19 := Lib.hid (Hb_18.out.keep hb)
          clear hb
          obtain ⟨zG1, zG2, _⟩ := Gb_19.out
          go_wp2_with fail
          clear zG1 zG2
          refine (heldPlane_any _ _ _ _ L 1 _ (by omega) (by omega) (by omega) G_19.out (Nat.le_trans Z9.out (Nat.le_trans Z10.out (Nat.le_trans Z11.out (Nat.le_trans Z12.out (Nat.le_trans Z13.out (Nat.le_trans Z14.out (Nat.le_trans Z15.out (Nat.le_trans Z16.out (Nat.le_trans Z17.out (Nat.le_trans Z18.out Z19.out))))))))))).mono ?_
          rintro e w20 ⟨rfl, hb⟩
          have B20 := Lib.hid (below_step B19.out hb)
          have Z20 := Lib.hid (Below.size hb)
          have G_20 := Lib.hid (G_19.out.keep (Below.mono hb (Nat.le_trans Z9.out (Nat.le_trans Z10.out (Nat.le_trans Z11.out (Nat.le_trans Z12.out (Nat.le_trans Z13.out (Nat.le_trans Z14.out (Nat.le_trans Z15.out (Nat.le_trans Z16.out (Nat.le_trans Z17.out (Nat.le_trans Z18.out Z19.out))))))))))))
          have Gb_20 := Lib.hid (Gb_19.out.keep hb)
          clear hb
          go_wp2
          go_ret
          exact ⟨rfl, below_step HB.out B20.out⟩
    · skip
      obtain ⟨W, hW, x0, x1, hwb⟩ := startB2 47 24 w m0 A0 l0.length c0 m1 A1 t1.length c1
      have X0 := Lib.hid x0
      have X1 := Lib.hid x1
      have HW := Lib.hid hW
      have HB := Lib.hid hwb
      have HRA0 := Lib.hid (RA.below ra0 hwb)
      have HRA1 := Lib.hid (RQ.below ra1 hwb)
      have B0 := Lib.hid (Below.refl W.heap.size W)
      clear hW hwb x0 ra0 x1 ra1
      go_enter Try.func13, Try.ntmps13
      go_wp2_with fail
      rw [HW.out]
      refine (szSeries_ok _ _ _ _ _ _ (by omega) (by omega)).mono ?_
      rintro e w1 ⟨rfl, hb⟩
      have B1 := Lib.hid (below_step B0.out hb)
      have Z1 := Lib.hid (Below.size hb)
      clear hb
      obtain ⟨zp1, zq1⟩ := box_in X1.out B1.out
      go_wp2_with fail
      clear zp1 zq1
      refine (szPlane_no _ _ _ _ _ _ (by omega) (by omega) (by omega) (HRA1.out.below B1.out) hm1.1 hm1.2).mono ?_
      rintro e w2 ⟨rfl, hb⟩
      have B2 := Lib.hid (below_step B1.out hb)
      have Z2 := Lib.hid (Below.size hb)
      clear hb
      go_wp2
      go_ret
      exact ⟨rfl, below_step HB.out B2.out⟩
  · skip
    obtain ⟨W, hW, x0, x1, hwb⟩ := startB2 47 24 w m0 A0 l0.length c0 m1 A1 t1.length c1
    have X0 := Lib.hid x0
    have X1 := Lib.hid x1
    have HW := Lib.hid hW
    have HB := Lib.hid hwb
    have HRA0 := Lib.hid (RA.below ra0 hwb)
    have HRA1 := Lib.hid (RQ.below ra1 hwb)
    have B0 := Lib.hid (Below.refl W.heap.size W)
    clear hW hwb x0 ra0 x1 ra1
    go_enter Try.func13, Try.ntmps13
    go_wp2_with fail
    rw [HW.out]
    refine (szSeries_no _ _ _ _ _ _ (by omega) (by omega) (by omega) (by omega)).mono ?_
    rintro e w1 ⟨rfl, hb⟩
    have B1 := Lib.hid (below_step B0.out hb)
    have Z1 := Lib.hid (Below.size hb)
    clear hb
    go_wp2
    go_ret
    exact ⟨rfl, below_step HB.out B1.out⟩

set_option maxRecDepth 100000 in
theorem lifted (os : Os) (started : os.Started) (H : Type) (enc : TypeId × Value → H) :
    ReturnsInHanded {} Try.checked os 13 .any (Rows.fnExactApplySeriesSpec.pre6 enc Try.prog Try.f13 Rows.fnExactApplySeriesRow.domain false) (Rows.fnExactApplySeriesSpec.post enc Try.prog Try.f13 false true false false) := by
  refine returnsInHanded_of_change (C := Try.checked) own started (by kernel_rfl) Try.func13
    (ChangeSpec.witness6 (enc := enc) (C := Try.checked) false ⟨#[], #[.agg #[.int .i64 0, .slice none 0 0], .agg #[.int .i64 0, .slice none 0 0]], []⟩ 8 (by kernel_rfl) (by kernel_rfl) (by kernel_rfl) (by kernel_rfl)) ?_
  intro W base args ds gs before hval0 hW hcnd _
  have hval : ∀ (j : Nat) t v, Try.f13.params[j]? = some t → args[j]? = some v → Value.okWide Try.prog W .any base t v := hval0
  have hW' := hW
  obtain ⟨p, q, hA0, hV, rfl, hfz, hnd⟩ := hW
  have hA : DataW.TrodAll enc Try.prog W 0 (fun _ => true) true Try.f13.params.toList args.toList ds p := hA0
  rw [Try.params13] at hA hval
  obtain ⟨v0, vs0, d0, ds0, p0, q0, hargs, rfl, rfl, h0, r0⟩ := trodAll_cons hA
  obtain ⟨v1, vs1, d1, ds1, p1, q1, rfl, rfl, rfl, h1, r1⟩ := trodAll_cons r0
  obtain ⟨rfl, rfl, rfl⟩ := trodAll_nil r1
  obtain rfl : args = #[v0, v1] := by cases args; simp_all
  obtain ⟨rfl, rfl⟩ := trodVars_none hV
  have t0 := h0
  have lt0 : ∀ x ∈ p0, x.block < W.heap.size := by obtain ⟨m, hm⟩ := t0; exact DataW.trod_lt m _ _ _ hm
  obtain ⟨m0, A0, c0, l0, rfl, hm0, ra0⟩ := open_ser (hval 0 47 v0 rfl rfl) h0
  have t1 := h1
  have lt1 : ∀ x ∈ p1, x.block < W.heap.size := by obtain ⟨m, hm⟩ := t1; exact DataW.trod_lt m _ _ _ hm
  obtain ⟨m1, A1, c1, l1, rfl, hm1, ra1⟩ := open_pla (hval 1 24 v1 rfl rfl) h1
  clear hA0 hval0
  refine (walk m0 A0 c0 l0 m1 A1 c1 l1 W hm0 ra0 hm1 ra1).mono fun e W' ⟨he, bel⟩ => ?_
  subst he
  exact ⟨_, rfl, _, _, _, [], _, [], hW', trodAll_mk1 (shut_bool Try.underlying4 _), (trodAll_cons_mk (Below.trod laidOut (by kernel_rfl) (of_decide_eq_true (by kernel_rfl)) t0 bel lt0) (trodAll_cons_mk (Below.trod laidOut (by kernel_rfl) (of_decide_eq_true (by kernel_rfl)) t1 bel lt1) trodAll_mk0)), rfl, bel.frame _, fun h => by cases h⟩

theorem over : Rows.fnExactApplySeriesRow.holds Try.pinned (OpenSpec.ofChange Rows.fnExactApplySeriesSpec) :=
  OpenClaim.holds_of_wide 13 Try.f13 rfl rfl rfl rfl rfl rfl rfl ⟨rfl, rfl, rfl, rfl, rfl⟩ rfl rfl rfl rfl rfl (by kernel_rfl) Try.func13 (by kernel_rfl)
    (of_decide_eq_true (by kernel_rfl)) (by unfold Func.isWrapper; first | (rw [if_pos (by decide +kernel)]; kernel_rfl) | (rw [if_neg (by decide +kernel)]; exact ⟨rfl, rfl⟩))
    (fun os started H enc _ => lifted os started H enc)

theorem proved : Rows.FnExactApplySeriesSaid := over
#print axioms proved
end Go.Proofs.Ytjgpdgoclianlaa.fnExactApplySeries
