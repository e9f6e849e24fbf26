/- FirstDifference answers as its model at all arguments, leaves them alone, and owns its answer. No conditions. The frame follows the one that the kit prints for a law. -/
import Derived.Test.YteicllnbphljnaaRows
import Derived.Test.YteicllnbphljnaaMgal
import Derived.Test.YteicllnbphljnaaMgaa
import Derived.Test.YteicllnbphljnaaMgag
import Derived.WalkKit
import Derived.ProofKit
import Derived.OpenShut
import Derived.ShutString
import Derived.ChangeOld
import Derived.Below
import Derived.Deep.DeepCutAuto
namespace Go.Proofs.Yteicllnbphljnaa.fnExactFirstDifference
open Go.ChangeShapes Go.WideShapes Go.ChangeAt Go.RowKit
set_option linter.unusedVariables false

set_option maxHeartbeats 32000000 in
set_option maxRecDepth 100000 in
theorem walk (m0 : Int) (A0 : Option Addr) (c0 : Nat) (t0 : List (List Int)) (m1 : Int) (A1 : Option Addr) (c1 : Nat) (t1 : List (List Int)) (w : World) (hm0 : t0.length ≤ 9223372036854775807 ∧ ∀ k, (Pl.rw' t0 k).length ≤ 9223372036854775807) (ra0 : RQ w A0 t0) (hm1 : t1.length ≤ 9223372036854775807 ∧ ∀ k, (Pl.rw' t1 k).length ≤ 9223372036854775807) (ra1 : RQ w A1 t1) :
    Calls Try.prog 16 #[.agg #[.int .i64 m0, .slice A0 t0.length c0], .agg #[.int .i64 m1, .slice A1 t1.length c1]] w fun e w' => e = .returned (.bool true) ∧ Below w.heap.size w w' := by
  by_cases h0 : ((szT t0 : Nat) : Int) ≤ 1048576
  · have u0 : szT t0 ≤ 1048576 := by omega
    have v0 : tot t0 ≤ 1048576 := by unfold szT at u0; omega
    by_cases h1 : ((szT t1 : Nat) : Int) ≤ 1048576 - ((szT t0 : Nat) : Int)
    · have u1 : szT t1 ≤ 1048576 := by omega
      have v1 : tot t1 ≤ 1048576 := by unfold szT at u1; omega
      obtain ⟨L, C, hLC⟩ : ∃ L C, fdiL m0 t0 m1 t1 = (L, C) := ⟨_, _, rfl⟩
      have hL : L.length ≤ 1048576 := by have := fdiL_len m0 t0 m1 t1; rw [hLC] at this; exact this
      have HS : Hid (∀ (A0 : Option Addr) (c0 : Nat) (A1 : Option Addr) (c1 : Nat) (W : World), RP W A0 t0 → RP W A1 t1 → Calls Try.prog 56 #[.agg #[.int .i64 m0, .slice A0 t0.length c0], .agg #[.int .i64 m1, .slice A1 t1.length c1]] W fun e w' => ∃ s, e = .returned (.tuple #[s, .int .i64 C]) ∧ OwnI w' W.heap.size s L ∧ Below W.heap.size W w') :=
        Lib.hid (fun A0 c0 A1 c1 W r0 r1 => by have := sFirstDifference_any m0 A0 c0 t0 m1 A1 c1 t1 W (by omega) (by omega) r0 r1; rw [hLC] at this; exact this)
      have HI : Hid (∀ (A0 : Option Addr) (c0 : Nat) (A1 : Option Addr) (c1 : Nat) (W : World), RP W A0 t0 → RP W A1 t1 → Calls Try.prog 57 #[.agg #[.int .i64 m0, .slice A0 t0.length c0], .agg #[.int .i64 m1, .slice A1 t1.length c1]] W fun e w' => ∃ s, e = .returned (.tuple #[s, .int .i64 C]) ∧ OwnI w' W.heap.size s L ∧ Below W.heap.size W w') :=
        Lib.hid (fun A0 c0 A1 c1 W r0 r1 => by have := FirstDifference_any m0 A0 c0 t0 m1 A1 c1 t1 W (by omega) (by omega) r0 r1; rw [hLC] at this; exact this)
      obtain ⟨W, hW, x0, x1, hwb⟩ := startB2 24 24 w m0 A0 t0.length c0 m1 A1 t1.length c1
      have X0 := Lib.hid x0
      have X1 := Lib.hid x1
      have HW := Lib.hid hW
      have HB := Lib.hid hwb
      have HRA0 := Lib.hid (RQ.below ra0 hwb)
      have HRA1 := Lib.hid (RQ.below ra1 hwb)
      have B0 := Lib.hid (Below.refl W.heap.size W)
      clear hW hwb x0 ra0 x1 ra1
      clear hLC
      go_enter Try.func16, Try.ntmps16
      go_wp2_with fail
      rw [HW.out]
      refine (szPlane_ok _ _ _ _ _ _ (by omega) (by omega) (HRA0.out.below B0.out)).mono ?_
      rintro e w1 ⟨rfl, hb⟩
      have B1 := Lib.hid (below_step B0.out hb)
      have Z1 := Lib.hid (Below.size hb)
      clear hb
      obtain ⟨zp1, zq1⟩ := box_in X1.out B1.out
      go_wp2_with fail
      clear zp1 zq1
      refine (szPlane_ok _ _ _ _ _ _ (by omega) (by omega) (HRA1.out.below B1.out)).mono ?_
      rintro e w2 ⟨rfl, hb⟩
      have B2 := Lib.hid (below_step B1.out hb)
      have Z2 := Lib.hid (Below.size hb)
      clear hb
      have Y0 := Lib.hid (X0.out.keep B2.out)
      have Y1 := Lib.hid (X1.out.keep B2.out)
      go_upto_region 8 with fail
      go_cut [6, 7] (fun s6 s7 wx => ∃ A c, s6 = .slice A L.length c ∧ s7 = .int .i64 C ∧ OwnI wx w2.heap.size (.slice A L.length c) L ∧ Below w2.heap.size w2 wx)
      case first =>
        go_region_held3 (fun w' => (w'.cell? ⟨w.heap.size, 0, none⟩ = some (.int .i64 m0) ∧ w'.cell? ⟨w.heap.size, 1, none⟩ = some (.slice A0 t0.length c0)) ∧ (w'.cell? ⟨w.heap.size + 1, 0, none⟩ = some (.int .i64 m1) ∧ w'.cell? ⟨w.heap.size + 1, 1, none⟩ = some (.slice A1 t1.length c1)) ∧ Below w2.heap.size w2 w') (first | exact box2_in Y0.out Y1.out (below_drew0 _) | exact box2_in Y0.out Y1.out hka | exact box2_in Y0.out Y1.out hkb | exact box2_in Y0.out Y1.out hbel | exact box2_alloc Y0.out Y1.out (by assumption)) (first
          | (go_at_call 20; with_reducible refine Calls.mono (toPlane_any m0 A0 c0 t0 _ u0 (HRA0.out.below (below_step B2.out (trd (by assumption))))) ?_; rintro e wa ⟨sa, rfl, hoa, hba⟩; obtain ⟨Aa, ca, rfl, _⟩ := hoa.len; obtain ⟨hka, _⟩ := reg_end2 (by assumption) hba)
          | (go_at_call 20; with_reducible refine Calls.mono (toPlane_any m1 A1 c1 t1 _ u1 (HRA1.out.below (below_step B2.out (trd (by assumption))))) ?_; rintro e wb ⟨sb, rfl, hob, hbb⟩; obtain ⟨Ab, cb, rfl, _⟩ := hob.len; obtain ⟨hkb, _⟩ := reg_end2 (by assumption) hbb)
          | (with_reducible refine Calls.mono (HS.out _ _ _ _ _ (by first | exact hoa.rp | exact (hoa.rp.below hbb)) (by first | exact hob.rp | exact (hob.rp.below hba))) ?_; rintro e wd ⟨sd, rfl, hod, hbd⟩; obtain ⟨Ad, cd, rfl, _⟩ := hod.form; obtain ⟨hbel, hle⟩ := reg_end2 (by assumption) hbd))
        all_goals
          go_wp2_with fail
          go_meet
          case rel => exact ⟨_, _, rfl, rfl, hod.more hle, hbel⟩
      case rest =>
        obtain ⟨w3, hwc⟩ : ∃ w9, w9 = wc := ⟨_, rfl⟩
        subst hwc
        obtain ⟨AW, cW, rfl, rfl, ho, hb⟩ := hcut
        clear Y0 Y1
        have B3 := Lib.hid (below_step B2.out hb)
        have Z3 := Lib.hid (Below.size hb)
        have W_3 := Lib.hid ho
        clear ho hb
        obtain ⟨zp0, zq0⟩ := box_in X0.out B3.out
        go_wp2_with fail
        clear zp0 zq0
        refine (toPlane_any _ _ _ t0 _ u0 (HRA0.out.below B3.out)).mono ?_
        rintro e w4 ⟨sx0, rfl, ho, hb⟩
        obtain ⟨Ax0, cx0, rfl, _⟩ := ho.len
        have B4 := Lib.hid (below_step B3.out hb)
        have Z4 := Lib.hid (Below.size hb)
        have W_4 := Lib.hid (W_3.out.keep hb)
        have x0_4 := Lib.hid ho
        clear ho hb
        obtain ⟨w5, hV, hx, hb⟩ := start1 33 w4 m0 Ax0 t0.length cx0
        have B5 := Lib.hid (below_step B4.out hb)
        have Z5 := Lib.hid (Below.size hb)
        have W_5 := Lib.hid (W_4.out.keep hb)
        have x0_5 := Lib.hid (x0_4.out.keep (Below.mono hb (Nat.le_refl _)))
        have x0b_5 := Lib.hid hx
        have HV := Lib.hid hV
        clear hV hx hb
        obtain ⟨zp1, zq1⟩ := box_in X1.out B5.out
        rw [← HV.out] at zp1 zq1
        go_wp2_with fail
        rw [HV.out]
        clear HV
        clear zp1 zq1
        refine (toPlane_any _ _ _ t1 _ u1 (HRA1.out.below B5.out)).mono ?_
        rintro e w6 ⟨sx1, rfl, ho, hb⟩
        obtain ⟨Ax1, cx1, rfl, _⟩ := ho.len
        have B6 := Lib.hid (below_step B5.out hb)
        have Z6 := Lib.hid (Below.size hb)
        have W_6 := Lib.hid (W_5.out.keep hb)
        have x0_6 := Lib.hid (x0_5.out.keep (Below.mono hb Z5.out))
        have x0b_6 := Lib.hid (x0b_5.out.keep hb)
        have x1_6 := Lib.hid ho
        clear ho hb
        obtain ⟨w7, hV, hx, hb⟩ := start1 33 w6 m1 Ax1 t1.length cx1
        have B7 := Lib.hid (below_step B6.out hb)
        have Z7 := Lib.hid (Below.size hb)
        have W_7 := Lib.hid (W_6.out.keep hb)
        have x0_7 := Lib.hid (x0_6.out.keep (Below.mono hb (Nat.le_trans Z5.out Z6.out)))
        have x0b_7 := Lib.hid (x0b_6.out.keep hb)
        have x1_7 := Lib.hid (x1_6.out.keep (Below.mono hb (Nat.le_refl _)))
        have x1b_7 := Lib.hid hx
        have HV := Lib.hid hV
        clear hV hx hb
        obtain ⟨zx01, zx02, _⟩ := x0b_7.out
        rw [← HV.out] at zx01 zx02
        go_wp2_with fail
        rw [HV.out]
        clear HV
        clear zx01 zx02
        refine (HI.out _ _ _ _ _ x0_7.out.rp x1_7.out.rp).mono ?_
        rintro e w8 ⟨sG, rfl, ho, hb⟩
        obtain ⟨AG, cG, rfl, _⟩ := ho.form
        have B8 := Lib.hid (below_step B7.out hb)
        have Z8 := Lib.hid (Below.size hb)
        have W_8 := Lib.hid (W_7.out.keep hb)
        have x0_8 := Lib.hid (x0_7.out.keep (Below.mono hb (Nat.le_trans Z5.out (Nat.le_trans Z6.out Z7.out))))
        have x0b_8 := Lib.hid (x0b_7.out.keep hb)
        have x1_8 := Lib.hid (x1_7.out.keep (Below.mono hb Z7.out))
        have x1b_8 := Lib.hid (x1b_7.out.keep hb)
        have G_8 := Lib.hid ho
        clear ho hb
        go_wp2_with fail
        refine (eqInt64S_any _ _ _ _ L _ (by omega) G_8.out.ri W_8.out.ri).mono ?_
        rintro e w9 ⟨rfl, hb⟩
        have B9 := Lib.hid (below_step B8.out hb)
        have Z9 := Lib.hid (Below.size hb)
        have W_9 := Lib.hid (W_8.out.keep hb)
        have x0_9 := Lib.hid (x0_8.out.keep (Below.mono hb (Nat.le_trans Z5.out (Nat.le_trans Z6.out (Nat.le_trans Z7.out Z8.out)))))
        have x0b_9 := Lib.hid (x0b_8.out.keep hb)
        have x1_9 := Lib.hid (x1_8.out.keep (Below.mono hb (Nat.le_trans Z7.out Z8.out)))
        have x1b_9 := Lib.hid (x1b_8.out.keep hb)
        have G_9 := Lib.hid (G_8.out.keep hb)
        clear hb
        go_wp2
        go_region_held3 (fun w' => (w'.cell? ⟨w4.heap.size, 0, none⟩ = some (.int .i64 m0) ∧ w'.cell? ⟨w4.heap.size, 1, none⟩ = some (.slice Ax0 t0.length cx0) ∧ w4.heap.size < w'.heap.size) ∧ (w'.cell? ⟨w.heap.size, 0, none⟩ = some (.int .i64 m0) ∧ w'.cell? ⟨w.heap.size, 1, none⟩ = some (.slice A0 t0.length c0) ∧ w.heap.size < w'.heap.size)) (first | exact ⟨x0b_9.out.keep (below_drew0 _), (X0.out.keep B9.out).keep (below_drew0 _)⟩ | exact box22_call (by assumption) (by assumption)) (first
          | (go_at_call 20; refine (toPlane_any _ _ _ t0 _ u0 (HRA0.out.below (below_step B9.out (below_drew0 _)))).mono ?_; rintro e wq ⟨sy, rfl, ho, hb⟩; obtain ⟨Ay, cy, rfl, _⟩ := ho.len)
          | (go_at_call 24; refine (eqPlane_any _ _ _ _ _ _ _ t0 _ (by omega) (x0_9.out.keep (Below.mono (below_step (below_drew0 _) hb) (Nat.le_trans Z5.out (Nat.le_trans Z6.out (Nat.le_trans Z7.out (Nat.le_trans Z8.out Z9.out)))))) ho (Nat.le_trans (Nat.le_trans Z5.out (Nat.le_trans Z6.out (Nat.le_trans Z7.out (Nat.le_trans Z8.out Z9.out)))) (below_step (below_drew0 _) hb).size) (Nat.le_refl _)).mono ?_; rintro e w10 ⟨rfl, hb2⟩))
        have hb3 := below_step (below_step (below_drew0 w9) hb) hb2
        have B10 := Lib.hid (below_step B9.out hb3)
        have Z10 := Lib.hid (Below.size hb3)
        have W_10 := Lib.hid (W_9.out.keep hb3)
        have x0_10 := Lib.hid (x0_9.out.keep (Below.mono hb3 (Nat.le_trans Z5.out (Nat.le_trans Z6.out (Nat.le_trans Z7.out (Nat.le_trans Z8.out Z9.out))))))
        have x0b_10 := Lib.hid (x0b_9.out.keep hb3)
        have x1_10 := Lib.hid (x1_9.out.keep (Below.mono hb3 (Nat.le_trans Z7.out (Nat.le_trans Z8.out Z9.out))))
        have x1b_10 := Lib.hid (x1b_9.out.keep hb3)
        have G_10 := Lib.hid (G_9.out.keep hb3)
        clear ho hb hb2 hb3
        go_wp2
        go_region_held3 (fun w' => (w'.cell? ⟨w6.heap.size, 0, none⟩ = some (.int .i64 m1) ∧ w'.cell? ⟨w6.heap.size, 1, none⟩ = some (.slice Ax1 t1.length cx1) ∧ w6.heap.size < w'.heap.size) ∧ (w'.cell? ⟨w.heap.size + 1, 0, none⟩ = some (.int .i64 m1) ∧ w'.cell? ⟨w.heap.size + 1, 1, none⟩ = some (.slice A1 t1.length c1) ∧ w.heap.size + 1 < w'.heap.size)) (first | exact ⟨x1b_10.out.keep (below_drew0 _), (X1.out.keep B10.out).keep (below_drew0 _)⟩ | exact box22_call (by assumption) (by assumption)) (first
          | (go_at_call 20; refine (toPlane_any _ _ _ t1 _ u1 (HRA1.out.below (below_step B10.out (below_drew0 _)))).mono ?_; rintro e wq ⟨sy, rfl, ho, hb⟩; obtain ⟨Ay, cy, rfl, _⟩ := ho.len)
          | (go_at_call 24; refine (eqPlane_any _ _ _ _ _ _ _ t1 _ (by omega) (x1_10.out.keep (Below.mono (below_step (below_drew0 _) hb) (Nat.le_trans Z7.out (Nat.le_trans Z8.out (Nat.le_trans Z9.out Z10.out))))) ho (Nat.le_trans (Nat.le_trans Z7.out (Nat.le_trans Z8.out (Nat.le_trans Z9.out Z10.out))) (below_step (below_drew0 _) hb).size) (Nat.le_refl _)).mono ?_; rintro e w11 ⟨rfl, hb2⟩))
        have hb3 := below_step (below_step (below_drew0 w10) hb) hb2
        have B11 := Lib.hid (below_step B10.out hb3)
        have Z11 := Lib.hid (Below.size hb3)
        have W_11 := Lib.hid (W_10.out.keep hb3)
        have x0_11 := Lib.hid (x0_10.out.keep (Below.mono hb3 (Nat.le_trans Z5.out (Nat.le_trans Z6.out (Nat.le_trans Z7.out (Nat.le_trans Z8.out (Nat.le_trans Z9.out Z10.out)))))))
        have x0b_11 := Lib.hid (x0b_10.out.keep hb3)
        have x1_11 := Lib.hid (x1_10.out.keep (Below.mono hb3 (Nat.le_trans Z7.out (Nat.le_trans Z8.out (Nat.le_trans Z9.out Z10.out)))))
        have x1b_11 := Lib.hid (x1b_10.out.keep hb3)
        have G_11 := Lib.hid (G_10.out.keep hb3)
        clear ho hb hb2 hb3
        obtain ⟨zx01, zx02, _⟩ := x0b_11.out
        go_wp2_with fail
        clear zx01 zx02
        refine (markPlane_any m0 _ _ _ t0 _ _ (by omega) (by omega) (by omega) x0_11.out (Nat.le_trans Z5.out (Nat.le_trans Z6.out (Nat.le_trans Z7.out (Nat.le_trans Z8.out (Nat.le_trans Z9.out (Nat.le_trans Z10.out Z11.out))))))).mono ?_
        rintro e w12 ⟨rfl, ho, hs⟩
        have B12 := Lib.hid (B11.out.trans ((hs.below (Nat.le_trans Z4.out (Nat.le_trans Z5.out (Nat.le_trans Z6.out (Nat.le_trans Z7.out (Nat.le_trans Z8.out (Nat.le_trans Z9.out (Nat.le_trans Z10.out Z11.out)))))))).mono B3.out.size))
        have Z12 := Lib.hid hs.size
        have W_12 := Lib.hid (W_11.out.far hs (fun g h => .inl (Nat.lt_of_lt_of_le (W_3.out.lt g h).2 (Nat.le_refl _))))
        have x0b_12 := Lib.hid (x0b_11.out.span hs (.inr (Nat.le_refl _)))
        have x1_12 := Lib.hid (x1_11.out.far hs (.inr Z5.out))
        have x1b_12 := Lib.hid (x1b_11.out.span hs (.inr (Nat.le_trans Z5.out Z6.out)))
        have G_12 := Lib.hid (G_11.out.far hs (fun g h => .inr (Nat.le_trans (Nat.le_trans Z5.out (Nat.le_trans Z6.out Z7.out)) (G_8.out.lt g h).1)))
        have x0_12 := Lib.hid ho
        clear ho hs
        obtain ⟨zx11, zx12, _⟩ := x1b_12.out
        go_wp2_with fail
        clear zx11 zx12
        refine (markPlane_any m1 _ _ _ t1 _ _ (by omega) (by omega) (by omega) x1_12.out (Nat.le_trans Z7.out (Nat.le_trans Z8.out (Nat.le_trans Z9.out (Nat.le_trans Z10.out (Nat.le_trans Z11.out Z12.out)))))).mono ?_
        rintro e w13 ⟨rfl, ho, hs⟩
        have B13 := Lib.hid (B12.out.trans ((hs.below (Nat.le_trans Z6.out (Nat.le_trans Z7.out (Nat.le_trans Z8.out (Nat.le_trans Z9.out (Nat.le_trans Z10.out (Nat.le_trans Z11.out Z12.out))))))).mono B5.out.size))
        have Z13 := Lib.hid hs.size
        have W_13 := Lib.hid (W_12.out.far hs (fun g h => .inl (Nat.lt_of_lt_of_le (W_3.out.lt g h).2 (Nat.le_trans Z4.out Z5.out))))
        have x0_13 := Lib.hid (x0_12.out.far hs (.inl Z5.out))
        have x0b_13 := Lib.hid (x0b_12.out.span hs (.inl (Nat.lt_of_lt_of_le x0b_5.out.2.2 (Nat.le_refl _))))
        have x1b_13 := Lib.hid (x1b_12.out.span hs (.inr (Nat.le_refl _)))
        have G_13 := Lib.hid (G_12.out.far hs (fun g h => .inr (Nat.le_trans Z7.out (G_8.out.lt g h).1)))
        have x1_13 := Lib.hid ho
        clear ho hs
        go_wp2_with fail
        refine (eqInt64S_any _ _ _ _ L _ (by omega) G_13.out.ri W_13.out.ri).mono ?_
        rintro e w14 ⟨rfl, hb⟩
        have B14 := Lib.hid (below_step B13.out hb)
        have Z14 := Lib.hid (Below.size hb)
        have W_14 := Lib.hid (W_13.out.keep hb)
        have G_14 := Lib.hid (G_13.out.keep hb)
        clear hb
        go_wp2_with fail
        refine (markInt64S_any _ _ L 1 _ (by omega) (by omega) (by omega) G_14.out).mono ?_
        rintro e w15 ⟨rfl, ho, hg⟩
        have hs : Span w7.heap.size w8.heap.size w14 w15 := Span.of_grown hg (fun g h => ⟨(G_8.out.lt g h).1, (G_8.out.lt g h).2⟩)
        clear hg
        have B15 := Lib.hid (B14.out.trans ((hs.below (Nat.le_trans Z8.out (Nat.le_trans Z9.out (Nat.le_trans Z10.out (Nat.le_trans Z11.out (Nat.le_trans Z12.out (Nat.le_trans Z13.out Z14.out))))))).mono B7.out.size))
        have Z15 := Lib.hid hs.size
        have W_15 := Lib.hid (W_14.out.far hs (fun g h => .inl (Nat.lt_of_lt_of_le (W_3.out.lt g h).2 (Nat.le_trans Z4.out (Nat.le_trans Z5.out (Nat.le_trans Z6.out Z7.out))))))
        have G_15 := Lib.hid ho
        clear ho hs
        go_wp2_with fail
        refine (heldInt64S_b _ _ L.length 1 _ (by omega) (by omega) (by omega) G_15.out.ri).mono ?_
        rintro e w16 ⟨rfl, hb⟩
        have B16 := Lib.hid (below_step B15.out hb)
        have Z16 := Lib.hid (Below.size hb)
        have W_16 := Lib.hid (W_15.out.keep hb)
        have G_16 := Lib.hid (G_15.out.keep hb)
        clear hb
        have Y0 := Lib.hid (X0.out.keep B16.out)
        have Y1 := Lib.hid (X1.out.keep B16.out)
        go_upto_region 31 with fail
        go_cut [15, 16] (fun s6 s7 wx => ∃ A c, s6 = .slice A L.length c ∧ s7 = .int .i64 C ∧ OwnI wx w16.heap.size (.slice A L.length c) L ∧ Below w16.heap.size w16 wx)
        case first =>
          go_region_held3 (fun w' => (w'.cell? ⟨w.heap.size, 0, none⟩ = some (.int .i64 m0) ∧ w'.cell? ⟨w.heap.size, 1, none⟩ = some (.slice A0 t0.length c0)) ∧ (w'.cell? ⟨w.heap.size + 1, 0, none⟩ = some (.int .i64 m1) ∧ w'.cell? ⟨w.heap.size + 1, 1, none⟩ = some (.slice A1 t1.length c1)) ∧ Below w16.heap.size w16 w') (first | exact box2_in Y0.out Y1.out (below_drew0 _) | exact box2_in Y0.out Y1.out hka | exact box2_in Y0.out Y1.out hkb | exact box2_in Y0.out Y1.out hbel | exact box2_alloc Y0.out Y1.out (by assumption)) (first
            | (go_at_call 20; with_reducible refine Calls.mono (toPlane_any m0 A0 c0 t0 _ u0 (HRA0.out.below (below_step B16.out (trd (by assumption))))) ?_; rintro e wa ⟨sa, rfl, hoa, hba⟩; obtain ⟨Aa, ca, rfl, _⟩ := hoa.len; obtain ⟨hka, _⟩ := reg_end2 (by assumption) hba)
            | (go_at_call 20; with_reducible refine Calls.mono (toPlane_any m1 A1 c1 t1 _ u1 (HRA1.out.below (below_step B16.out (trd (by assumption))))) ?_; rintro e wb ⟨sb, rfl, hob, hbb⟩; obtain ⟨Ab, cb, rfl, _⟩ := hob.len; obtain ⟨hkb, _⟩ := reg_end2 (by assumption) hbb)
            | (with_reducible refine Calls.mono (HI.out _ _ _ _ _ (by first | exact hoa.rp | exact (hoa.rp.below hbb)) (by first | exact hob.rp | exact (hob.rp.below hba))) ?_; rintro e wd ⟨sd, rfl, hod, hbd⟩; obtain ⟨Ad, cd, rfl, _⟩ := hod.form; obtain ⟨hbel, hle⟩ := reg_end2 (by assumption) hbd))
          all_goals
            go_wp2_with fail
            go_meet
            case rel => exact ⟨_, _, rfl, rfl, hod.more hle, hbel⟩
        case rest =>
          obtain ⟨w17, hwc⟩ : ∃ w9, w9 = wc := ⟨_, rfl⟩
          subst hwc
          obtain ⟨AH, cH, rfl, rfl, ho, hb⟩ := hcut
          clear Y0 Y1
          have B17 := Lib.hid (below_step B16.out hb)
          have Z17 := Lib.hid (Below.size hb)
          have W_17 := Lib.hid (W_16.out.keep hb)
          have G_17 := Lib.hid (G_16.out.keep hb)
          have H_17 := Lib.hid ho
          clear ho hb
          go_wp2_with fail
          refine (eqInt64S_any _ _ _ _ L _ (by omega) H_17.out.ri W_17.out.ri).mono ?_
          rintro e w18 ⟨rfl, hb⟩
          have B18 := Lib.hid (below_step B17.out hb)
          have Z18 := Lib.hid (Below.size hb)
          have W_18 := Lib.hid (W_17.out.keep hb)
          have G_18 := Lib.hid (G_17.out.keep hb)
          have H_18 := Lib.hid (H_17.out.keep hb)
          clear hb
          go_wp2_with fail
          refine (heldInt64S_b _ _ L.length 1 _ (by omega) (by omega) (by omega) G_18.out.ri).mono ?_
          rintro e w19 ⟨rfl, hb⟩
          have B19 := Lib.hid (below_step B18.out hb)
          have Z19 := Lib.hid (Below.size hb)
          have G_19 := Lib.hid (G_18.out.keep hb)
          clear hb
          go_wp2
          go_ret
          exact ⟨rfl, below_step HB.out B19.out⟩
    · skip
      obtain ⟨W, hW, x0, x1, hwb⟩ := startB2 24 24 w m0 A0 t0.length c0 m1 A1 t1.length c1
      have X0 := Lib.hid x0
      have X1 := Lib.hid x1
      have HW := Lib.hid hW
      have HB := Lib.hid hwb
      have HRA0 := Lib.hid (RQ.below ra0 hwb)
      have HRA1 := Lib.hid (RQ.below ra1 hwb)
      have B0 := Lib.hid (Below.refl W.heap.size W)
      clear hW hwb x0 ra0 x1 ra1
      go_enter Try.func16, Try.ntmps16
      go_wp2_with fail
      rw [HW.out]
      refine (szPlane_ok _ _ _ _ _ _ (by omega) (by omega) (HRA0.out.below B0.out)).mono ?_
      rintro e w1 ⟨rfl, hb⟩
      have B1 := Lib.hid (below_step B0.out hb)
      have Z1 := Lib.hid (Below.size hb)
      clear hb
      obtain ⟨zp1, zq1⟩ := box_in X1.out B1.out
      go_wp2_with fail
      clear zp1 zq1
      refine (szPlane_no _ _ _ _ _ _ (by omega) (by omega) (by omega) (HRA1.out.below B1.out) hm1.1 hm1.2).mono ?_
      rintro e w2 ⟨rfl, hb⟩
      have B2 := Lib.hid (below_step B1.out hb)
      have Z2 := Lib.hid (Below.size hb)
      clear hb
      go_wp2
      go_ret
      exact ⟨rfl, below_step HB.out B2.out⟩
  · skip
    obtain ⟨W, hW, x0, x1, hwb⟩ := startB2 24 24 w m0 A0 t0.length c0 m1 A1 t1.length c1
    have X0 := Lib.hid x0
    have X1 := Lib.hid x1
    have HW := Lib.hid hW
    have HB := Lib.hid hwb
    have HRA0 := Lib.hid (RQ.below ra0 hwb)
    have HRA1 := Lib.hid (RQ.below ra1 hwb)
    have B0 := Lib.hid (Below.refl W.heap.size W)
    clear hW hwb x0 ra0 x1 ra1
    go_enter Try.func16, Try.ntmps16
    go_wp2_with fail
    rw [HW.out]
    refine (szPlane_no _ _ _ _ _ _ (by omega) (by omega) (by omega) (HRA0.out.below B0.out) hm0.1 hm0.2).mono ?_
    rintro e w1 ⟨rfl, hb⟩
    have B1 := Lib.hid (below_step B0.out hb)
    have Z1 := Lib.hid (Below.size hb)
    clear hb
    go_wp2
    go_ret
    exact ⟨rfl, below_step HB.out B1.out⟩
end Go.Proofs.Yteicllnbphljnaa.fnExactFirstDifference
