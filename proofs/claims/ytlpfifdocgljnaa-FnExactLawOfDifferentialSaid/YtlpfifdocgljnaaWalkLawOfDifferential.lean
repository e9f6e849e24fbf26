/- LawOfDifferential answers as its model at all arguments, leaves them alone, and owns its answer. No conditions. The frame follows the one that the kit prints for a law. -/
import Derived.Test.YtlpfifdocgljnaaRows
import Derived.Test.YtlpfifdocgljnaaMgar
import Derived.Test.YtlpfifdocgljnaaMgaa
import Derived.Test.YtlpfifdocgljnaaMgab
import Derived.WalkKit
import Derived.ProofKit
import Derived.OpenShut
import Derived.ShutString
import Derived.ChangeOld
import Derived.Below
namespace Go.Proofs.Ytlpfifdocgljnaa.fnExactLawOfDifferential
open Go.ChangeShapes Go.WideShapes Go.ChangeAt Go.RowKit
set_option linter.unusedVariables false

set_option maxHeartbeats 4000000 in
set_option maxRecDepth 100000 in
theorem walk (m0 : Int) (A0 : Option Addr) (c0 : Nat) (l0 : List Int) (w : World) (hm0 : l0.length ≤ maxLen) (ra0 : RA w A0 l0) :
    Calls Try.prog 4 #[.agg #[.int .i64 m0, .slice A0 l0.length c0]] w fun e w' => e = .returned (.bool true) ∧ Below w.heap.size w w' := by
  unfold maxLen at hm0
  by_cases h0 : (l0.length : Int) ≤ 1048576
  · have u0 : l0.length ≤ 1048576 := by omega
    obtain ⟨M, L, C, hMLC⟩ : ∃ M L C, lodM m0 l0 = (M, L, C) := ⟨_, _, _, rfl⟩
    have hL : szT L ≤ 1048576 := by have := lodM_len m0 l0; rw [hMLC] at this; exact this
    have hLt : tot L ≤ 1048576 := by unfold szT at hL; omega
    have HS : Hid (∀ (A0 : Option Addr) (c0 : Nat) (W : World), RI W A0 l0 → Calls Try.prog 15 #[.agg #[.int .i64 m0, .slice A0 l0.length c0]] W fun e w' => ∃ s, e = .returned (.tuple #[.agg #[.int .i64 M, s], .int .i64 C]) ∧ OwnR w' W.heap.size w'.heap.size s L ∧ Below W.heap.size W w') :=
      Lib.hid (fun A0 c0 W r0 => by have := sLawOfDifferential_any m0 A0 c0 l0 W (by omega) r0; rw [hMLC] at this; exact this)
    have HI : Hid (∀ (A0 : Option Addr) (c0 : Nat) (W : World), RI W A0 l0 → Calls Try.prog 16 #[.agg #[.int .i64 m0, .slice A0 l0.length c0]] W fun e w' => ∃ s, e = .returned (.tuple #[.agg #[.int .i64 M, s], .int .i64 C]) ∧ OwnR w' W.heap.size w'.heap.size s L ∧ Below W.heap.size W w') :=
      Lib.hid (fun A0 c0 W r0 => by have := LawOfDifferential_any m0 A0 c0 l0 W (by omega) r0; rw [hMLC] at this; exact this)
    obtain ⟨W, hW, x0, hwb⟩ := start1 27 w m0 A0 l0.length c0
    have X0 := Lib.hid x0
    have HW := Lib.hid hW
    have HB := Lib.hid hwb
    have HRA0 := Lib.hid (RA.below ra0 hwb)
    have B0 := Lib.hid (Below.refl W.heap.size W)
    clear hW hwb x0 ra0
    clear hMLC
    go_enter Try.func4, Try.ntmps4
    go_wp2_with fail
    rw [HW.out]
    refine (szSeries_ok _ _ _ _ _ _ (by omega) (by omega)).mono ?_
    rintro e w1 ⟨rfl, hb⟩
    have B1 := Lib.hid (below_step B0.out hb)
    have Z1 := Lib.hid (Below.size hb)
    clear hb
    obtain ⟨zp0, zq0⟩ := box_in X0.out B1.out
    go_wp2_with fail
    clear zp0 zq0
    refine (toSeries_any _ _ _ l0 _ u0 (HRA0.out.below B1.out)).mono ?_
    rintro e w2 ⟨sa0, rfl, ho, hb⟩
    obtain ⟨Aa0, ca0, rfl, _⟩ := ho.form
    have B2 := Lib.hid (below_step B1.out hb)
    have Z2 := Lib.hid (Below.size hb)
    have a0_2 := Lib.hid ho
    clear ho hb
    go_wp2_with fail
    refine (HS.out _ _ _ a0_2.out.ri).mono ?_
    rintro e w3 ⟨sW, rfl, ho, hb⟩
    obtain ⟨AW, cW, rfl, _⟩ := ho.len
    have B3 := Lib.hid (below_step B2.out hb)
    have Z3 := Lib.hid (Below.size hb)
    have a0_3 := Lib.hid (a0_2.out.keep hb)
    have W_3 := Lib.hid ho
    clear ho hb
    obtain ⟨w4, hV, hx, hb⟩ := start1 32 w3 M AW L.length cW
    have B4 := Lib.hid (below_step B3.out hb)
    have Z4 := Lib.hid (Below.size hb)
    have W_4 := Lib.hid (W_3.out.keep (Below.mono hb (Nat.le_refl _)))
    have Wb_4 := Lib.hid hx
    have HV := Lib.hid hV
    clear hV hx hb
    obtain ⟨zp0, zq0⟩ := box_in X0.out B4.out
    rw [← HV.out] at zp0 zq0
    go_wp2_with fail
    rw [HV.out]
    clear HV
    clear zp0 zq0
    refine (toSeries_any _ _ _ l0 _ u0 (HRA0.out.below B4.out)).mono ?_
    rintro e w5 ⟨sx0, rfl, ho, hb⟩
    obtain ⟨Ax0, cx0, rfl, _⟩ := ho.form
    have B5 := Lib.hid (below_step B4.out hb)
    have Z5 := Lib.hid (Below.size hb)
    have W_5 := Lib.hid (W_4.out.keep (Below.mono hb Z4.out))
    have Wb_5 := Lib.hid (Wb_4.out.keep hb)
    have x0_5 := Lib.hid ho
    clear ho hb
    obtain ⟨w6, hV, hx, hb⟩ := start1 34 w5 m0 Ax0 l0.length cx0
    have B6 := Lib.hid (below_step B5.out hb)
    have Z6 := Lib.hid (Below.size hb)
    have W_6 := Lib.hid (W_5.out.keep (Below.mono hb (Nat.le_trans Z4.out Z5.out)))
    have Wb_6 := Lib.hid (Wb_5.out.keep hb)
    have x0_6 := Lib.hid (x0_5.out.keep hb)
    have x0b_6 := Lib.hid hx
    have HV := Lib.hid hV
    clear hV hx hb
    go_wp2_with fail
    rw [HV.out]
    clear HV
    refine (HI.out _ _ _ x0_6.out.ri).mono ?_
    rintro e w7 ⟨sG, rfl, ho, hb⟩
    obtain ⟨AG, cG, rfl, _⟩ := ho.len
    have B7 := Lib.hid (below_step B6.out hb)
    have Z7 := Lib.hid (Below.size hb)
    have W_7 := Lib.hid (W_6.out.keep (Below.mono hb (Nat.le_trans Z4.out (Nat.le_trans Z5.out Z6.out))))
    have Wb_7 := Lib.hid (Wb_6.out.keep hb)
    have x0_7 := Lib.hid (x0_6.out.keep hb)
    have x0b_7 := Lib.hid (x0b_6.out.keep hb)
    have G_7 := Lib.hid ho
    clear ho hb
    obtain ⟨w8, hV, hx, hb⟩ := start1 32 w7 M AG L.length cG
    have B8 := Lib.hid (below_step B7.out hb)
    have Z8 := Lib.hid (Below.size hb)
    have W_8 := Lib.hid (W_7.out.keep (Below.mono hb (Nat.le_trans Z4.out (Nat.le_trans Z5.out (Nat.le_trans Z6.out Z7.out)))))
    have Wb_8 := Lib.hid (Wb_7.out.keep hb)
    have x0_8 := Lib.hid (x0_7.out.keep hb)
    have x0b_8 := Lib.hid (x0b_7.out.keep hb)
    have G_8 := Lib.hid (G_7.out.keep (Below.mono hb (Nat.le_refl _)))
    have Gb_8 := Lib.hid hx
    have HV := Lib.hid hV
    clear hV hx hb
    obtain ⟨zW1, zW2, _⟩ := Wb_8.out
    rw [← HV.out] at zW1 zW2
    go_wp2_with fail
    rw [HV.out]
    clear HV
    clear zW1 zW2
    refine (eqPlane_any _ _ _ _ _ _ _ L _ (by omega) G_8.out W_8.out Z8.out (Nat.le_trans Z4.out (Nat.le_trans Z5.out (Nat.le_trans Z6.out (Nat.le_trans Z7.out Z8.out))))).mono ?_
    rintro e w9 ⟨rfl, hb⟩
    have B9 := Lib.hid (below_step B8.out hb)
    have Z9 := Lib.hid (Below.size hb)
    have W_9 := Lib.hid (W_8.out.keep (Below.mono hb (Nat.le_trans Z4.out (Nat.le_trans Z5.out (Nat.le_trans Z6.out (Nat.le_trans Z7.out Z8.out))))))
    have Wb_9 := Lib.hid (Wb_8.out.keep hb)
    have x0_9 := Lib.hid (x0_8.out.keep hb)
    have x0b_9 := Lib.hid (x0b_8.out.keep hb)
    have G_9 := Lib.hid (G_8.out.keep (Below.mono hb Z8.out))
    have Gb_9 := Lib.hid (Gb_8.out.keep hb)
    clear hb
    go_wp2
    go_region_held3 (fun w' => (w'.cell? ⟨w5.heap.size, 0, none⟩ = some (.int .i64 m0) ∧ w'.cell? ⟨w5.heap.size, 1, none⟩ = some (.slice Ax0 l0.length cx0) ∧ w5.heap.size < w'.heap.size) ∧ (w'.cell? ⟨w.heap.size, 0, none⟩ = some (.int .i64 m0) ∧ w'.cell? ⟨w.heap.size, 1, none⟩ = some (.slice A0 l0.length c0) ∧ w.heap.size < w'.heap.size)) (first | exact ⟨x0b_9.out.keep (below_drew0 _), (X0.out.keep B9.out).keep (below_drew0 _)⟩ | exact box22_call (by assumption) (by assumption)) (first
      | (go_at_call 11; refine (toSeries_any _ _ _ l0 _ u0 (HRA0.out.below (below_step B9.out (below_drew0 _)))).mono ?_; rintro e wq ⟨sy, rfl, ho, hb⟩; obtain ⟨Ay, cy, rfl, _⟩ := ho.form)
      | (go_at_call 14; refine (eqSeries_any _ _ _ _ _ l0 _ (by omega) (x0_9.out.keep (below_step (below_drew0 _) hb)).ri ho.ri).mono ?_; rintro e w10 ⟨rfl, hb2⟩))
    have hb3 := below_step (below_step (below_drew0 w9) hb) hb2
    have B10 := Lib.hid (below_step B9.out hb3)
    have Z10 := Lib.hid (Below.size hb3)
    have W_10 := Lib.hid (W_9.out.keep (Below.mono hb3 (Nat.le_trans Z4.out (Nat.le_trans Z5.out (Nat.le_trans Z6.out (Nat.le_trans Z7.out (Nat.le_trans Z8.out Z9.out)))))))
    have Wb_10 := Lib.hid (Wb_9.out.keep hb3)
    have x0_10 := Lib.hid (x0_9.out.keep hb3)
    have x0b_10 := Lib.hid (x0b_9.out.keep hb3)
    have G_10 := Lib.hid (G_9.out.keep (Below.mono hb3 (Nat.le_trans Z8.out Z9.out)))
    have Gb_10 := Lib.hid (Gb_9.out.keep hb3)
    clear ho hb hb2 hb3
    obtain ⟨zx01, zx02, _⟩ := x0b_10.out
    go_wp2_with fail
    clear zx01 zx02
    refine (markSeries_any m0 _ _ l0 _ _ (by omega) (by omega) (by omega) x0_10.out).mono ?_
    rintro e w11 ⟨rfl, ho, hg⟩
    have hs : Span w4.heap.size w5.heap.size w10 w11 := Span.of_grown hg (fun g h => ⟨(x0_5.out.lt g h).1, (x0_5.out.lt g h).2⟩)
    clear hg
    have B11 := Lib.hid (B10.out.trans ((hs.below (Nat.le_trans Z5.out (Nat.le_trans Z6.out (Nat.le_trans Z7.out (Nat.le_trans Z8.out (Nat.le_trans Z9.out Z10.out)))))).mono B4.out.size))
    have Z11 := Lib.hid hs.size
    have W_11 := Lib.hid (W_10.out.far hs (.inl Z4.out))
    have Wb_11 := Lib.hid (Wb_10.out.span hs (.inl (Nat.lt_of_lt_of_le Wb_4.out.2.2 (Nat.le_refl _))))
    have x0b_11 := Lib.hid (x0b_10.out.span hs (.inr (Nat.le_refl _)))
    have G_11 := Lib.hid (G_10.out.far hs (.inr Z6.out))
    have Gb_11 := Lib.hid (Gb_10.out.span hs (.inr (Nat.le_trans Z6.out Z7.out)))
    have x0_11 := Lib.hid ho
    clear ho hs
    obtain ⟨zG1, zG2, _⟩ := Gb_11.out
    obtain ⟨zW1, zW2, _⟩ := Wb_11.out
    go_wp2_with fail
    clear zG1 zG2 zW1 zW2
    refine (eqPlane_any _ _ _ _ _ _ _ L _ (by omega) G_11.out W_11.out (Nat.le_trans Z8.out (Nat.le_trans Z9.out (Nat.le_trans Z10.out Z11.out))) (Nat.le_trans Z4.out (Nat.le_trans Z5.out (Nat.le_trans Z6.out (Nat.le_trans Z7.out (Nat.le_trans Z8.out (Nat.le_trans Z9.out (Nat.le_trans Z10.out Z11.out)))))))).mono ?_
    rintro e w12 ⟨rfl, hb⟩
    have B12 := Lib.hid (below_step B11.out hb)
    have Z12 := Lib.hid (Below.size hb)
    have W_12 := Lib.hid (W_11.out.keep (Below.mono hb (Nat.le_trans Z4.out (Nat.le_trans Z5.out (Nat.le_trans Z6.out (Nat.le_trans Z7.out (Nat.le_trans Z8.out (Nat.le_trans Z9.out (Nat.le_trans Z10.out Z11.out)))))))))
    have Wb_12 := Lib.hid (Wb_11.out.keep hb)
    have G_12 := Lib.hid (G_11.out.keep (Below.mono hb (Nat.le_trans Z8.out (Nat.le_trans Z9.out (Nat.le_trans Z10.out Z11.out)))))
    have Gb_12 := Lib.hid (Gb_11.out.keep hb)
    clear hb
    obtain ⟨zG1, zG2, _⟩ := Gb_12.out
    go_wp2_with fail
    clear zG1 zG2
    refine (markPlane_any M _ _ _ L _ _ (by omega) (by omega) (by omega) G_12.out (Nat.le_trans Z8.out (Nat.le_trans Z9.out (Nat.le_trans Z10.out (Nat.le_trans Z11.out Z12.out))))).mono ?_
    rintro e w13 ⟨rfl, ho, hs⟩
    have B13 := Lib.hid (B12.out.trans ((hs.below (Nat.le_trans Z7.out (Nat.le_trans Z8.out (Nat.le_trans Z9.out (Nat.le_trans Z10.out (Nat.le_trans Z11.out Z12.out)))))).mono B6.out.size))
    have Z13 := Lib.hid hs.size
    have W_13 := Lib.hid (W_12.out.far hs (.inl (Nat.le_trans Z4.out (Nat.le_trans Z5.out Z6.out))))
    have Wb_13 := Lib.hid (Wb_12.out.span hs (.inl (Nat.lt_of_lt_of_le Wb_4.out.2.2 (Nat.le_trans Z5.out Z6.out))))
    have Gb_13 := Lib.hid (Gb_12.out.span hs (.inr (Nat.le_refl _)))
    have G_13 := Lib.hid ho
    clear ho hs
    obtain ⟨zG1, zG2, _⟩ := Gb_13.out
    go_wp2_with fail
    clear zG1 zG2
    refine (heldPlane_any _ _ _ _ L 1 _ (by omega) (by omega) (by omega) G_13.out (Nat.le_trans Z8.out (Nat.le_trans Z9.out (Nat.le_trans Z10.out (Nat.le_trans Z11.out (Nat.le_trans Z12.out Z13.out)))))).mono ?_
    rintro e w14 ⟨rfl, hb⟩
    have B14 := Lib.hid (below_step B13.out hb)
    have Z14 := Lib.hid (Below.size hb)
    have W_14 := Lib.hid (W_13.out.keep (Below.mono hb (Nat.le_trans Z4.out (Nat.le_trans Z5.out (Nat.le_trans Z6.out (Nat.le_trans Z7.out (Nat.le_trans Z8.out (Nat.le_trans Z9.out (Nat.le_trans Z10.out (Nat.le_trans Z11.out (Nat.le_trans Z12.out Z13.out)))))))))))
    have Wb_14 := Lib.hid (Wb_13.out.keep hb)
    have G_14 := Lib.hid (G_13.out.keep (Below.mono hb (Nat.le_trans Z8.out (Nat.le_trans Z9.out (Nat.le_trans Z10.out (Nat.le_trans Z11.out (Nat.le_trans Z12.out Z13.out)))))))
    have Gb_14 := Lib.hid (Gb_13.out.keep hb)
    clear hb
    obtain ⟨zp0, zq0⟩ := box_in X0.out B14.out
    go_wp2_with fail
    clear zp0 zq0
    refine (toSeries_any _ _ _ l0 _ u0 (HRA0.out.below B14.out)).mono ?_
    rintro e w15 ⟨sz0, rfl, ho, hb⟩
    obtain ⟨Az0, cz0, rfl, _⟩ := ho.form
    have B15 := Lib.hid (below_step B14.out hb)
    have Z15 := Lib.hid (Below.size hb)
    have W_15 := Lib.hid (W_14.out.keep (Below.mono hb (Nat.le_trans Z4.out (Nat.le_trans Z5.out (Nat.le_trans Z6.out (Nat.le_trans Z7.out (Nat.le_trans Z8.out (Nat.le_trans Z9.out (Nat.le_trans Z10.out (Nat.le_trans Z11.out (Nat.le_trans Z12.out (Nat.le_trans Z13.out Z14.out))))))))))))
    have Wb_15 := Lib.hid (Wb_14.out.keep hb)
    have G_15 := Lib.hid (G_14.out.keep (Below.mono hb (Nat.le_trans Z8.out (Nat.le_trans Z9.out (Nat.le_trans Z10.out (Nat.le_trans Z11.out (Nat.le_trans Z12.out (Nat.le_trans Z13.out Z14.out))))))))
    have Gb_15 := Lib.hid (Gb_14.out.keep hb)
    have z0_15 := Lib.hid ho
    clear ho hb
    go_wp2_with fail
    refine (HI.out _ _ _ z0_15.out.ri).mono ?_
    rintro e w16 ⟨sH, rfl, ho, hb⟩
    obtain ⟨AH, cH, rfl, _⟩ := ho.len
    have B16 := Lib.hid (below_step B15.out hb)
    have Z16 := Lib.hid (Below.size hb)
    have W_16 := Lib.hid (W_15.out.keep (Below.mono hb (Nat.le_trans Z4.out (Nat.le_trans Z5.out (Nat.le_trans Z6.out (Nat.le_trans Z7.out (Nat.le_trans Z8.out (Nat.le_trans Z9.out (Nat.le_trans Z10.out (Nat.le_trans Z11.out (Nat.le_trans Z12.out (Nat.le_trans Z13.out (Nat.le_trans Z14.out Z15.out)))))))))))))
    have Wb_16 := Lib.hid (Wb_15.out.keep hb)
    have G_16 := Lib.hid (G_15.out.keep (Below.mono hb (Nat.le_trans Z8.out (Nat.le_trans Z9.out (Nat.le_trans Z10.out (Nat.le_trans Z11.out (Nat.le_trans Z12.out (Nat.le_trans Z13.out (Nat.le_trans Z14.out Z15.out)))))))))
    have Gb_16 := Lib.hid (Gb_15.out.keep hb)
    have z0_16 := Lib.hid (z0_15.out.keep hb)
    have H_16 := Lib.hid ho
    clear ho hb
    obtain ⟨w17, hV, hx, hb⟩ := start1 32 w16 M AH L.length cH
    have B17 := Lib.hid (below_step B16.out hb)
    have Z17 := Lib.hid (Below.size hb)
    have W_17 := Lib.hid (W_16.out.keep (Below.mono hb (Nat.le_trans Z4.out (Nat.le_trans Z5.out (Nat.le_trans Z6.out (Nat.le_trans Z7.out (Nat.le_trans Z8.out (Nat.le_trans Z9.out (Nat.le_trans Z10.out (Nat.le_trans Z11.out (Nat.le_trans Z12.out (Nat.le_trans Z13.out (Nat.le_trans Z14.out (Nat.le_trans Z15.out Z16.out))))))))))))))
    have Wb_17 := Lib.hid (Wb_16.out.keep hb)
    have G_17 := Lib.hid (G_16.out.keep (Below.mono hb (Nat.le_trans Z8.out (Nat.le_trans Z9.out (Nat.le_trans Z10.out (Nat.le_trans Z11.out (Nat.le_trans Z12.out (Nat.le_trans Z13.out (Nat.le_trans Z14.out (Nat.le_trans Z15.out Z16.out))))))))))
    have Gb_17 := Lib.hid (Gb_16.out.keep hb)
    have H_17 := Lib.hid (H_16.out.keep (Below.mono hb (Nat.le_refl _)))
    have Hb_17 := Lib.hid hx
    have HV := Lib.hid hV
    clear hV hx hb
    obtain ⟨zW1, zW2, _⟩ := Wb_17.out
    rw [← HV.out] at zW1 zW2
    go_wp2_with fail
    rw [HV.out]
    clear HV
    clear zW1 zW2
    refine (eqPlane_any _ _ _ _ _ _ _ L _ (by omega) H_17.out W_17.out Z17.out (Nat.le_trans Z4.out (Nat.le_trans Z5.out (Nat.le_trans Z6.out (Nat.le_trans Z7.out (Nat.le_trans Z8.out (Nat.le_trans Z9.out (Nat.le_trans Z10.out (Nat.le_trans Z11.out (Nat.le_trans Z12.out (Nat.le_trans Z13.out (Nat.le_trans Z14.out (Nat.le_trans Z15.out (Nat.le_trans Z16.out Z17.out)))))))))))))).mono ?_
    rintro e w18 ⟨rfl, hb⟩
    have B18 := Lib.hid (below_step B17.out hb)
    have Z18 := Lib.hid (Below.size hb)
    have W_18 := Lib.hid (W_17.out.keep (Below.mono hb (Nat.le_trans Z4.out (Nat.le_trans Z5.out (Nat.le_trans Z6.out (Nat.le_trans Z7.out (Nat.le_trans Z8.out (Nat.le_trans Z9.out (Nat.le_trans Z10.out (Nat.le_trans Z11.out (Nat.le_trans Z12.out (Nat.le_trans Z13.out (Nat.le_trans Z14.out (Nat.le_trans Z15.out (Nat.le_trans Z16.out Z17.out)))))))))))))))
    have Wb_18 := Lib.hid (Wb_17.out.keep hb)
    have G_18 := Lib.hid (G_17.out.keep (Below.mono hb (Nat.le_trans Z8.out (Nat.le_trans Z9.out (Nat.le_trans Z10.out (Nat.le_trans Z11.out (Nat.le_trans Z12.out (Nat.le_trans Z13.out (Nat.le_trans Z14.out (Nat.le_trans Z15.out (Nat.le_trans Z16.out Z17.out)))))))))))
    have Gb_18 := Lib.hid (Gb_17.out.keep hb)
    have H_18 := Lib.hid (H_17.out.keep (Below.mono hb Z17.out))
    have Hb_18 := Lib.hid (Hb_17.out.keep hb)
    clear hb
    obtain ⟨zG1, zG2, _⟩ := Gb_18.out
    go_wp2_with fail
    clear zG1 zG2
    refine (heldPlane_any _ _ _ _ L 1 _ (by omega) (by omega) (by omega) G_18.out (Nat.le_trans Z8.out (Nat.le_trans Z9.out (Nat.le_trans Z10.out (Nat.le_trans Z11.out (Nat.le_trans Z12.out (Nat.le_trans Z13.out (Nat.le_trans Z14.out (Nat.le_trans Z15.out (Nat.le_trans Z16.out (Nat.le_trans Z17.out Z18.out))))))))))).mono ?_
    rintro e w19 ⟨rfl, hb⟩
    have B19 := Lib.hid (below_step B18.out hb)
    have Z19 := Lib.hid (Below.size hb)
    have G_19 := Lib.hid (G_18.out.keep (Below.mono hb (Nat.le_trans Z8.out (Nat.le_trans Z9.out (Nat.le_trans Z10.out (Nat.le_trans Z11.out (Nat.le_trans Z12.out (Nat.le_trans Z13.out (Nat.le_trans Z14.out (Nat.le_trans Z15.out (Nat.le_trans Z16.out (Nat.le_trans Z17.out Z18.out))))))))))))
    have Gb_19 := Lib.hid (Gb_18.out.keep hb)
    clear hb
    go_wp2
    go_ret
    exact ⟨rfl, below_step HB.out B19.out⟩
  · skip
    obtain ⟨W, hW, x0, hwb⟩ := start1 27 w m0 A0 l0.length c0
    have X0 := Lib.hid x0
    have HW := Lib.hid hW
    have HB := Lib.hid hwb
    have HRA0 := Lib.hid (RA.below ra0 hwb)
    have B0 := Lib.hid (Below.refl W.heap.size W)
    clear hW hwb x0 ra0
    go_enter Try.func4, Try.ntmps4
    go_wp2_with fail
    rw [HW.out]
    refine (szSeries_no _ _ _ _ _ _ (by omega) (by omega) (by omega) (by omega)).mono ?_
    rintro e w1 ⟨rfl, hb⟩
    have B1 := Lib.hid (below_step B0.out hb)
    have Z1 := Lib.hid (Below.size hb)
    clear hb
    go_wp2
    go_ret
    exact ⟨rfl, below_step HB.out B1.out⟩
end Go.Proofs.Ytlpfifdocgljnaa.fnExactLawOfDifferential
