/- TypicalLaw answers as its model at all arguments, leaves them alone, and owns its answer. No conditions. The frame follows the one that the kit prints for a law. -/
import Derived.Test.YtfhdgcndiljjcabRows
import Derived.Test.YtfhdgcndiljjcabMgax
import Derived.Test.YtfhdgcndiljjcabMgaa
import Derived.WalkKit
import Derived.ProofKit
import Derived.OpenShut
import Derived.ShutString
import Derived.ChangeOld
import Derived.Below
namespace Go.Proofs.Ytfhdgcndiljjcab.fnExactTypicalLaw
open Go.ChangeShapes Go.WideShapes Go.ChangeAt Go.RowKit
set_option linter.unusedVariables false

set_option maxHeartbeats 4000000 in
set_option maxRecDepth 100000 in
theorem walk (k0 : Int) (k1 : Int) (k2 : Int) (A3 : Option Addr) (c3 : Nat) (l3 : List Int) (w : World) (hm3 : l3.length ≤ maxLen) (ra3 : RA w A3 l3) :
    Calls Try.prog 3 #[.int .i64 k0, .int .i64 k1, .int .i64 k2, .slice A3 l3.length c3] w fun e w' => e = .returned (.bool true) ∧ Below w.heap.size w w' := by
  unfold maxLen at hm3
  by_cases h3 : (l3.length : Int) ≤ 1048576
  · have u3 : l3.length ≤ 1048576 := by omega
    obtain ⟨M, L, C, hMLC⟩ : ∃ M L C, tlaS k0 k1 k2 l3 = (M, L, C) := ⟨_, _, _, rfl⟩
    have hL : szT L ≤ 1048576 := by have := tlaS_len k0 k1 k2 l3; rw [hMLC] at this; exact this
    have hLt : tot L ≤ 1048576 := by unfold szT at hL; omega
    have HS : Hid (∀ (A3 : Option Addr) (c3 : Nat) (W : World), RI W A3 l3 → Calls Try.prog 5 #[.int .i64 k0, .int .i64 k1, .int .i64 k2, .slice A3 l3.length c3] W fun e w' => ∃ s, e = .returned (.tuple #[.agg #[.int .i64 M, s], .int .i64 C]) ∧ OwnR w' W.heap.size w'.heap.size s L ∧ Below W.heap.size W w') :=
      Lib.hid (fun A3 c3 W r3 => by have := sTypicalLaw_any k0 k1 k2 A3 c3 l3 W (by omega) r3; rw [hMLC] at this; exact this)
    have HI : Hid (∀ (A3 : Option Addr) (c3 : Nat) (W : World), RI W A3 l3 → Calls Try.prog 7 #[.int .i64 k0, .int .i64 k1, .int .i64 k2, .slice A3 l3.length c3] W fun e w' => ∃ s, e = .returned (.tuple #[.agg #[.int .i64 M, s], .int .i64 C]) ∧ OwnR w' W.heap.size w'.heap.size s L ∧ Below W.heap.size W w') :=
      Lib.hid (fun A3 c3 W r3 => by have := TypicalLaw_any k0 k1 k2 A3 c3 l3 W (by omega) r3; rw [hMLC] at this; exact this)
    have HB : Hid (Below w.heap.size w w) := Lib.hid (Below.refl _ _)
    have B0 := Lib.hid (Below.refl w.heap.size w)
    have HRA3 := Lib.hid ra3
    clear ra3
    clear hMLC
    go_enter Try.func3, Try.ntmps3
    go_wp2_with fail
    refine (toInt64S_any _ _ l3 _ u3 (HRA3.out.below B0.out)).mono ?_
    rintro e w1 ⟨sa3, rfl, ho, hb⟩
    obtain ⟨Aa3, ca3, rfl, _⟩ := ho.form
    have B1 := Lib.hid (below_step B0.out hb)
    have Z1 := Lib.hid (Below.size hb)
    have a3_1 := Lib.hid ho
    clear ho hb
    go_wp2_with fail
    refine (HS.out _ _ _ a3_1.out.ri).mono ?_
    rintro e w2 ⟨sW, rfl, ho, hb⟩
    obtain ⟨AW, cW, rfl, _⟩ := ho.len
    have B2 := Lib.hid (below_step B1.out hb)
    have Z2 := Lib.hid (Below.size hb)
    have a3_2 := Lib.hid (a3_1.out.keep hb)
    have W_2 := Lib.hid ho
    clear ho hb
    obtain ⟨w3, hV, hx, hb⟩ := start1 25 w2 M AW L.length cW
    have B3 := Lib.hid (below_step B2.out hb)
    have Z3 := Lib.hid (Below.size hb)
    have W_3 := Lib.hid (W_2.out.keep (Below.mono hb (Nat.le_refl _)))
    have Wb_3 := Lib.hid hx
    have HV := Lib.hid hV
    clear hV hx hb
    go_wp2_with fail
    rw [HV.out]
    clear HV
    refine (toInt64S_any _ _ l3 _ u3 (HRA3.out.below B3.out)).mono ?_
    rintro e w4 ⟨sx3, rfl, ho, hb⟩
    obtain ⟨Ax3, cx3, rfl, _⟩ := ho.form
    have B4 := Lib.hid (below_step B3.out hb)
    have Z4 := Lib.hid (Below.size hb)
    have W_4 := Lib.hid (W_3.out.keep (Below.mono hb Z3.out))
    have Wb_4 := Lib.hid (Wb_3.out.keep hb)
    have x3_4 := Lib.hid ho
    clear ho hb
    go_wp2_with fail
    refine (HI.out _ _ _ x3_4.out.ri).mono ?_
    rintro e w5 ⟨sG, rfl, ho, hb⟩
    obtain ⟨AG, cG, rfl, _⟩ := ho.len
    have B5 := Lib.hid (below_step B4.out hb)
    have Z5 := Lib.hid (Below.size hb)
    have W_5 := Lib.hid (W_4.out.keep (Below.mono hb (Nat.le_trans Z3.out Z4.out)))
    have Wb_5 := Lib.hid (Wb_4.out.keep hb)
    have x3_5 := Lib.hid (x3_4.out.keep hb)
    have G_5 := Lib.hid ho
    clear ho hb
    obtain ⟨w6, hV, hx, hb⟩ := start1 25 w5 M AG L.length cG
    have B6 := Lib.hid (below_step B5.out hb)
    have Z6 := Lib.hid (Below.size hb)
    have W_6 := Lib.hid (W_5.out.keep (Below.mono hb (Nat.le_trans Z3.out (Nat.le_trans Z4.out Z5.out))))
    have Wb_6 := Lib.hid (Wb_5.out.keep hb)
    have x3_6 := Lib.hid (x3_5.out.keep hb)
    have G_6 := Lib.hid (G_5.out.keep (Below.mono hb (Nat.le_refl _)))
    have Gb_6 := Lib.hid hx
    have HV := Lib.hid hV
    clear hV hx hb
    obtain ⟨zW1, zW2, _⟩ := Wb_6.out
    rw [← HV.out] at zW1 zW2
    go_wp2_with fail
    rw [HV.out]
    clear HV
    clear zW1 zW2
    refine (eqPlane_any _ _ _ _ _ _ _ L _ (by omega) G_6.out W_6.out Z6.out (Nat.le_trans Z3.out (Nat.le_trans Z4.out (Nat.le_trans Z5.out Z6.out)))).mono ?_
    rintro e w7 ⟨rfl, hb⟩
    have B7 := Lib.hid (below_step B6.out hb)
    have Z7 := Lib.hid (Below.size hb)
    have W_7 := Lib.hid (W_6.out.keep (Below.mono hb (Nat.le_trans Z3.out (Nat.le_trans Z4.out (Nat.le_trans Z5.out Z6.out)))))
    have Wb_7 := Lib.hid (Wb_6.out.keep hb)
    have x3_7 := Lib.hid (x3_6.out.keep hb)
    have G_7 := Lib.hid (G_6.out.keep (Below.mono hb Z6.out))
    have Gb_7 := Lib.hid (Gb_6.out.keep hb)
    clear hb
    go_wp2_with fail
    refine (toInt64S_any _ _ l3 _ u3 (HRA3.out.below B7.out)).mono ?_
    rintro e w8 ⟨sq3, rfl, ho, hb⟩
    obtain ⟨Aq3, cq3, rfl, _⟩ := ho.form
    have B8 := Lib.hid (below_step B7.out hb)
    have Z8 := Lib.hid (Below.size hb)
    have W_8 := Lib.hid (W_7.out.keep (Below.mono hb (Nat.le_trans Z3.out (Nat.le_trans Z4.out (Nat.le_trans Z5.out (Nat.le_trans Z6.out Z7.out))))))
    have Wb_8 := Lib.hid (Wb_7.out.keep hb)
    have x3_8 := Lib.hid (x3_7.out.keep hb)
    have G_8 := Lib.hid (G_7.out.keep (Below.mono hb (Nat.le_trans Z6.out Z7.out)))
    have Gb_8 := Lib.hid (Gb_7.out.keep hb)
    have q3_8 := Lib.hid ho
    clear ho hb
    go_wp2_with fail
    refine (eqInt64S_any _ _ _ _ l3 _ (by omega) x3_8.out.ri q3_8.out.ri).mono ?_
    rintro e w9 ⟨rfl, hb⟩
    have B9 := Lib.hid (below_step B8.out hb)
    have Z9 := Lib.hid (Below.size hb)
    have W_9 := Lib.hid (W_8.out.keep (Below.mono hb (Nat.le_trans Z3.out (Nat.le_trans Z4.out (Nat.le_trans Z5.out (Nat.le_trans Z6.out (Nat.le_trans Z7.out Z8.out)))))))
    have Wb_9 := Lib.hid (Wb_8.out.keep hb)
    have x3_9 := Lib.hid (x3_8.out.keep hb)
    have G_9 := Lib.hid (G_8.out.keep (Below.mono hb (Nat.le_trans Z6.out (Nat.le_trans Z7.out Z8.out))))
    have Gb_9 := Lib.hid (Gb_8.out.keep hb)
    have q3_9 := Lib.hid (q3_8.out.keep hb)
    clear hb
    go_wp2_with fail
    refine (markInt64S_any _ _ l3 1 _ (by omega) (by omega) (by omega) x3_9.out).mono ?_
    rintro e w10 ⟨rfl, ho, hg⟩
    have hs : Span w3.heap.size w4.heap.size w9 w10 := Span.of_grown hg (fun g h => ⟨(x3_4.out.lt g h).1, (x3_4.out.lt g h).2⟩)
    clear hg
    have B10 := Lib.hid (B9.out.trans ((hs.below (Nat.le_trans Z4.out (Nat.le_trans Z5.out (Nat.le_trans Z6.out (Nat.le_trans Z7.out (Nat.le_trans Z8.out Z9.out)))))).mono B3.out.size))
    have Z10 := Lib.hid hs.size
    have W_10 := Lib.hid (W_9.out.far hs (.inl Z3.out))
    have Wb_10 := Lib.hid (Wb_9.out.span hs (.inl (Nat.lt_of_lt_of_le Wb_3.out.2.2 (Nat.le_refl _))))
    have G_10 := Lib.hid (G_9.out.far hs (.inr (Nat.le_refl _)))
    have Gb_10 := Lib.hid (Gb_9.out.span hs (.inr Z5.out))
    have x3_10 := Lib.hid ho
    clear ho hs
    obtain ⟨zG1, zG2, _⟩ := Gb_10.out
    obtain ⟨zW1, zW2, _⟩ := Wb_10.out
    go_wp2_with fail
    clear zG1 zG2 zW1 zW2
    refine (eqPlane_any _ _ _ _ _ _ _ L _ (by omega) G_10.out W_10.out (Nat.le_trans Z6.out (Nat.le_trans Z7.out (Nat.le_trans Z8.out (Nat.le_trans Z9.out Z10.out)))) (Nat.le_trans Z3.out (Nat.le_trans Z4.out (Nat.le_trans Z5.out (Nat.le_trans Z6.out (Nat.le_trans Z7.out (Nat.le_trans Z8.out (Nat.le_trans Z9.out Z10.out)))))))).mono ?_
    rintro e w11 ⟨rfl, hb⟩
    have B11 := Lib.hid (below_step B10.out hb)
    have Z11 := Lib.hid (Below.size hb)
    have W_11 := Lib.hid (W_10.out.keep (Below.mono hb (Nat.le_trans Z3.out (Nat.le_trans Z4.out (Nat.le_trans Z5.out (Nat.le_trans Z6.out (Nat.le_trans Z7.out (Nat.le_trans Z8.out (Nat.le_trans Z9.out Z10.out)))))))))
    have Wb_11 := Lib.hid (Wb_10.out.keep hb)
    have G_11 := Lib.hid (G_10.out.keep (Below.mono hb (Nat.le_trans Z6.out (Nat.le_trans Z7.out (Nat.le_trans Z8.out (Nat.le_trans Z9.out Z10.out))))))
    have Gb_11 := Lib.hid (Gb_10.out.keep hb)
    clear hb
    obtain ⟨zG1, zG2, _⟩ := Gb_11.out
    go_wp2_with fail
    clear zG1 zG2
    refine (markPlane_any M _ _ _ L _ _ (by omega) (by omega) (by omega) G_11.out (Nat.le_trans Z6.out (Nat.le_trans Z7.out (Nat.le_trans Z8.out (Nat.le_trans Z9.out (Nat.le_trans Z10.out Z11.out)))))).mono ?_
    rintro e w12 ⟨rfl, ho, hs⟩
    have B12 := Lib.hid (B11.out.trans ((hs.below (Nat.le_trans Z5.out (Nat.le_trans Z6.out (Nat.le_trans Z7.out (Nat.le_trans Z8.out (Nat.le_trans Z9.out (Nat.le_trans Z10.out Z11.out))))))).mono B4.out.size))
    have Z12 := Lib.hid hs.size
    have W_12 := Lib.hid (W_11.out.far hs (.inl (Nat.le_trans Z3.out Z4.out)))
    have Wb_12 := Lib.hid (Wb_11.out.span hs (.inl (Nat.lt_of_lt_of_le Wb_3.out.2.2 Z4.out)))
    have Gb_12 := Lib.hid (Gb_11.out.span hs (.inr (Nat.le_refl _)))
    have G_12 := Lib.hid ho
    clear ho hs
    obtain ⟨zG1, zG2, _⟩ := Gb_12.out
    go_wp2_with fail
    clear zG1 zG2
    refine (heldPlane_any _ _ _ _ L 1 _ (by omega) (by omega) (by omega) G_12.out (Nat.le_trans Z6.out (Nat.le_trans Z7.out (Nat.le_trans Z8.out (Nat.le_trans Z9.out (Nat.le_trans Z10.out (Nat.le_trans Z11.out Z12.out))))))).mono ?_
    rintro e w13 ⟨rfl, hb⟩
    have B13 := Lib.hid (below_step B12.out hb)
    have Z13 := Lib.hid (Below.size hb)
    have W_13 := Lib.hid (W_12.out.keep (Below.mono hb (Nat.le_trans Z3.out (Nat.le_trans Z4.out (Nat.le_trans Z5.out (Nat.le_trans Z6.out (Nat.le_trans Z7.out (Nat.le_trans Z8.out (Nat.le_trans Z9.out (Nat.le_trans Z10.out (Nat.le_trans Z11.out Z12.out)))))))))))
    have Wb_13 := Lib.hid (Wb_12.out.keep hb)
    have G_13 := Lib.hid (G_12.out.keep (Below.mono hb (Nat.le_trans Z6.out (Nat.le_trans Z7.out (Nat.le_trans Z8.out (Nat.le_trans Z9.out (Nat.le_trans Z10.out (Nat.le_trans Z11.out Z12.out))))))))
    have Gb_13 := Lib.hid (Gb_12.out.keep hb)
    clear hb
    go_wp2_with fail
    refine (toInt64S_any _ _ l3 _ u3 (HRA3.out.below B13.out)).mono ?_
    rintro e w14 ⟨sz3, rfl, ho, hb⟩
    obtain ⟨Az3, cz3, rfl, _⟩ := ho.form
    have B14 := Lib.hid (below_step B13.out hb)
    have Z14 := Lib.hid (Below.size hb)
    have W_14 := Lib.hid (W_13.out.keep (Below.mono hb (Nat.le_trans Z3.out (Nat.le_trans Z4.out (Nat.le_trans Z5.out (Nat.le_trans Z6.out (Nat.le_trans Z7.out (Nat.le_trans Z8.out (Nat.le_trans Z9.out (Nat.le_trans Z10.out (Nat.le_trans Z11.out (Nat.le_trans Z12.out Z13.out))))))))))))
    have Wb_14 := Lib.hid (Wb_13.out.keep hb)
    have G_14 := Lib.hid (G_13.out.keep (Below.mono hb (Nat.le_trans Z6.out (Nat.le_trans Z7.out (Nat.le_trans Z8.out (Nat.le_trans Z9.out (Nat.le_trans Z10.out (Nat.le_trans Z11.out (Nat.le_trans Z12.out Z13.out)))))))))
    have Gb_14 := Lib.hid (Gb_13.out.keep hb)
    have z3_14 := Lib.hid ho
    clear ho hb
    go_wp2_with fail
    refine (HI.out _ _ _ z3_14.out.ri).mono ?_
    rintro e w15 ⟨sH, rfl, ho, hb⟩
    obtain ⟨AH, cH, rfl, _⟩ := ho.len
    have B15 := Lib.hid (below_step B14.out hb)
    have Z15 := Lib.hid (Below.size hb)
    have W_15 := Lib.hid (W_14.out.keep (Below.mono hb (Nat.le_trans Z3.out (Nat.le_trans Z4.out (Nat.le_trans Z5.out (Nat.le_trans Z6.out (Nat.le_trans Z7.out (Nat.le_trans Z8.out (Nat.le_trans Z9.out (Nat.le_trans Z10.out (Nat.le_trans Z11.out (Nat.le_trans Z12.out (Nat.le_trans Z13.out Z14.out)))))))))))))
    have Wb_15 := Lib.hid (Wb_14.out.keep hb)
    have G_15 := Lib.hid (G_14.out.keep (Below.mono hb (Nat.le_trans Z6.out (Nat.le_trans Z7.out (Nat.le_trans Z8.out (Nat.le_trans Z9.out (Nat.le_trans Z10.out (Nat.le_trans Z11.out (Nat.le_trans Z12.out (Nat.le_trans Z13.out Z14.out))))))))))
    have Gb_15 := Lib.hid (Gb_14.out.keep hb)
    have z3_15 := Lib.hid (z3_14.out.keep hb)
    have H_15 := Lib.hid ho
    clear ho hb
    obtain ⟨w16, hV, hx, hb⟩ := start1 25 w15 M AH L.length cH
    have B16 := Lib.hid (below_step B15.out hb)
    have Z16 := Lib.hid (Below.size hb)
    have W_16 := Lib.hid (W_15.out.keep (Below.mono hb (Nat.le_trans Z3.out (Nat.le_trans Z4.out (Nat.le_trans Z5.out (Nat.le_trans Z6.out (Nat.le_trans Z7.out (Nat.le_trans Z8.out (Nat.le_trans Z9.out (Nat.le_trans Z10.out (Nat.le_trans Z11.out (Nat.le_trans Z12.out (Nat.le_trans Z13.out (Nat.le_trans Z14.out Z15.out))))))))))))))
    have Wb_16 := Lib.hid (Wb_15.out.keep hb)
    have G_16 := Lib.hid (G_15.out.keep (Below.mono hb (Nat.le_trans Z6.out (Nat.le_trans Z7.out (Nat.le_trans Z8.out (Nat.le_trans Z9.out (Nat.le_trans Z10.out (Nat.le_trans Z11.out (Nat.le_trans Z12.out (Nat.le_trans Z13.out (Nat.le_trans Z14.out Z15.out)))))))))))
    have Gb_16 := Lib.hid (Gb_15.out.keep hb)
    have H_16 := Lib.hid (H_15.out.keep (Below.mono hb (Nat.le_refl _)))
    have Hb_16 := Lib.hid hx
    have HV := Lib.hid hV
    clear hV hx hb
    obtain ⟨zW1, zW2, _⟩ := Wb_16.out
    rw [← HV.out] at zW1 zW2
    go_wp2_with fail
    rw [HV.out]
    clear HV
    clear zW1 zW2
    refine (eqPlane_any _ _ _ _ _ _ _ L _ (by omega) H_16.out W_16.out Z16.out (Nat.le_trans Z3.out (Nat.le_trans Z4.out (Nat.le_trans Z5.out (Nat.le_trans Z6.out (Nat.le_trans Z7.out (Nat.le_trans Z8.out (Nat.le_trans Z9.out (Nat.le_trans Z10.out (Nat.le_trans Z11.out (Nat.le_trans Z12.out (Nat.le_trans Z13.out (Nat.le_trans Z14.out (Nat.le_trans Z15.out Z16.out)))))))))))))).mono ?_
    rintro e w17 ⟨rfl, hb⟩
    have B17 := Lib.hid (below_step B16.out hb)
    have Z17 := Lib.hid (Below.size hb)
    have W_17 := Lib.hid (W_16.out.keep (Below.mono hb (Nat.le_trans Z3.out (Nat.le_trans Z4.out (Nat.le_trans Z5.out (Nat.le_trans Z6.out (Nat.le_trans Z7.out (Nat.le_trans Z8.out (Nat.le_trans Z9.out (Nat.le_trans Z10.out (Nat.le_trans Z11.out (Nat.le_trans Z12.out (Nat.le_trans Z13.out (Nat.le_trans Z14.out (Nat.le_trans Z15.out Z16.out)))))))))))))))
    have Wb_17 := Lib.hid (Wb_16.out.keep hb)
    have G_17 := Lib.hid (G_16.out.keep (Below.mono hb (Nat.le_trans Z6.out (Nat.le_trans Z7.out (Nat.le_trans Z8.out (Nat.le_trans Z9.out (Nat.le_trans Z10.out (Nat.le_trans Z11.out (Nat.le_trans Z12.out (Nat.le_trans Z13.out (Nat.le_trans Z14.out (Nat.le_trans Z15.out Z16.out))))))))))))
    have Gb_17 := Lib.hid (Gb_16.out.keep hb)
    have H_17 := Lib.hid (H_16.out.keep (Below.mono hb Z16.out))
    have Hb_17 := Lib.hid (Hb_16.out.keep hb)
    clear hb
    obtain ⟨zG1, zG2, _⟩ := Gb_17.out
    go_wp2_with fail
    clear zG1 zG2
    refine (heldPlane_any _ _ _ _ L 1 _ (by omega) (by omega) (by omega) G_17.out (Nat.le_trans Z6.out (Nat.le_trans Z7.out (Nat.le_trans Z8.out (Nat.le_trans Z9.out (Nat.le_trans Z10.out (Nat.le_trans Z11.out (Nat.le_trans Z12.out (Nat.le_trans Z13.out (Nat.le_trans Z14.out (Nat.le_trans Z15.out (Nat.le_trans Z16.out Z17.out)))))))))))).mono ?_
    rintro e w18 ⟨rfl, hb⟩
    have B18 := Lib.hid (below_step B17.out hb)
    have Z18 := Lib.hid (Below.size hb)
    have G_18 := Lib.hid (G_17.out.keep (Below.mono hb (Nat.le_trans Z6.out (Nat.le_trans Z7.out (Nat.le_trans Z8.out (Nat.le_trans Z9.out (Nat.le_trans Z10.out (Nat.le_trans Z11.out (Nat.le_trans Z12.out (Nat.le_trans Z13.out (Nat.le_trans Z14.out (Nat.le_trans Z15.out (Nat.le_trans Z16.out Z17.out)))))))))))))
    have Gb_18 := Lib.hid (Gb_17.out.keep hb)
    clear hb
    go_wp2
    go_ret
    exact ⟨rfl, below_step HB.out B18.out⟩
  · skip
    have HB : Hid (Below w.heap.size w w) := Lib.hid (Below.refl _ _)
    have B0 := Lib.hid (Below.refl w.heap.size w)
    have HRA3 := Lib.hid ra3
    clear ra3
    go_enter Try.func3, Try.ntmps3
    have h3' : (1048576 : Int) < (l3.length : Int) := by omega
    go_wp2
    go_ret
    exact ⟨rfl, below_step HB.out B0.out⟩
end Go.Proofs.Ytfhdgcndiljjcab.fnExactTypicalLaw
