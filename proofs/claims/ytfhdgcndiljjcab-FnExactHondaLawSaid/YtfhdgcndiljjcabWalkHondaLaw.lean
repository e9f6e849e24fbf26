/- HondaLaw answers as its model at all arguments, leaves them alone, and owns its answer. No conditions. The frame follows the one that the kit prints for a law. -/
import Derived.Test.YtfhdgcndiljjcabRows
import Derived.Test.YtfhdgcndiljjcabMgay
import Derived.Test.YtfhdgcndiljjcabMgaa
import Derived.Test.YtfhdgcndiljjcabMgax
import Derived.WalkKit
import Derived.ProofKit
import Derived.OpenShut
import Derived.ShutString
import Derived.ChangeOld
import Derived.Below
namespace Go.Proofs.Ytfhdgcndiljjcab.fnExactHondaLaw
open Go.ChangeShapes Go.WideShapes Go.ChangeAt Go.RowKit
set_option linter.unusedVariables false

set_option maxHeartbeats 4000000 in
set_option maxRecDepth 100000 in
theorem walk (k0 : Int) (k1 : Int) (k2 : Int) (w : World)  :
    Calls Try.prog 4 #[.int .i64 k0, .int .i64 k1, .int .i64 k2] w fun e w' => e = .returned (.bool true) ∧ Below w.heap.size w w' := by
  obtain ⟨M, L, C, hMLC⟩ : ∃ M L C, honM k0 k1 k2 = (M, L, C) := ⟨_, _, _, rfl⟩
  have hL : szT L ≤ 1048576 := by have := honM_len k0 k1 k2; rw [hMLC] at this; exact this
  have hLt : tot L ≤ 1048576 := by unfold szT at hL; omega
  have HS : Hid (∀  (W : World), Calls Try.prog 13 #[.int .i64 k0, .int .i64 k1, .int .i64 k2] W fun e w' => ∃ s, e = .returned (.tuple #[.agg #[.int .i64 M, s], .int .i64 C]) ∧ OwnR w' W.heap.size w'.heap.size s L ∧ Below W.heap.size W w') :=
    Lib.hid (fun  W  => by have := sHondaLaw_any k0 k1 k2 W  ; rw [hMLC] at this; exact this)
  have HI : Hid (∀  (W : World), Calls Try.prog 14 #[.int .i64 k0, .int .i64 k1, .int .i64 k2] W fun e w' => ∃ s, e = .returned (.tuple #[.agg #[.int .i64 M, s], .int .i64 C]) ∧ OwnR w' W.heap.size w'.heap.size s L ∧ Below W.heap.size W w') :=
    Lib.hid (fun  W  => by have := HondaLaw_any k0 k1 k2 W  ; rw [hMLC] at this; exact this)
  have HB : Hid (Below w.heap.size w w) := Lib.hid (Below.refl _ _)
  have B0 := Lib.hid (Below.refl w.heap.size w)
  clear hMLC
  go_enter Try.func4, Try.ntmps4
  go_wp2_with fail
  refine (HS.out  _ ).mono ?_
  rintro e w1 ⟨sW, rfl, ho, hb⟩
  obtain ⟨AW, cW, rfl, _⟩ := ho.len
  have B1 := Lib.hid (below_step B0.out hb)
  have Z1 := Lib.hid (Below.size hb)
  have W_1 := Lib.hid ho
  clear ho hb
  obtain ⟨w2, hV, hx, hb⟩ := start1 25 w1 M AW L.length cW
  have B2 := Lib.hid (below_step B1.out hb)
  have Z2 := Lib.hid (Below.size hb)
  have W_2 := Lib.hid (W_1.out.keep (Below.mono hb (Nat.le_refl _)))
  have Wb_2 := Lib.hid hx
  have HV := Lib.hid hV
  clear hV hx hb
  go_wp2_with fail
  rw [HV.out]
  clear HV
  refine (HI.out  _ ).mono ?_
  rintro e w3 ⟨sG, rfl, ho, hb⟩
  obtain ⟨AG, cG, rfl, _⟩ := ho.len
  have B3 := Lib.hid (below_step B2.out hb)
  have Z3 := Lib.hid (Below.size hb)
  have W_3 := Lib.hid (W_2.out.keep (Below.mono hb Z2.out))
  have Wb_3 := Lib.hid (Wb_2.out.keep hb)
  have G_3 := Lib.hid ho
  clear ho hb
  obtain ⟨w4, hV, hx, hb⟩ := start1 25 w3 M AG L.length cG
  have B4 := Lib.hid (below_step B3.out hb)
  have Z4 := Lib.hid (Below.size hb)
  have W_4 := Lib.hid (W_3.out.keep (Below.mono hb (Nat.le_trans Z2.out Z3.out)))
  have Wb_4 := Lib.hid (Wb_3.out.keep hb)
  have G_4 := Lib.hid (G_3.out.keep (Below.mono hb (Nat.le_refl _)))
  have Gb_4 := Lib.hid hx
  have HV := Lib.hid hV
  clear hV hx hb
  obtain ⟨zW1, zW2, _⟩ := Wb_4.out
  rw [← HV.out] at zW1 zW2
  go_wp2_with fail
  rw [HV.out]
  clear HV
  clear zW1 zW2
  refine (eqPlane_any _ _ _ _ _ _ _ L _ (by omega) G_4.out W_4.out Z4.out (Nat.le_trans Z2.out (Nat.le_trans Z3.out Z4.out))).mono ?_
  rintro e w5 ⟨rfl, hb⟩
  have B5 := Lib.hid (below_step B4.out hb)
  have Z5 := Lib.hid (Below.size hb)
  have W_5 := Lib.hid (W_4.out.keep (Below.mono hb (Nat.le_trans Z2.out (Nat.le_trans Z3.out Z4.out))))
  have Wb_5 := Lib.hid (Wb_4.out.keep hb)
  have G_5 := Lib.hid (G_4.out.keep (Below.mono hb Z4.out))
  have Gb_5 := Lib.hid (Gb_4.out.keep hb)
  clear hb
  obtain ⟨zG1, zG2, _⟩ := Gb_5.out
  go_wp2_with fail
  clear zG1 zG2
  refine (markPlane_any M _ _ _ L _ _ (by omega) (by omega) (by omega) G_5.out (Nat.le_trans Z4.out Z5.out)).mono ?_
  rintro e w6 ⟨rfl, ho, hs⟩
  have B6 := Lib.hid (B5.out.trans ((hs.below (Nat.le_trans Z3.out (Nat.le_trans Z4.out Z5.out))).mono B2.out.size))
  have Z6 := Lib.hid hs.size
  have W_6 := Lib.hid (W_5.out.far hs (.inl Z2.out))
  have Wb_6 := Lib.hid (Wb_5.out.span hs (.inl (Nat.lt_of_lt_of_le Wb_2.out.2.2 (Nat.le_refl _))))
  have Gb_6 := Lib.hid (Gb_5.out.span hs (.inr (Nat.le_refl _)))
  have G_6 := Lib.hid ho
  clear ho hs
  obtain ⟨zG1, zG2, _⟩ := Gb_6.out
  go_wp2_with fail
  clear zG1 zG2
  refine (heldPlane_any _ _ _ _ L 1 _ (by omega) (by omega) (by omega) G_6.out (Nat.le_trans Z4.out (Nat.le_trans Z5.out Z6.out))).mono ?_
  rintro e w7 ⟨rfl, hb⟩
  have B7 := Lib.hid (below_step B6.out hb)
  have Z7 := Lib.hid (Below.size hb)
  have W_7 := Lib.hid (W_6.out.keep (Below.mono hb (Nat.le_trans Z2.out (Nat.le_trans Z3.out (Nat.le_trans Z4.out (Nat.le_trans Z5.out Z6.out))))))
  have Wb_7 := Lib.hid (Wb_6.out.keep hb)
  have G_7 := Lib.hid (G_6.out.keep (Below.mono hb (Nat.le_trans Z4.out (Nat.le_trans Z5.out Z6.out))))
  have Gb_7 := Lib.hid (Gb_6.out.keep hb)
  clear hb
  go_wp2_with fail
  refine (HI.out  _ ).mono ?_
  rintro e w8 ⟨sH, rfl, ho, hb⟩
  obtain ⟨AH, cH, rfl, _⟩ := ho.len
  have B8 := Lib.hid (below_step B7.out hb)
  have Z8 := Lib.hid (Below.size hb)
  have W_8 := Lib.hid (W_7.out.keep (Below.mono hb (Nat.le_trans Z2.out (Nat.le_trans Z3.out (Nat.le_trans Z4.out (Nat.le_trans Z5.out (Nat.le_trans Z6.out Z7.out)))))))
  have Wb_8 := Lib.hid (Wb_7.out.keep hb)
  have G_8 := Lib.hid (G_7.out.keep (Below.mono hb (Nat.le_trans Z4.out (Nat.le_trans Z5.out (Nat.le_trans Z6.out Z7.out)))))
  have Gb_8 := Lib.hid (Gb_7.out.keep hb)
  have H_8 := Lib.hid ho
  clear ho hb
  obtain ⟨w9, hV, hx, hb⟩ := start1 25 w8 M AH L.length cH
  have B9 := Lib.hid (below_step B8.out hb)
  have Z9 := Lib.hid (Below.size hb)
  have W_9 := Lib.hid (W_8.out.keep (Below.mono hb (Nat.le_trans Z2.out (Nat.le_trans Z3.out (Nat.le_trans Z4.out (Nat.le_trans Z5.out (Nat.le_trans Z6.out (Nat.le_trans Z7.out Z8.out))))))))
  have Wb_9 := Lib.hid (Wb_8.out.keep hb)
  have G_9 := Lib.hid (G_8.out.keep (Below.mono hb (Nat.le_trans Z4.out (Nat.le_trans Z5.out (Nat.le_trans Z6.out (Nat.le_trans Z7.out Z8.out))))))
  have Gb_9 := Lib.hid (Gb_8.out.keep hb)
  have H_9 := Lib.hid (H_8.out.keep (Below.mono hb (Nat.le_refl _)))
  have Hb_9 := Lib.hid hx
  have HV := Lib.hid hV
  clear hV hx hb
  obtain ⟨zW1, zW2, _⟩ := Wb_9.out
  rw [← HV.out] at zW1 zW2
  go_wp2_with fail
  rw [HV.out]
  clear HV
  clear zW1 zW2
  refine (eqPlane_any _ _ _ _ _ _ _ L _ (by omega) H_9.out W_9.out Z9.out (Nat.le_trans Z2.out (Nat.le_trans Z3.out (Nat.le_trans Z4.out (Nat.le_trans Z5.out (Nat.le_trans Z6.out (Nat.le_trans Z7.out (Nat.le_trans Z8.out Z9.out)))))))).mono ?_
  rintro e w10 ⟨rfl, hb⟩
  have B10 := Lib.hid (below_step B9.out hb)
  have Z10 := Lib.hid (Below.size hb)
  have W_10 := Lib.hid (W_9.out.keep (Below.mono hb (Nat.le_trans Z2.out (Nat.le_trans Z3.out (Nat.le_trans Z4.out (Nat.le_trans Z5.out (Nat.le_trans Z6.out (Nat.le_trans Z7.out (Nat.le_trans Z8.out Z9.out)))))))))
  have Wb_10 := Lib.hid (Wb_9.out.keep hb)
  have G_10 := Lib.hid (G_9.out.keep (Below.mono hb (Nat.le_trans Z4.out (Nat.le_trans Z5.out (Nat.le_trans Z6.out (Nat.le_trans Z7.out (Nat.le_trans Z8.out Z9.out)))))))
  have Gb_10 := Lib.hid (Gb_9.out.keep hb)
  have H_10 := Lib.hid (H_9.out.keep (Below.mono hb Z9.out))
  have Hb_10 := Lib.hid (Hb_9.out.keep hb)
  clear hb
  obtain ⟨zG1, zG2, _⟩ := Gb_10.out
  go_wp2_with fail
  clear zG1 zG2
  refine (heldPlane_any _ _ _ _ L 1 _ (by omega) (by omega) (by omega) G_10.out (Nat.le_trans Z4.out (Nat.le_trans Z5.out (Nat.le_trans Z6.out (Nat.le_trans Z7.out (Nat.le_trans Z8.out (Nat.le_trans Z9.out Z10.out))))))).mono ?_
  rintro e w11 ⟨rfl, hb⟩
  have B11 := Lib.hid (below_step B10.out hb)
  have Z11 := Lib.hid (Below.size hb)
  have G_11 := Lib.hid (G_10.out.keep (Below.mono hb (Nat.le_trans Z4.out (Nat.le_trans Z5.out (Nat.le_trans Z6.out (Nat.le_trans Z7.out (Nat.le_trans Z8.out (Nat.le_trans Z9.out Z10.out))))))))
  have Gb_11 := Lib.hid (Gb_10.out.keep hb)
  clear hb
  go_wp2
  go_ret
  exact ⟨rfl, below_step HB.out B11.out⟩
end Go.Proofs.Ytfhdgcndiljjcab.fnExactHondaLaw
