/- TypicalParameters answers as its model at all arguments, leaves them alone, and owns its answer. No conditions. The frame follows the one that the kit prints for a law. -/
import Derived.Test.YtfhdgcndiljjcabGreatRows
import Derived.Test.YtfhdgcndiljjcabGreatMgaw
import Derived.Test.YtfhdgcndiljjcabGreatMgaa
import Derived.WalkKit
import Derived.ProofKit
import Derived.OpenShut
import Derived.ShutString
import Derived.ChangeOld
import Derived.Below
namespace Go.Proofs.YtfhdgcndiljjcabGreat.fnExactTypicalParameters
open Go.ChangeShapes Go.WideShapes Go.ChangeAt Go.RowKit
set_option linter.unusedVariables false

set_option maxHeartbeats 4000000 in
set_option maxRecDepth 100000 in
theorem walk (k0 : Int) (m1 : Int) (A1 : Option Addr) (c1 : Nat) (t1 : List (List Int)) (w : World) (hm1 : t1.length ≤ 9223372036854775807 ∧ ∀ k, (Pl.rw' t1 k).length ≤ 9223372036854775807) (ra1 : RQ w A1 t1) :
    Calls Tryz.prog 3 #[.int .i64 k0, .agg #[.int .i64 m1, .slice A1 t1.length c1]] w fun e w' => e = .returned (.bool true) ∧ Below w.heap.size w w' := by
  by_cases h1 : ((szT t1 : Nat) : Int) ≤ 1048576
  · have u1 : szT t1 ≤ 1048576 := by omega
    have v1 : tot t1 ≤ 1048576 := by unfold szT at u1; omega
    obtain ⟨L, C, hLC⟩ : ∃ L C, tparM k0 m1 t1 = (L, C) := ⟨_, _, rfl⟩
    have hL : L.length ≤ 1048576 := by have := tparM_len k0 m1 t1; rw [hLC] at this; exact this
    have HS : Hid (∀ (A1 : Option Addr) (c1 : Nat) (W : World), RP W A1 t1 → Calls Tryz.prog 8 #[.int .i64 k0, .agg #[.int .i64 m1, .slice A1 t1.length c1]] W fun e w' => ∃ s, e = .returned (.tuple #[s, .int .i64 C]) ∧ OwnI w' W.heap.size s L ∧ Below W.heap.size W w') :=
      Lib.hid (fun A1 c1 W r1 => by have := sTypicalParameters_any k0 m1 A1 c1 t1 W (by omega) r1; rw [hLC] at this; exact this)
    have HI : Hid (∀ (A1 : Option Addr) (c1 : Nat) (W : World), RP W A1 t1 → Calls Tryz.prog 10 #[.int .i64 k0, .agg #[.int .i64 m1, .slice A1 t1.length c1]] W fun e w' => ∃ s, e = .returned (.tuple #[s, .int .i64 C]) ∧ OwnI w' W.heap.size s L ∧ Below W.heap.size W w') :=
      Lib.hid (fun A1 c1 W r1 => by have := TypicalParameters_any k0 m1 A1 c1 t1 W (by omega) r1; rw [hLC] at this; exact this)
    obtain ⟨W, hW, x1, hwb⟩ := start1 24 w m1 A1 t1.length c1
    have X1 := Lib.hid x1
    have HW := Lib.hid hW
    have HB := Lib.hid hwb
    have HRA1 := Lib.hid (RQ.below ra1 hwb)
    have B0 := Lib.hid (Below.refl W.heap.size W)
    clear hW hwb x1 ra1
    clear hLC
    go_enter Tryz.func3, Tryz.ntmps3
    go_wp2_with fail
    rw [HW.out]
    refine (szPlane_ok _ _ _ _ _ _ (by omega) (by omega) (HRA1.out.below B0.out)).mono ?_
    rintro e w1 ⟨rfl, hb⟩
    have B1 := Lib.hid (below_step B0.out hb)
    have Z1 := Lib.hid (Below.size hb)
    clear hb
    obtain ⟨zp1, zq1⟩ := box_in X1.out B1.out
    go_wp2_with fail
    clear zp1 zq1
    refine (toPlane_any _ _ _ t1 _ u1 (HRA1.out.below B1.out)).mono ?_
    rintro e w2 ⟨sa1, rfl, ho, hb⟩
    obtain ⟨Aa1, ca1, rfl, _⟩ := ho.len
    have B2 := Lib.hid (below_step B1.out hb)
    have Z2 := Lib.hid (Below.size hb)
    have a1_2 := Lib.hid ho
    clear ho hb
    go_wp2_with fail
    refine (HS.out _ _ _ a1_2.out.rp).mono ?_
    rintro e w3 ⟨sW, rfl, ho, hb⟩
    obtain ⟨AW, cW, rfl, _⟩ := ho.form
    have B3 := Lib.hid (below_step B2.out hb)
    have Z3 := Lib.hid (Below.size hb)
    have a1_3 := Lib.hid (a1_2.out.keep (Below.mono hb (Nat.le_refl _)))
    have W_3 := Lib.hid ho
    clear ho hb
    obtain ⟨zp1, zq1⟩ := box_in X1.out B3.out
    go_wp2_with fail
    clear zp1 zq1
    refine (toPlane_any _ _ _ t1 _ u1 (HRA1.out.below B3.out)).mono ?_
    rintro e w4 ⟨sx1, rfl, ho, hb⟩
    obtain ⟨Ax1, cx1, rfl, _⟩ := ho.len
    have B4 := Lib.hid (below_step B3.out hb)
    have Z4 := Lib.hid (Below.size hb)
    have W_4 := Lib.hid (W_3.out.keep hb)
    have x1_4 := Lib.hid ho
    clear ho hb
    obtain ⟨w5, hV, hx, hb⟩ := start1 29 w4 m1 Ax1 t1.length cx1
    have B5 := Lib.hid (below_step B4.out hb)
    have Z5 := Lib.hid (Below.size hb)
    have W_5 := Lib.hid (W_4.out.keep hb)
    have x1_5 := Lib.hid (x1_4.out.keep (Below.mono hb (Nat.le_refl _)))
    have x1b_5 := Lib.hid hx
    have HV := Lib.hid hV
    clear hV hx hb
    go_wp2_with fail
    rw [HV.out]
    clear HV
    refine (HI.out _ _ _ x1_5.out.rp).mono ?_
    rintro e w6 ⟨sG, rfl, ho, hb⟩
    obtain ⟨AG, cG, rfl, _⟩ := ho.form
    have B6 := Lib.hid (below_step B5.out hb)
    have Z6 := Lib.hid (Below.size hb)
    have W_6 := Lib.hid (W_5.out.keep hb)
    have x1_6 := Lib.hid (x1_5.out.keep (Below.mono hb Z5.out))
    have x1b_6 := Lib.hid (x1b_5.out.keep hb)
    have G_6 := Lib.hid ho
    clear ho hb
    go_wp2_with fail
    refine (eqInt64S_any _ _ _ _ L _ (by omega) G_6.out.ri W_6.out.ri).mono ?_
    rintro e w7 ⟨rfl, hb⟩
    have B7 := Lib.hid (below_step B6.out hb)
    have Z7 := Lib.hid (Below.size hb)
    have W_7 := Lib.hid (W_6.out.keep hb)
    have x1_7 := Lib.hid (x1_6.out.keep (Below.mono hb (Nat.le_trans Z5.out Z6.out)))
    have x1b_7 := Lib.hid (x1b_6.out.keep hb)
    have G_7 := Lib.hid (G_6.out.keep hb)
    clear hb
    go_wp2
    go_region_held3 (fun w' => (w'.cell? ⟨w4.heap.size, 0, none⟩ = some (.int .i64 m1) ∧ w'.cell? ⟨w4.heap.size, 1, none⟩ = some (.slice Ax1 t1.length cx1) ∧ w4.heap.size < w'.heap.size) ∧ (w'.cell? ⟨w.heap.size, 0, none⟩ = some (.int .i64 m1) ∧ w'.cell? ⟨w.heap.size, 1, none⟩ = some (.slice A1 t1.length c1) ∧ w.heap.size < w'.heap.size)) (first | exact ⟨x1b_7.out.keep (below_drew0 _), (X1.out.keep B7.out).keep (below_drew0 _)⟩ | exact box22_call (by assumption) (by assumption)) (first
      | (go_at_call 9; refine (toPlane_any _ _ _ t1 _ u1 (HRA1.out.below (below_step B7.out (below_drew0 _)))).mono ?_; rintro e wq ⟨sy, rfl, ho, hb⟩; obtain ⟨Ay, cy, rfl, _⟩ := ho.len)
      | (go_at_call 12; refine (eqPlane_any _ _ _ _ _ _ _ t1 _ (by omega) (x1_7.out.keep (Below.mono (below_step (below_drew0 _) hb) (Nat.le_trans Z5.out (Nat.le_trans Z6.out Z7.out)))) ho (Nat.le_trans (Nat.le_trans Z5.out (Nat.le_trans Z6.out Z7.out)) (below_step (below_drew0 _) hb).size) (Nat.le_refl _)).mono ?_; rintro e w8 ⟨rfl, hb2⟩))
    have hb3 := below_step (below_step (below_drew0 w7) hb) hb2
    have B8 := Lib.hid (below_step B7.out hb3)
    have Z8 := Lib.hid (Below.size hb3)
    have W_8 := Lib.hid (W_7.out.keep hb3)
    have x1_8 := Lib.hid (x1_7.out.keep (Below.mono hb3 (Nat.le_trans Z5.out (Nat.le_trans Z6.out Z7.out))))
    have x1b_8 := Lib.hid (x1b_7.out.keep hb3)
    have G_8 := Lib.hid (G_7.out.keep hb3)
    clear ho hb hb2 hb3
    obtain ⟨zx11, zx12, _⟩ := x1b_8.out
    go_wp2_with fail
    clear zx11 zx12
    refine (markPlane_any m1 _ _ _ t1 _ _ (by omega) (by omega) (by omega) x1_8.out (Nat.le_trans Z5.out (Nat.le_trans Z6.out (Nat.le_trans Z7.out Z8.out)))).mono ?_
    rintro e w9 ⟨rfl, ho, hs⟩
    have B9 := Lib.hid (B8.out.trans ((hs.below (Nat.le_trans Z4.out (Nat.le_trans Z5.out (Nat.le_trans Z6.out (Nat.le_trans Z7.out Z8.out))))).mono B3.out.size))
    have Z9 := Lib.hid hs.size
    have W_9 := Lib.hid (W_8.out.far hs (fun g h => .inl (Nat.lt_of_lt_of_le (W_3.out.lt g h).2 (Nat.le_refl _))))
    have x1b_9 := Lib.hid (x1b_8.out.span hs (.inr (Nat.le_refl _)))
    have G_9 := Lib.hid (G_8.out.far hs (fun g h => .inr (Nat.le_trans Z5.out (G_6.out.lt g h).1)))
    have x1_9 := Lib.hid ho
    clear ho hs
    go_wp2_with fail
    refine (eqInt64S_any _ _ _ _ L _ (by omega) G_9.out.ri W_9.out.ri).mono ?_
    rintro e w10 ⟨rfl, hb⟩
    have B10 := Lib.hid (below_step B9.out hb)
    have Z10 := Lib.hid (Below.size hb)
    have W_10 := Lib.hid (W_9.out.keep hb)
    have G_10 := Lib.hid (G_9.out.keep hb)
    clear hb
    go_wp2_with fail
    refine (markInt64S_any _ _ L 1 _ (by omega) (by omega) (by omega) G_10.out).mono ?_
    rintro e w11 ⟨rfl, ho, hg⟩
    have hs : Span w5.heap.size w6.heap.size w10 w11 := Span.of_grown hg (fun g h => ⟨(G_6.out.lt g h).1, (G_6.out.lt g h).2⟩)
    clear hg
    have B11 := Lib.hid (B10.out.trans ((hs.below (Nat.le_trans Z6.out (Nat.le_trans Z7.out (Nat.le_trans Z8.out (Nat.le_trans Z9.out Z10.out))))).mono B5.out.size))
    have Z11 := Lib.hid hs.size
    have W_11 := Lib.hid (W_10.out.far hs (fun g h => .inl (Nat.lt_of_lt_of_le (W_3.out.lt g h).2 (Nat.le_trans Z4.out Z5.out))))
    have G_11 := Lib.hid ho
    clear ho hs
    go_wp2_with fail
    refine (heldInt64S_b _ _ L.length 1 _ (by omega) (by omega) (by omega) G_11.out.ri).mono ?_
    rintro e w12 ⟨rfl, hb⟩
    have B12 := Lib.hid (below_step B11.out hb)
    have Z12 := Lib.hid (Below.size hb)
    have W_12 := Lib.hid (W_11.out.keep hb)
    have G_12 := Lib.hid (G_11.out.keep hb)
    clear hb
    obtain ⟨zp1, zq1⟩ := box_in X1.out B12.out
    go_wp2_with fail
    clear zp1 zq1
    refine (toPlane_any _ _ _ t1 _ u1 (HRA1.out.below B12.out)).mono ?_
    rintro e w13 ⟨sz1, rfl, ho, hb⟩
    obtain ⟨Az1, cz1, rfl, _⟩ := ho.len
    have B13 := Lib.hid (below_step B12.out hb)
    have Z13 := Lib.hid (Below.size hb)
    have W_13 := Lib.hid (W_12.out.keep hb)
    have G_13 := Lib.hid (G_12.out.keep hb)
    have z1_13 := Lib.hid ho
    clear ho hb
    go_wp2_with fail
    refine (HI.out _ _ _ z1_13.out.rp).mono ?_
    rintro e w14 ⟨sH, rfl, ho, hb⟩
    obtain ⟨AH, cH, rfl, _⟩ := ho.form
    have B14 := Lib.hid (below_step B13.out hb)
    have Z14 := Lib.hid (Below.size hb)
    have W_14 := Lib.hid (W_13.out.keep hb)
    have G_14 := Lib.hid (G_13.out.keep hb)
    have z1_14 := Lib.hid (z1_13.out.keep (Below.mono hb (Nat.le_refl _)))
    have H_14 := Lib.hid ho
    clear ho hb
    go_wp2_with fail
    refine (eqInt64S_any _ _ _ _ L _ (by omega) H_14.out.ri W_14.out.ri).mono ?_
    rintro e w15 ⟨rfl, hb⟩
    have B15 := Lib.hid (below_step B14.out hb)
    have Z15 := Lib.hid (Below.size hb)
    have W_15 := Lib.hid (W_14.out.keep hb)
    have G_15 := Lib.hid (G_14.out.keep hb)
    have H_15 := Lib.hid (H_14.out.keep hb)
    clear hb
    go_wp2_with fail
    refine (heldInt64S_b _ _ L.length 1 _ (by omega) (by omega) (by omega) G_15.out.ri).mono ?_
    rintro e w16 ⟨rfl, hb⟩
    have B16 := Lib.hid (below_step B15.out hb)
    have Z16 := Lib.hid (Below.size hb)
    have G_16 := Lib.hid (G_15.out.keep hb)
    clear hb
    go_wp2
    go_ret
    exact ⟨rfl, below_step HB.out B16.out⟩
  · skip
    obtain ⟨W, hW, x1, hwb⟩ := start1 24 w m1 A1 t1.length c1
    have X1 := Lib.hid x1
    have HW := Lib.hid hW
    have HB := Lib.hid hwb
    have HRA1 := Lib.hid (RQ.below ra1 hwb)
    have B0 := Lib.hid (Below.refl W.heap.size W)
    clear hW hwb x1 ra1
    go_enter Tryz.func3, Tryz.ntmps3
    go_wp2_with fail
    rw [HW.out]
    refine (szPlane_no _ _ _ _ _ _ (by omega) (by omega) (by omega) (HRA1.out.below B0.out) hm1.1 hm1.2).mono ?_
    rintro e w1 ⟨rfl, hb⟩
    have B1 := Lib.hid (below_step B0.out hb)
    have Z1 := Lib.hid (Below.size hb)
    clear hb
    go_wp2
    go_ret
    exact ⟨rfl, below_step HB.out B1.out⟩
end Go.Proofs.YtfhdgcndiljjcabGreat.fnExactTypicalParameters
