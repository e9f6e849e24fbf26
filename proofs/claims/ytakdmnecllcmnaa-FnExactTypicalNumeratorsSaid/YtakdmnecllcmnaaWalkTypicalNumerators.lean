/- TypicalNumerators answers as its model at all arguments, leaves them alone, and owns its answer. No conditions. The frame follows the one that the kit prints for a law. -/
import Derived.Test.YtakdmnecllcmnaaRows
import Derived.Test.YtakdmnecllcmnaaMgac
import Derived.Test.YtakdmnecllcmnaaMgaa
import Derived.WalkKit
import Derived.ProofKit
import Derived.OpenShut
import Derived.ShutString
import Derived.ChangeOld
import Derived.Below
namespace Go.Proofs.Ytakdmnecllcmnaa.fnExactTypicalNumerators
open Go.ChangeShapes Go.WideShapes Go.ChangeAt Go.RowKit
set_option linter.unusedVariables false

set_option maxHeartbeats 4000000 in
set_option maxRecDepth 100000 in
theorem walk (k0 : Int) (k1 : Int) (A2 : Option Addr) (c2 : Nat) (l2 : List Int) (w : World) (hm2 : l2.length ≤ maxLen) (ra2 : RA w A2 l2) :
    Calls Try.prog 3 #[.int .i64 k0, .int .i64 k1, .slice A2 l2.length c2] w fun e w' => e = .returned (.bool true) ∧ Below w.heap.size w w' := by
  unfold maxLen at hm2
  by_cases h2 : (l2.length : Int) ≤ 1048576
  · have u2 : l2.length ≤ 1048576 := by omega
    obtain ⟨L, C, hLC⟩ : ∃ L C, tynM k0 k1 l2 = (L, C) := ⟨_, _, rfl⟩
    have hL : L.length ≤ 1048576 := by have := tynM_len k0 k1 l2; rw [hLC] at this; exact this
    have HS : Hid (∀ (A2 : Option Addr) (c2 : Nat) (W : World), RI W A2 l2 → Calls Try.prog 7 #[.int .i64 k0, .int .i64 k1, .slice A2 l2.length c2] W fun e w' => ∃ s, e = .returned (.tuple #[s, .int .i64 C]) ∧ OwnI w' W.heap.size s L ∧ Below W.heap.size W w') :=
      Lib.hid (fun A2 c2 W r2 => by have := sTypicalNumerators_any k0 k1 A2 c2 l2 W (by omega) r2; rw [hLC] at this; exact this)
    have HI : Hid (∀ (A2 : Option Addr) (c2 : Nat) (W : World), RI W A2 l2 → Calls Try.prog 9 #[.int .i64 k0, .int .i64 k1, .slice A2 l2.length c2] W fun e w' => ∃ s, e = .returned (.tuple #[s, .int .i64 C]) ∧ OwnI w' W.heap.size s L ∧ Below W.heap.size W w') :=
      Lib.hid (fun A2 c2 W r2 => by have := TypicalNumerators_any k0 k1 A2 c2 l2 W (by omega) r2; rw [hLC] at this; exact this)
    have HB : Hid (Below w.heap.size w w) := Lib.hid (Below.refl _ _)
    have B0 := Lib.hid (Below.refl w.heap.size w)
    have HRA2 := Lib.hid ra2
    clear ra2
    clear hLC
    go_enter Try.func3, Try.ntmps3
    go_wp2_with fail
    refine (toInt64S_any _ _ l2 _ u2 (HRA2.out.below B0.out)).mono ?_
    rintro e w1 ⟨sa2, rfl, ho, hb⟩
    obtain ⟨Aa2, ca2, rfl, _⟩ := ho.form
    have B1 := Lib.hid (below_step B0.out hb)
    have Z1 := Lib.hid (Below.size hb)
    have a2_1 := Lib.hid ho
    clear ho hb
    go_wp2_with fail
    refine (HS.out _ _ _ a2_1.out.ri).mono ?_
    rintro e w2 ⟨sW, rfl, ho, hb⟩
    obtain ⟨AW, cW, rfl, _⟩ := ho.form
    have B2 := Lib.hid (below_step B1.out hb)
    have Z2 := Lib.hid (Below.size hb)
    have a2_2 := Lib.hid (a2_1.out.keep hb)
    have W_2 := Lib.hid ho
    clear ho hb
    go_wp2_with fail
    refine (toInt64S_any _ _ l2 _ u2 (HRA2.out.below B2.out)).mono ?_
    rintro e w3 ⟨sx2, rfl, ho, hb⟩
    obtain ⟨Ax2, cx2, rfl, _⟩ := ho.form
    have B3 := Lib.hid (below_step B2.out hb)
    have Z3 := Lib.hid (Below.size hb)
    have W_3 := Lib.hid (W_2.out.keep hb)
    have x2_3 := Lib.hid ho
    clear ho hb
    go_wp2_with fail
    refine (HI.out _ _ _ x2_3.out.ri).mono ?_
    rintro e w4 ⟨sG, rfl, ho, hb⟩
    obtain ⟨AG, cG, rfl, _⟩ := ho.form
    have B4 := Lib.hid (below_step B3.out hb)
    have Z4 := Lib.hid (Below.size hb)
    have W_4 := Lib.hid (W_3.out.keep hb)
    have x2_4 := Lib.hid (x2_3.out.keep hb)
    have G_4 := Lib.hid ho
    clear ho hb
    go_wp2_with fail
    refine (eqInt64S_any _ _ _ _ L _ (by omega) G_4.out.ri W_4.out.ri).mono ?_
    rintro e w5 ⟨rfl, hb⟩
    have B5 := Lib.hid (below_step B4.out hb)
    have Z5 := Lib.hid (Below.size hb)
    have W_5 := Lib.hid (W_4.out.keep hb)
    have x2_5 := Lib.hid (x2_4.out.keep hb)
    have G_5 := Lib.hid (G_4.out.keep hb)
    clear hb
    go_wp2_with fail
    refine (toInt64S_any _ _ l2 _ u2 (HRA2.out.below B5.out)).mono ?_
    rintro e w6 ⟨sq2, rfl, ho, hb⟩
    obtain ⟨Aq2, cq2, rfl, _⟩ := ho.form
    have B6 := Lib.hid (below_step B5.out hb)
    have Z6 := Lib.hid (Below.size hb)
    have W_6 := Lib.hid (W_5.out.keep hb)
    have x2_6 := Lib.hid (x2_5.out.keep hb)
    have G_6 := Lib.hid (G_5.out.keep hb)
    have q2_6 := Lib.hid ho
    clear ho hb
    go_wp2_with fail
    refine (eqInt64S_any _ _ _ _ l2 _ (by omega) x2_6.out.ri q2_6.out.ri).mono ?_
    rintro e w7 ⟨rfl, hb⟩
    have B7 := Lib.hid (below_step B6.out hb)
    have Z7 := Lib.hid (Below.size hb)
    have W_7 := Lib.hid (W_6.out.keep hb)
    have x2_7 := Lib.hid (x2_6.out.keep hb)
    have G_7 := Lib.hid (G_6.out.keep hb)
    have q2_7 := Lib.hid (q2_6.out.keep hb)
    clear hb
    go_wp2_with fail
    refine (markInt64S_any _ _ l2 1 _ (by omega) (by omega) (by omega) x2_7.out).mono ?_
    rintro e w8 ⟨rfl, ho, hg⟩
    have hs : Span w2.heap.size w3.heap.size w7 w8 := Span.of_grown hg (fun g h => ⟨(x2_3.out.lt g h).1, (x2_3.out.lt g h).2⟩)
    clear hg
    have B8 := Lib.hid (B7.out.trans ((hs.below (Nat.le_trans Z3.out (Nat.le_trans Z4.out (Nat.le_trans Z5.out (Nat.le_trans Z6.out Z7.out))))).mono B2.out.size))
    have Z8 := Lib.hid hs.size
    have W_8 := Lib.hid (W_7.out.far hs (fun g h => .inl (Nat.lt_of_lt_of_le (W_2.out.lt g h).2 (Nat.le_refl _))))
    have G_8 := Lib.hid (G_7.out.far hs (fun g h => .inr (Nat.le_trans (Nat.le_refl _) (G_4.out.lt g h).1)))
    have x2_8 := Lib.hid ho
    clear ho hs
    go_wp2_with fail
    refine (eqInt64S_any _ _ _ _ L _ (by omega) G_8.out.ri W_8.out.ri).mono ?_
    rintro e w9 ⟨rfl, hb⟩
    have B9 := Lib.hid (below_step B8.out hb)
    have Z9 := Lib.hid (Below.size hb)
    have W_9 := Lib.hid (W_8.out.keep hb)
    have G_9 := Lib.hid (G_8.out.keep hb)
    clear hb
    go_wp2_with fail
    refine (markInt64S_any _ _ L 1 _ (by omega) (by omega) (by omega) G_9.out).mono ?_
    rintro e w10 ⟨rfl, ho, hg⟩
    have hs : Span w3.heap.size w4.heap.size w9 w10 := Span.of_grown hg (fun g h => ⟨(G_4.out.lt g h).1, (G_4.out.lt g h).2⟩)
    clear hg
    have B10 := Lib.hid (B9.out.trans ((hs.below (Nat.le_trans Z4.out (Nat.le_trans Z5.out (Nat.le_trans Z6.out (Nat.le_trans Z7.out (Nat.le_trans Z8.out Z9.out)))))).mono B3.out.size))
    have Z10 := Lib.hid hs.size
    have W_10 := Lib.hid (W_9.out.far hs (fun g h => .inl (Nat.lt_of_lt_of_le (W_2.out.lt g h).2 Z3.out)))
    have G_10 := Lib.hid ho
    clear ho hs
    go_wp2_with fail
    refine (heldInt64S_b _ _ L.length 1 _ (by omega) (by omega) (by omega) G_10.out.ri).mono ?_
    rintro e w11 ⟨rfl, hb⟩
    have B11 := Lib.hid (below_step B10.out hb)
    have Z11 := Lib.hid (Below.size hb)
    have W_11 := Lib.hid (W_10.out.keep hb)
    have G_11 := Lib.hid (G_10.out.keep hb)
    clear hb
    go_wp2_with fail
    refine (toInt64S_any _ _ l2 _ u2 (HRA2.out.below B11.out)).mono ?_
    rintro e w12 ⟨sz2, rfl, ho, hb⟩
    obtain ⟨Az2, cz2, rfl, _⟩ := ho.form
    have B12 := Lib.hid (below_step B11.out hb)
    have Z12 := Lib.hid (Below.size hb)
    have W_12 := Lib.hid (W_11.out.keep hb)
    have G_12 := Lib.hid (G_11.out.keep hb)
    have z2_12 := Lib.hid ho
    clear ho hb
    go_wp2_with fail
    refine (HI.out _ _ _ z2_12.out.ri).mono ?_
    rintro e w13 ⟨sH, rfl, ho, hb⟩
    obtain ⟨AH, cH, rfl, _⟩ := ho.form
    have B13 := Lib.hid (below_step B12.out hb)
    have Z13 := Lib.hid (Below.size hb)
    have W_13 := Lib.hid (W_12.out.keep hb)
    have G_13 := Lib.hid (G_12.out.keep hb)
    have z2_13 := Lib.hid (z2_12.out.keep hb)
    have H_13 := Lib.hid ho
    clear ho hb
    go_wp2_with fail
    refine (eqInt64S_any _ _ _ _ L _ (by omega) H_13.out.ri W_13.out.ri).mono ?_
    rintro e w14 ⟨rfl, hb⟩
    have B14 := Lib.hid (below_step B13.out hb)
    have Z14 := Lib.hid (Below.size hb)
    have W_14 := Lib.hid (W_13.out.keep hb)
    have G_14 := Lib.hid (G_13.out.keep hb)
    have H_14 := Lib.hid (H_13.out.keep hb)
    clear hb
    go_wp2_with fail
    refine (heldInt64S_b _ _ L.length 1 _ (by omega) (by omega) (by omega) G_14.out.ri).mono ?_
    rintro e w15 ⟨rfl, hb⟩
    have B15 := Lib.hid (below_step B14.out hb)
    have Z15 := Lib.hid (Below.size hb)
    have G_15 := Lib.hid (G_14.out.keep hb)
    clear hb
    go_wp2
    go_ret
    exact ⟨rfl, below_step HB.out B15.out⟩
  · skip
    have HB : Hid (Below w.heap.size w w) := Lib.hid (Below.refl _ _)
    have B0 := Lib.hid (Below.refl w.heap.size w)
    have HRA2 := Lib.hid ra2
    clear ra2
    go_enter Try.func3, Try.ntmps3
    have h2' : (1048576 : Int) < (l2.length : Int) := by omega
    go_wp2
    go_ret
    exact ⟨rfl, below_step HB.out B0.out⟩
end Go.Proofs.Ytakdmnecllcmnaa.fnExactTypicalNumerators
