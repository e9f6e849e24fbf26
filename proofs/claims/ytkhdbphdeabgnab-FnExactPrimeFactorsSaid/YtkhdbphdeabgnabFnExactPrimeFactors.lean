/- PrimeFactors answers as its model at all integers, and owns its answer. No conditions. The frame is the one that the kit prints for this law. -/
import Derived.Test.YtkhdbphdeabgnabRows
import Derived.Test.YtkhdbphdeabgnabPfa
import Derived.WalkKit
import Derived.ProofKit
import Derived.OpenShut
namespace Go.Proofs.Ytkhdbphdeabgnab.fnExactPrimeFactors
open Go.ChangeShapes Go.WideShapes Go.ChangeAt Go.RowKit
set_option linter.unusedVariables false      -- a walk need not use every 'w<i>' (that an integer argument fits its kind)

theorem own : ownKnob Try.prog.godebug = none := by kernel_rfl

set_option maxHeartbeats 2000000
theorem walk (a0 : Int) (w0 : (Lit.int .i64 a0).wf = true) (w : World) :
    Calls Try.prog 5 #[.int .i64 a0] w fun e w' => e = .returned (.bool true) ∧ Below w.heap.size w w' := by
  obtain ⟨R, C, hRC⟩ : ∃ R C, facM a0 = (R, C) := ⟨_, _, rfl⟩
  obtain ⟨r1, r2, r3⟩ := facM_bd a0
  rw [hRC] at r1 r2 r3
  dsimp only at r1 r2 r3
  have HS : Hid (∀ W : World, Calls Try.prog 18 #[.int .i64 a0] W fun e w' => ∃ v, e = .returned (.tuple #[v, .int .i64 C]) ∧ OwnR w' W.heap.size w'.heap.size v R ∧ Below W.heap.size W w') :=
    Lib.hid (fun W => by have := sPrimeFactors_any a0 W; rw [hRC] at this; exact this)
  have HI : Hid (∀ W : World, Calls Try.prog 19 #[.int .i64 a0] W fun e w' => ∃ v, e = .returned (.tuple #[v, .int .i64 C]) ∧ OwnR w' W.heap.size w'.heap.size v R ∧ Below W.heap.size W w') :=
    Lib.hid (fun W => by have := PrimeFactors_any a0 W; rw [hRC] at this; exact this)
  have H3 := Lib.hid r3
  clear hRC r3
  go_enter Try.func5, Try.ntmps5
  go_wp2_with fail
  refine (HS.out _).mono ?_
  rintro e w1 ⟨v1, rfl, ho1, hb1⟩
  have B1 := Lib.hid hb1
  have O1 := Lib.hid ho1
  clear ho1 hb1
  go_wp2_with fail
  refine (HI.out _).mono ?_
  rintro e w2 ⟨v2, rfl, ho2, hb2⟩
  have B2 := Lib.hid (B1.out.trans (hb2.mono B1.out.size))
  have O2 := Lib.hid ho2
  have P1 := Lib.hid (O1.out.keep hb2)
  have Z1 := Lib.hid hb2.size
  clear ho2 hb2
  go_wp2_with fail
  refine (eqInt64SS_any _ _ _ _ _ _ R _ (by omega) (fun i => by have := H3.out i; omega) O2.out P1.out).mono ?_
  rintro e w3 ⟨rfl, hb3⟩
  have B3 := Lib.hid (B2.out.trans (hb3.mono B2.out.size))
  have Q2 := Lib.hid (O2.out.keep hb3)
  have Q1 := Lib.hid (P1.out.keep (hb3.mono Z1.out))
  have Z3 := Lib.hid hb3.size
  clear hb3
  go_wp2_with fail
  refine (markInt64SS_any _ _ _ R 1 _ (by omega) (by omega) (by omega) (by omega) Q2.out).mono ?_
  rintro e w4 ⟨rfl, ho4, hs4⟩
  have B4 := Lib.hid (B3.out.trans ((hs4.below (Nat.le_trans Z1.out Z3.out)).mono B1.out.size))
  have S2 := Lib.hid ho4
  have S1 := Lib.hid (Q1.out.far hs4 (.inl (Nat.le_refl _)))
  have Z4 := Lib.hid hs4.size
  clear ho4 hs4
  go_wp2_with fail
  refine (heldInt64SS_any _ _ _ R 1 _ (by omega) (by omega) (by omega) (by omega) S2.out).mono ?_
  rintro e w5 ⟨rfl, rfl⟩
  go_wp2_with fail
  refine (HI.out _).mono ?_
  rintro e w6 ⟨v6, rfl, ho6, hb6⟩
  have B6 := Lib.hid (B4.out.trans (hb6.mono B4.out.size))
  have O6 := Lib.hid ho6
  have T2 := Lib.hid (S2.out.keep (hb6.mono (Nat.le_trans Z3.out Z4.out)))
  have T1 := Lib.hid (S1.out.keep (hb6.mono (Nat.le_trans (Nat.le_trans Z1.out Z3.out) Z4.out)))
  have Z6 := Lib.hid hb6.size
  clear ho6 hb6
  go_wp2_with fail
  refine (eqInt64SS_any _ _ _ _ _ _ R _ (by omega) (fun i => by have := H3.out i; omega) O6.out T1.out).mono ?_
  rintro e w7 ⟨rfl, hb7⟩
  have B7 := Lib.hid (B6.out.trans (hb7.mono B6.out.size))
  have U2 := Lib.hid (T2.out.keep (hb7.mono (Nat.le_trans (Nat.le_trans Z3.out Z4.out) Z6.out)))
  clear hb7
  go_wp2_with fail
  refine (heldInt64SS_any _ _ _ R 1 _ (by omega) (by omega) (by omega) (by omega) U2.out).mono ?_
  rintro e w8 ⟨rfl, rfl⟩
  go_wp2
  go_ret
  exact ⟨rfl, B7.out⟩

set_option maxRecDepth 100000 in
theorem lifted (os : Os) (started : os.Started) (H : Type) (enc : TypeId × Value → H) :
    ReturnsInHanded {} Try.checked os 5 .any (Rows.fnExactPrimeFactorsSpec.pre6 enc Try.prog Try.f5 Rows.fnExactPrimeFactorsRow.domain false) (Rows.fnExactPrimeFactorsSpec.post enc Try.prog Try.f5 false true false false) := by
  refine returnsInHanded_of_change (C := Try.checked) own started (by kernel_rfl) Try.func5
    (ChangeSpec.witness6 (enc := enc) (C := Try.checked) false ⟨#[], #[.int .i64 0], []⟩ 8 (by kernel_rfl) (by kernel_rfl) (by kernel_rfl) (by kernel_rfl)) ?_
  intro W base args ds gs before hval0 hW hcnd _
  have hval : ∀ (j : Nat) t v, Try.f5.params[j]? = some t → args[j]? = some v → Value.okWide Try.prog W .any base t v := hval0
  have hW' := hW
  obtain ⟨p, q, hA0, hV, rfl, hfz, hnd⟩ := hW
  have hA : DataW.TrodAll enc Try.prog W 0 (fun _ => true) true Try.f5.params.toList args.toList ds p := hA0
  rw [Try.params5] at hA hval
  obtain ⟨v0, vs0, d0, ds0, p0, q0, hargs, rfl, rfl, h0, r0⟩ := trodAll_cons hA
  obtain ⟨rfl, rfl, rfl⟩ := trodAll_nil r0
  obtain rfl : args = #[v0] := by cases args; simp_all
  obtain ⟨rfl, rfl⟩ := trodVars_none hV
  obtain ⟨a0, rfl, rfl, rfl, w0⟩ := open_int Try.underlying2 (hval 0 2 v0 rfl rfl) h0
  clear hA0 hval0
  simp only [List.append_nil] at hW'
  refine (walk a0 w0 W).mono fun e W' ⟨he, hg⟩ => ?_
  subst he
  exact ⟨_, rfl, below_post (pa := []) (pv := []) hW' (fun _ _ _ => (trodAll_cons_mk (shut_bool Try.underlying4 _) trodAll_mk0)) (fun sp _ => (trodAll_cons_mk (shut_int Try.underlying2 w0) trodAll_mk0)) (fun _ _ => rfl) rfl
    hg (ok_one (by kernel_rfl) rfl (okWide_bool_mk Try.underlying4 _))⟩

theorem over : Rows.fnExactPrimeFactorsRow.holds Try.pinned (OpenSpec.ofChange Rows.fnExactPrimeFactorsSpec) :=
  OpenClaim.holds_of_wide 5 Try.f5 rfl rfl rfl rfl rfl rfl rfl ⟨rfl, rfl, rfl, rfl, rfl⟩ rfl rfl rfl rfl rfl (by kernel_rfl) Try.func5 (by kernel_rfl)
    (of_decide_eq_true (by kernel_rfl)) (by unfold Func.isWrapper; first | (rw [if_pos (by decide +kernel)]; kernel_rfl) | (rw [if_neg (by decide +kernel)]; exact ⟨rfl, rfl⟩))
    (fun os started H enc _ => lifted os started H enc)

theorem proved : Rows.FnExactPrimeFactorsSaid :=
  over
#print axioms proved
end Go.Proofs.Ytkhdbphdeabgnab.fnExactPrimeFactors
