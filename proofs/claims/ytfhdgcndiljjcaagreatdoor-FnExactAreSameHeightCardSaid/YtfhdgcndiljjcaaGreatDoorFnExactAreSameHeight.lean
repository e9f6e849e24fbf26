/- AreSameHeight answers as its model at all arguments, leaves them alone, and owns its answer. The two package-level variables on its road hold what the program's text lays them (the tied card). The walk is in the text that is imported; this frame follows the one that the kit prints for a law. -/
import Derived.Test.YtfhdgcndiljjcaaGreatDoorRows
import Derived.Test.YtfhdgcndiljjcaaGreatDoorWalkAreSameHeight
import Derived.Test.YtfhdgcndiljjcaaGreatDoorMgaj
import Derived.Test.YtfhdgcndiljjcaaGreatDoorMgaa
import Derived.WalkKit
import Derived.ProofKit
import Derived.OpenShut
import Derived.ShutString
import Derived.ChangeOld
import Derived.Below
import Derived.ChangeSame
import Derived.ChangeVars
import Derived.JoinedOf
import Derived.RowKitTokens
import Derived.LaidLaws
import Derived.LaidHandle
import Derived.Stop.Joined
import Derived.SevenTiedAt
import Derived.Test.YtfhdgcndiljjcaaGreatDoorMgak
import Derived.Test.YtfhdgcndiljjcaaGreatDoorTie
import Derived.Test.YtfhdgcndiljjcaaGreatDoorCards
namespace Go.Proofs.YtfhdgcndiljjcaaGreatDoor.fnExactAreSameHeight
open Go.ChangeShapes Go.WideShapes Go.ChangeAt Go.RowKit
set_option linter.unusedVariables false

theorem own : ownKnob Tryz.prog.godebug = none := by kernel_rfl
theorem laidOut : laidOutB Tryz.prog = true := by kernel_rfl

set_option maxRecDepth 100000 in
theorem lifted (os : Os) (started : os.Started) (H : Type) (enc : TypeId × Value → H) :
    ReturnsInHanded {} Tryz.checked os 6 .any (fun w args => (Rows.fnExactAreSameHeightSpec.pre enc Tryz.prog Tryz.f6 [] false w args ∧ laidMetH Tryz.prog Rows.fnExactAreSameHeightRow.laid w) ∧ sizedMet enc Tryz.prog Tryz.f6 (OpenSpec.ofChange Rows.fnExactAreSameHeightSpec) false w args) (Rows.fnExactAreSameHeightSpec.post enc Tryz.prog Tryz.f6 false true false false) := by
  refine returnsInHanded_of_change_and (C := Tryz.checked) (X := fun w _ => laidMetH Tryz.prog Rows.fnExactAreSameHeightRow.laid w) (fun _ _ _ hh h => h.of_heap hh) own started (by kernel_rfl) Tryz.func6
    (ChangeSpec.witness_at (enc := enc) (C := Tryz.checked) (os := os) (X := fun w _ => laidMetH Tryz.prog Rows.fnExactAreSameHeightRow.laid w) false (laidWorldZ os) #[.agg #[.int .i64 0, .slice none 0 0], .agg #[.int .i64 0, .slice none 0 0]] 8 rfl (by kernel_rfl) (by kernel_rfl) (by kernel_rfl) (by kernel_rfl) (by kernel_rfl) (laidWorldZ_met os _)) ?_
  intro W base args ds gs before hval0 hW hcnd _ hL _
  have hval : ∀ (j : Nat) t v, Tryz.f6.params[j]? = some t → args[j]? = some v → Value.okWide Tryz.prog W .any base t v := hval0
  have hW' := hW
  obtain ⟨p, q, hA0, hV, rfl, hfz, hnd⟩ := hW
  have hA : DataW.TrodAll enc Tryz.prog W 0 (fun _ => true) true Tryz.f6.params.toList args.toList ds p := hA0
  rw [Tryz.params6] at hA hval
  obtain ⟨v0, vs0, d0, ds0, p0, q0, hargs, rfl, rfl, h0, r0⟩ := trodAll_cons hA
  obtain ⟨v1, vs1, d1, ds1, p1, q1, rfl, rfl, rfl, h1, r1⟩ := trodAll_cons r0
  obtain ⟨rfl, rfl, rfl⟩ := trodAll_nil r1
  obtain rfl : args = #[v0, v1] := by cases args; simp_all
  obtain ⟨hE9, a9, hv9⟩ := laid_both hL
  have hV9 : DataW.TrodVars enc Tryz.prog W (fun _ => true) ["loop.example/g01152/impl.errZeroMultiple"] gs q := hV
  obtain ⟨rfl, rfl⟩ := hV9.unique (vars_read enc hv9 trivial _)
  have t0 := h0
  have lt0 : ∀ x ∈ p0, x.block < W.heap.size := by obtain ⟨m, hm⟩ := t0; exact DataW.trod_lt m _ _ _ hm
  obtain ⟨m0, A0, c0, l0, rfl, hm0, ra0⟩ := open_pla (hval 0 24 v0 rfl rfl) h0
  have t1 := h1
  have lt1 : ∀ x ∈ p1, x.block < W.heap.size := by obtain ⟨m, hm⟩ := t1; exact DataW.trod_lt m _ _ _ hm
  obtain ⟨m1, A1, c1, l1, rfl, hm1, ra1⟩ := open_pla (hval 1 24 v1 rfl rfl) h1
  clear hA0 hval0
  refine (walk m0 A0 c0 l0 m1 A1 c1 l1 W hm0 ra0 hm1 ra1 (.pointer (some a9)) hE9 (zero_cell hv9)).mono fun e W' ⟨he, bel⟩ => ?_
  subst he
  exact ⟨_, rfl, _, _, _, [], _, [.cell 0 0], hW', trodAll_mk1 (shut_bool Tryz.underlying4 _), (trodAll_cons_mk (Below.trod laidOut (by kernel_rfl) (of_decide_eq_true (by kernel_rfl)) t0 bel lt0) (trodAll_cons_mk (Below.trod laidOut (by kernel_rfl) (of_decide_eq_true (by kernel_rfl)) t1 bel lt1) trodAll_mk0)), vars_read enc (var_below hv9 bel) trivial _, bel.frame _, fun h => by cases h⟩

/- the closed facts of the row, each a lemma of its own: together they outgrow the kernel's memory -/
set_option maxHeartbeats 8000000 in
set_option maxRecDepth 100000 in
theorem closed : joinedFacts Tryz.pinned.checked.prog 6 Tryz.f6 Rows.fnExactAreSameHeightSpec Rows.fnExactAreSameHeightRow = true := by
  unfold joinedFacts
  simp only [Bool.and_eq_true]
  and_intros
  all_goals as_aux_lemma => kernel_rfl

theorem over : Rows.fnExactAreSameHeightRow.holds Tryz.pinned (OpenSpec.ofChange Rows.fnExactAreSameHeightSpec) :=
  OpenClaim.holds_of_wide 6 Tryz.f6 rfl rfl rfl rfl rfl rfl rfl ⟨rfl, rfl, rfl, rfl, rfl⟩ rfl rfl rfl rfl rfl (by kernel_rfl) Tryz.func6 closed
    (of_decide_eq_true (by kernel_rfl)) (by unfold Func.isWrapper; first | (rw [if_pos (by decide +kernel)]; kernel_rfl) | (rw [if_neg (by decide +kernel)]; exact ⟨rfl, rfl⟩))
    (fun os started H enc _ => lifted os started H enc)

theorem proved : Rows.FnExactAreSameHeightCardSaid :=
  Claim7.holds_tied_plain_at .later [] [.handle, .sentinel] true (true, "7b1c177332139c3c436701fba198a296cd64bd548495bf68912b07494758b3f7") true
    over (fun _ h => by cases h) (by kernel_rfl) (fun _ h => by cases h) fnExactAreSameHeight_row_tie rfl ⟨rfl, rfl⟩ (by kernel_rfl) rfl
    (fun f fn hf hfn => by
      obtain rfl : f = 6 := Option.some.inj ((show Tryz.prog.funcNamed "loop.example/g01152/laws.FnExactAreSameHeight" = some 6 by kernel_rfl).symm.trans hf) |>.symm
      obtain rfl : fn = Tryz.f6 := (Option.some.inj (Tryz.func6.symm.trans hfn)).symm
      refine ⟨by kernel_rfl, fun j t ht => ?_⟩
      rw [Tryz.params6] at ht
      rcases j with _ | j
      · obtain rfl : t = 24 := by simpa using ht.symm
        exact (show Tryz.prog.wantsStandIn 24 = false by kernel_rfl)
      · rcases j with _ | j
        · obtain rfl : t = 24 := by simpa using ht.symm
          exact (show Tryz.prog.wantsStandIn 24 = false by kernel_rfl)
        · simp at ht
      )
    (by kernel_rfl)
#print axioms proved
end Go.Proofs.YtfhdgcndiljjcaaGreatDoor.fnExactAreSameHeight
