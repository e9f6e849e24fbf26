/- RootsModulo answers as its model at all integers and lists, leaves its argument alone, and owns its answer. No conditions. The frame is the one that the kit prints for this law. -/
import Derived.Test.YtkhdbphdeabgnabRows
import Derived.Test.YtkhdbphdeabgnabRoo
import Derived.Test.YtkhdbphdeabgnabSep
import Derived.WalkKit
import Derived.ProofKit
import Derived.OpenShut
import Derived.ShutString
import Derived.ChangeOld
import Derived.Below
namespace Go.Proofs.Ytkhdbphdeabgnab.fnExactRootsModulo
open Go.ChangeShapes Go.WideShapes Go.ChangeAt Go.RowKit
open Go.ChangeMaps (open_string shut_string)
set_option linter.unusedVariables false

theorem own : ownKnob Try.prog.godebug = none := by kernel_rfl
theorem laidOut : laidOutB Try.prog = true := by kernel_rfl

/-- WHAT THE WALK IS TOLD OF A SLICE OF INTEGERS THAT CAME IN: it is nil; or it leads to a row of 'cap' cells, the numbers 'zs' (the first 'len' are its elements, the rest its spare room), each fitting its kind. -/
def IsRow (k : IntKind) (w : World) (a : Option Addr) (len cap : Nat) (zs : List Int) : Prop :=
  (a = none ∧ len = 0 ∧ cap = 0 ∧ zs = []) ∨
  ∃ x, a = some x ∧ len ≤ cap ∧ cap ≤ maxLen ∧ zs.length = cap ∧ (∀ i, i < zs.length → w.cell? (x.add i) = some (.int k (zs.getD i 0))) ∧ ∀ n ∈ zs, (Lit.int k n).wf = true

set_option maxHeartbeats 2000000
theorem walk (a0 : Int) (a1 : Option Addr) (len1 cap1 : Nat) (z1 : List Int) (w : World) (w0 : (Lit.int .i64 a0).wf = true) (w1 : IsRow .i64 w a1 len1 cap1 z1) :
    Calls Try.prog 3 #[.int .i64 a0, .slice a1 len1 cap1] w fun e w' => e = .returned (.bool true) ∧ Below w.heap.size w w' := by
  obtain ⟨l, rfl, hmax, hra⟩ := ra_of_row w1
  clear w1 w0
  unfold maxLen at hmax
  by_cases hle : l.length ≤ 1048576
  · obtain ⟨L, C, hLC⟩ : ∃ L C, rooM a0 l = (L, C) := ⟨_, _, rfl⟩
    have hL : L.length ≤ 10000 := by have := rooM_len a0 l; rw [hLC] at this; exact this
    have HS : Hid (∀ (A : Option Addr) (c : Nat) (W : World), RI W A l → Calls Try.prog 10 #[.int .i64 a0, .slice A l.length c] W fun e w' => ∃ v, e = .returned (.tuple #[v, .int .i64 C]) ∧ OwnI w' W.heap.size v L ∧ Below W.heap.size W w') :=
      Lib.hid (fun A c W h => by have := sRootsModulo_any a0 A c l W hle h; rw [hLC] at this; exact this)
    have HI : Hid (∀ (A : Option Addr) (c : Nat) (W : World), RI W A l → Calls Try.prog 12 #[.int .i64 a0, .slice A l.length c] W fun e w' => ∃ v, e = .returned (.tuple #[v, .int .i64 C]) ∧ OwnI w' W.heap.size v L ∧ Below W.heap.size W w') :=
      Lib.hid (fun A c W h => by have := RootsModulo_any a0 A c l W hle h; rw [hLC] at this; exact this)
    have HRA := Lib.hid hra
    clear hLC hra
    go_enter Try.func3, Try.ntmps3
    go_wp2_with fail
    refine (toInt64S_any _ _ l _ hle HRA.out).mono ?_
    rintro e w1 ⟨v1, rfl, ho1, hb1⟩
    obtain ⟨A1, c1, rfl, hr1⟩ := ho1.form
    have B1 := Lib.hid hb1
    have R1 := Lib.hid hr1
    clear ho1 hb1 hr1
    go_wp2_with fail
    refine (HS.out _ _ _ R1.out).mono ?_
    rintro e w2 ⟨v2, rfl, ho2, hb2⟩
    obtain ⟨A2, c2, rfl, _⟩ := ho2.form
    have B2 := Lib.hid (B1.out.trans (hb2.mono B1.out.size))
    have S2 := Lib.hid B1.out.size
    have O2 := Lib.hid ho2
    clear ho2 hb2
    go_wp2_with fail
    refine (toInt64S_any _ _ l _ hle (HRA.out.below B2.out)).mono ?_
    rintro e w3 ⟨v3, rfl, ho3, hb3⟩
    obtain ⟨A3, c3, rfl, _⟩ := ho3.form
    have B3 := Lib.hid (B2.out.trans (hb3.mono B2.out.size))
    have O3 := Lib.hid ho3
    have O2' := Lib.hid (O2.out.keep hb3)
    have T3 := Lib.hid hb3.size
    clear ho3 hb3
    go_wp2_with fail
    refine (HI.out _ _ _ O3.out.ri).mono ?_
    rintro e w4 ⟨v4, rfl, ho4, hb4⟩
    obtain ⟨A4, c4, rfl, _⟩ := ho4.form
    have B4 := Lib.hid (B3.out.trans (hb4.mono B3.out.size))
    have O4 := Lib.hid ho4
    have P2 := Lib.hid (O2'.out.keep hb4)
    have P3 := Lib.hid (O3.out.keep hb4)
    clear ho4 hb4
    go_wp2_with fail
    refine (eqInt64S_any _ _ _ _ L _ (by omega) O4.out.ri P2.out.ri).mono ?_
    rintro e w5 ⟨rfl, hb5⟩
    have B5 := Lib.hid (B4.out.trans (hb5.mono B4.out.size))
    have Q4 := Lib.hid (O4.out.keep hb5)
    have Q2 := Lib.hid (P2.out.keep hb5)
    have Q3 := Lib.hid (P3.out.keep hb5)
    clear hb5
    go_wp2_with fail
    refine (toInt64S_any _ _ l _ hle (HRA.out.below B5.out)).mono ?_
    rintro e w6 ⟨v6, rfl, ho6, hb6⟩
    obtain ⟨A6, c6, rfl, hr6⟩ := ho6.form
    have B6 := Lib.hid (B5.out.trans (hb6.mono B5.out.size))
    have R6 := Lib.hid hr6
    have S4 := Lib.hid (Q4.out.keep hb6)
    have S2' := Lib.hid (Q2.out.keep hb6)
    have S3 := Lib.hid (Q3.out.keep hb6)
    clear ho6 hb6 hr6
    go_wp2_with fail
    refine (eqInt64S_any _ _ _ _ l _ (by omega) S3.out.ri R6.out).mono ?_
    rintro e w7 ⟨rfl, hb7⟩
    have B7 := Lib.hid (B6.out.trans (hb7.mono B6.out.size))
    have U4 := Lib.hid (S4.out.keep hb7)
    have U2 := Lib.hid (S2'.out.keep hb7)
    have U3 := Lib.hid (S3.out.keep hb7)
    clear hb7
    go_wp2_with fail
    refine (markInt64S_any _ _ l 1 _ (by omega) (by omega) (by omega) U3.out).mono ?_
    rintro e w8 ⟨rfl, ho8, hg8⟩
    have B8 := Lib.hid (below_grown B7.out hg8 U3.out B2.out.size)
    have V4 := Lib.hid (U4.out.other hg8 (apart' O3.out O4.out (Nat.le_refl _)))
    have V2 := Lib.hid (U2.out.other hg8 (apart O2.out O3.out (Nat.le_refl _)))
    clear ho8 hg8
    go_wp2_with fail
    refine (eqInt64S_any _ _ _ _ L _ (by omega) V4.out.ri V2.out.ri).mono ?_
    rintro e w9 ⟨rfl, hb9⟩
    have B9 := Lib.hid (B8.out.trans (hb9.mono B8.out.size))
    have W4 := Lib.hid (V4.out.keep hb9)
    have W2 := Lib.hid (V2.out.keep hb9)
    clear hb9
    go_wp2_with fail
    refine (markInt64S_any _ _ L 1 _ (by omega) (by omega) (by omega) W4.out).mono ?_
    rintro e w10 ⟨rfl, ho10, hg10⟩
    have B10 := Lib.hid (below_grown B9.out hg10 W4.out B3.out.size)
    have X4 := Lib.hid ho10
    have X2 := Lib.hid (W2.out.other hg10 (apart O2'.out O4.out (Nat.le_refl _)))
    clear ho10 hg10
    go_wp2_with fail
    refine (heldInt64S_any _ _ L.length 1 _ (by omega) (by omega) (by omega) X4.out.ri).mono ?_
    rintro e w11 ⟨rfl, rfl⟩
    go_wp2_with fail
    refine (toInt64S_any _ _ l _ hle (HRA.out.below B10.out)).mono ?_
    rintro e w12 ⟨v12, rfl, ho12, hb12⟩
    obtain ⟨A12, c12, rfl, hr12⟩ := ho12.form
    have B12 := Lib.hid (B10.out.trans (hb12.mono B10.out.size))
    have R12 := Lib.hid hr12
    have Y4 := Lib.hid (X4.out.keep hb12)
    have Y2 := Lib.hid (X2.out.keep hb12)
    clear ho12 hb12 hr12
    go_wp2_with fail
    refine (HI.out _ _ _ R12.out).mono ?_
    rintro e w13 ⟨v13, rfl, ho13, hb13⟩
    obtain ⟨A13, c13, rfl, hr13⟩ := ho13.form
    have B13 := Lib.hid (B12.out.trans (hb13.mono B12.out.size))
    have R13 := Lib.hid hr13
    have Z4 := Lib.hid (Y4.out.keep hb13)
    have Z2 := Lib.hid (Y2.out.keep hb13)
    clear ho13 hb13 hr13
    go_wp2_with fail
    refine (eqInt64S_any _ _ _ _ L _ (by omega) R13.out Z2.out.ri).mono ?_
    rintro e w14 ⟨rfl, hb14⟩
    have B14 := Lib.hid (B13.out.trans (hb14.mono B13.out.size))
    have E4 := Lib.hid (Z4.out.keep hb14)
    clear hb14
    go_wp2_with fail
    refine (heldInt64S_any _ _ L.length 1 _ (by omega) (by omega) (by omega) E4.out.ri).mono ?_
    rintro e w15 ⟨rfl, rfl⟩
    go_wp2
    go_ret
    exact ⟨rfl, B14.out⟩
  · go_enter Try.func3, Try.ntmps3
    go_wp2
    go_ret
    exact ⟨rfl, Below.refl _ _⟩

set_option maxRecDepth 100000 in
theorem lifted (os : Os) (started : os.Started) (H : Type) (enc : TypeId × Value → H) :
    ReturnsInHanded {} Try.checked os 3 .any (Rows.fnExactRootsModuloSpec.pre6 enc Try.prog Try.f3 Rows.fnExactRootsModuloRow.domain false) (Rows.fnExactRootsModuloSpec.post enc Try.prog Try.f3 false true false false) := by
  refine returnsInHanded_of_change (C := Try.checked) own started (by kernel_rfl) Try.func3
    (ChangeSpec.witness6 (enc := enc) (C := Try.checked) false ⟨#[], #[.int .i64 0, .slice none 0 0], []⟩ 8 (by kernel_rfl) (by kernel_rfl) (by kernel_rfl) (by kernel_rfl)) ?_
  intro W base args ds gs before hval0 hW hcnd _
  have hval : ∀ (j : Nat) t v, Try.f3.params[j]? = some t → args[j]? = some v → Value.okWide Try.prog W .any base t v := hval0
  have hW' := hW
  obtain ⟨p, q, hA0, hV, rfl, hfz, hnd⟩ := hW
  have hA : DataW.TrodAll enc Try.prog W 0 (fun _ => true) true Try.f3.params.toList args.toList ds p := hA0
  rw [Try.params3] at hA hval
  obtain ⟨v0, vs0, d0, ds0, p0, q0, hargs, rfl, rfl, h0, r0⟩ := trodAll_cons hA
  obtain ⟨v1, vs1, d1, ds1, p1, q1, rfl, rfl, rfl, h1, r1⟩ := trodAll_cons r0
  obtain ⟨rfl, rfl, rfl⟩ := trodAll_nil r1
  obtain rfl : args = #[v0, v1] := by cases args; simp_all
  obtain ⟨rfl, rfl⟩ := trodVars_none hV
  obtain ⟨a0, rfl, rfl, rfl, w0⟩ := open_int Try.underlying2 (hval 0 2 v0 rfl rfl) h0
  obtain ⟨a1, len1, cap1, rfl⟩ := okWide_slice Try.underlying22 (hval 1 22 v1 rfl rfl)
  have k1 := h1
  have lt1 : ∀ x ∈ p1, x.block < W.heap.size := by obtain ⟨m, hm⟩ := k1; exact DataW.trod_lt m _ _ _ hm
  obtain ⟨z1, w1⟩ : ∃ zs, IsRow .i64 W a1 len1 cap1 zs := by
    obtain ⟨fuel, hf⟩ := h1
    rcases open_ints Try.underlying22 Try.underlying2 (by kernel_rfl) hf with ⟨hcs, _⟩ | ⟨x, l, c, zs, hcs, _, hl, hm, hz, _, hcell, hwz⟩
    · simp [Value.cells] at hcs
      obtain ⟨rfl, rfl, rfl⟩ := hcs
      exact ⟨[], .inl ⟨rfl, rfl, rfl, rfl⟩⟩
    · simp [Value.cells] at hcs
      obtain ⟨rfl, rfl, rfl⟩ := hcs
      exact ⟨zs, .inr ⟨_, rfl, hl, hm, by simpa using hz, hcell, hwz⟩⟩
  clear hA0 hval0
  refine (walk a0 a1 len1 cap1 z1 W w0 w1).mono fun e W' ⟨he, bel⟩ => ?_
  subst he
  exact ⟨_, rfl, _, _, _, [], _, [], hW', trodAll_mk1 (shut_bool Try.underlying4 _), (trodAll_cons_mk (shut_int Try.underlying2 w0) (trodAll_cons_mk (Below.trod laidOut (by kernel_rfl) (of_decide_eq_true (by kernel_rfl)) k1 bel lt1) trodAll_mk0)), rfl, bel.frame _, fun h => by cases h⟩

theorem over : Rows.fnExactRootsModuloRow.holds Try.pinned (OpenSpec.ofChange Rows.fnExactRootsModuloSpec) :=
  OpenClaim.holds_of_wide 3 Try.f3 rfl rfl rfl rfl rfl rfl rfl ⟨rfl, rfl, rfl, rfl, rfl⟩ rfl rfl rfl rfl rfl (by kernel_rfl) Try.func3 (by kernel_rfl)
    (of_decide_eq_true (by kernel_rfl)) (by unfold Func.isWrapper; first | (rw [if_pos (by decide +kernel)]; kernel_rfl) | (rw [if_neg (by decide +kernel)]; exact ⟨rfl, rfl⟩))
    (fun os started H enc _ => lifted os started H enc)

theorem proved : Rows.FnExactRootsModuloSaid := over
#print axioms proved
end Go.Proofs.Ytkhdbphdeabgnab.fnExactRootsModulo
