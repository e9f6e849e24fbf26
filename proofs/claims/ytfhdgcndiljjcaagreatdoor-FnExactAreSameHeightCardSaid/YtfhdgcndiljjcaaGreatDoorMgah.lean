/- Texts of contracts, joined. -/
import Derived.Test.YtfhdgcndiljjcaaGreatDoorMgad
import Derived.Test.YtfhdgcndiljjcaaGreatDoorMgag
import Derived.Test.YtfhdgcndiljjcaaGreatDoorMgaf
import Derived.Test.YtfhdgcndiljjcaaGreatDoorMgae
import Derived.Test.YtfhdgcndiljjcaaGreatDoorMgaa
import Derived.Deep.LoopGhost
import Derived.LoopN
import Derived.WalkMore
import Derived.Outline
/- Contract of repeated doubling with an operation that is a function value. -/
namespace Go.Proofs.YtfhdgcndiljjcaaGreatDoor
open Go.RowKit Go.WideShapes Go.ChangeShapes Go.ChangeAt

namespace Ser
/-- the steps of doubling: number left, result, double -/
def repS (op : List Int → List Int → List Int) (k : Nat) (p s : List Int) : List Int :=
  if _h : k = 0 then p else repS op (k / 2) (if k % 2 = 1 then op p s else p) (op s s)
termination_by k
decreasing_by omega
theorem repS_zero (op : List Int → List Int → List Int) (p s : List Int) : repS op 0 p s = p := by rw [repS]; simp
theorem repS_odd (op : List Int → List Int → List Int) {k : Nat} (p s : List Int) (h : k % 2 = 1) : repS op k p s = repS op (k / 2) (op p s) (op s s) := by rw [repS, dif_neg (by omega), if_pos h]
theorem repS_even (op : List Int → List Int → List Int) {k : Nat} (p s : List Int) (h0 : k ≠ 0) (h : ¬ k % 2 = 1) : repS op k p s = repS op (k / 2) p (op s s) := by rw [repS, dif_neg h0, if_neg h]
theorem repS_pow (m : Int) (d : Nat) : ∀ (k : Nat) (p s : List Int), repS (mulL m d) k p s = powS m d k p s := by
  intro k
  induction k using Nat.strongRecOn with
  | ind k ih =>
    intro p s
    by_cases h0 : k = 0
    · subst h0; rw [repS_zero, powS_zero]
    · by_cases h : k % 2 = 1
      · rw [repS_odd _ _ _ h, powS_odd _ _ _ _ h]; exact ih _ (by omega) _ _
      · rw [repS_even _ _ _ h0 h, powS_even _ _ _ _ h0 h]; exact ih _ (by omega) _ _
theorem repS_keep (op : List Int → List Int → List Int) (Q : List Int → Prop) (hop : ∀ p s, Q p → Q s → Q (op p s)) : ∀ (k : Nat) (p s : List Int), Q p → Q s → Q (repS op k p s) := by
  intro k
  induction k using Nat.strongRecOn with
  | ind k ih =>
    intro p s hp hs
    by_cases h0 : k = 0
    · subst h0; rw [repS_zero]; exact hp
    · by_cases h : k % 2 = 1
      · rw [repS_odd _ _ _ h]; exact ih _ (by omega) _ _ (hop _ _ hp hs) (hop _ _ hs hs)
      · rw [repS_even _ _ _ h0 h]; exact ih _ (by omega) _ _ hp (hop _ _ hs hs)
end Ser

/-- the variables of a repeated operation: two boxes, the result's variable, the running result, the double -/
theorem rpt_pro (w : World) (m : Int) (A0 : Option Addr) (n0 c0 : Nat) (A : Option Addr) (n c : Nat) : ∃ W, ((((w.alloc (.cells #[.int .i64 m, .slice A0 n0 c0] 71)).alloc (.cells #[.int .i64 m, .slice A n c] 71)).alloc (.cells #[.int .i64 0, .slice none 0 0] 71)).alloc (.cells #[.int .i64 m, .slice A0 n0 c0] 71)).alloc (.cells #[.int .i64 m, .slice A n c] 71) = W ∧
    Var2 W (w.heap.size + 1 + 1) (.int .i64 0) (.slice none 0 0) ∧ Var2 W (w.heap.size + 1 + 1 + 1) (.int .i64 m) (.slice A0 n0 c0) ∧ Var2 W (w.heap.size + 1 + 1 + 1 + 1) (.int .i64 m) (.slice A n c) ∧ Below w.heap.size w W := by
  refine ⟨_, rfl, ?_, ?_, ?_, below_alloc _ (below_alloc _ (below_alloc _ (below_alloc _ (below_one _ _))))⟩
  · have := ((Var2.new ((w.alloc (.cells #[.int .i64 m, .slice A0 n0 c0] 71)).alloc (.cells #[.int .i64 m, .slice A n c] 71)) (.int .i64 0) (.slice none 0 0)).keep (below_one _ (.cells #[.int .i64 m, .slice A0 n0 c0] 71))).keep (below_one _ (.cells #[.int .i64 m, .slice A n c] 71))
    simpa using this
  · have := (Var2.new (((w.alloc (.cells #[.int .i64 m, .slice A0 n0 c0] 71)).alloc (.cells #[.int .i64 m, .slice A n c] 71)).alloc (.cells #[.int .i64 0, .slice none 0 0] 71)) (.int .i64 m) (.slice A0 n0 c0)).keep (below_one _ (.cells #[.int .i64 m, .slice A n c] 71))
    simpa using this
  · have := Var2.new ((((w.alloc (.cells #[.int .i64 m, .slice A0 n0 c0] 71)).alloc (.cells #[.int .i64 m, .slice A n c] 71)).alloc (.cells #[.int .i64 0, .slice none 0 0] 71)).alloc (.cells #[.int .i64 m, .slice A0 n0 c0] 71)) (.int .i64 m) (.slice A n c)
    simpa using this
set_option maxHeartbeats 8000000 in
set_option maxRecDepth 100000 in
theorem repeated_any (m : Int) (d fn : Nat) (bnd : Array Value) (op : List Int → List Int → List Int) (Q : List Int → Prop) (K : Nat) (A0 : Option Addr) (c0 : Nat) (L0 : List Int) (A : Option Addr) (c : Nat) (l : List Int) (lo : Nat) (w : World) (hK : K ≤ 1000000) (hlo : lo ≤ w.heap.size)
    (hok : ∀ P, Q P → SerOk m d P) (hop : ∀ P S, Q P → Q S → Q (op P S)) (q0 : Q L0) (q1 : Q l) (ho : OwnI w lo (.slice A0 L0.length c0) L0) (hr : RI w A l)
    (hen : ∀ (a b : Value) (W : World), (callFunc fn (bnd ++ #[a, b])).run Tryz.prog W = .ok (.enter fn (bnd ++ #[a, b])) W)
    (hf : ∀ (P S : List Int) (Ap : Option Addr) (cp : Nat) (As : Option Addr) (cs : Nat) (W : World), Q P → Q S → Below w.heap.size w W → RI W Ap P → RI W As S → Calls Tryz.prog fn (bnd ++ #[.agg #[.int .i64 m, .slice Ap P.length cp], .agg #[.int .i64 m, .slice As S.length cs]]) W fun e w' => ∃ v, e = .returned (.agg #[.int .i64 m, v]) ∧ OwnI w' W.heap.size v (op P S) ∧ Below W.heap.size W w') :
    Calls Tryz.prog 73 #[.func (.func fn) bnd #[], .agg #[.int .i64 m, .slice A0 L0.length c0], .agg #[.int .i64 m, .slice A l.length c], .int .i64 K] w fun e w' => ∃ v, e = .returned (.agg #[.int .i64 m, v]) ∧ OwnI w' lo v (Ser.repS op K L0 l) ∧ Below w.heap.size w w' := by
  obtain ⟨W, hW, v8, v9, v10, hwb⟩ := rpt_pro w m A0 L0.length c0 A l.length c
  have HF := Lib.hid hf
  have HOP := Lib.hid hop
  have HOK := Lib.hid hok
  have V8 := Lib.hid v8
  have V9 := Lib.hid v9
  have V10 := Lib.hid v10
  have HB := Lib.hid hwb
  have HW := Lib.hid hW
  have HO := Lib.hid (ho.keep (hwb.mono (Nat.le_refl _)))
  have HR := Lib.hid (hr.below hwb)
  have Q0 := Lib.hid q0
  have Q1 := Lib.hid q1
  obtain ⟨R, hR⟩ : ∃ R, Ser.repS op K L0 l = R := ⟨_, rfl⟩
  have HRR := Lib.hid hR
  rw [hR]
  clear hW v8 v9 v10 hwb hR ho hr q0 q1 hf hop hok
  go_enter Tryz.func73, Tryz.ntmps73
  go_wp2
  rw [HW.out]
  go_loopw [3, 10] (fun s3 s10 wr => ∃ (kk : Nat) (P S : List Int) (g10 : Nat) (Ap : Option Addr) (cp : Nat) (As : Option Addr) (cs : Nat), s3 = .int .i64 kk ∧ s10 = .pointer (some ⟨g10, 0, none⟩) ∧ kk ≤ 1000000 ∧ Ser.repS op kk P S = R ∧ Q P ∧ Q S ∧
    Var2 wr (w.heap.size + 1 + 1 + 1) (.int .i64 m) (.slice Ap P.length cp) ∧ OwnI wr lo (.slice Ap P.length cp) P ∧ Var2 wr g10 (.int .i64 m) (.slice As S.length cs) ∧ RI wr As S ∧ Var2 wr (w.heap.size + 1 + 1) (.int .i64 0) (.slice none 0 0) ∧ Below w.heap.size w wr ∧ w.heap.size + 1 + 1 + 1 < g10) (fun s3 _ _ => (intOf s3).toNat)
  case atStart => exact ⟨K, L0, l, _, A0, c0, A, c, rfl, rfl, hK, HRR.out, Q0.out, Q1.out, V9.out, HO.out, V10.out, HR.out, V8.out, HB.out, by omega⟩
  case round =>
    obtain ⟨kk, P, S, g10, Ap, cp, As, cs, rfl, rfl, hk9, hpw, sp, ss, vp, op', vs, rs, vr, hbl, hg⟩ := hrel
    have HPW := Lib.hid hpw
    have SP := Lib.hid sp
    have SS := Lib.hid ss
    have VP := Lib.hid vp
    have OP := Lib.hid op'
    have VS := Lib.hid vs
    have RS := Lib.hid rs
    have VR := Lib.hid vr
    have HBB := Lib.hid hbl
    clear hpw sp ss vp op' vs rs vr hbl V8 V9 V10 HB HO HR Q0 Q1 HRR HW
    by_cases hz : kk = 0
    · subst hz
      have hr := HPW.out
      rw [Ser.repS_zero] at hr
      subst hr
      have z1 := VP.out.c0
      have z2 := VP.out.c1
      have z3 := VR.out.c0
      have z4 := VR.out.c1
      have z5 := VR.out.fz 0
      have z6 := VR.out.fz 1
      have f2 := (VR.out.set2 (.int .i64 m) (.slice Ap P.length cp))
      have F1 := f2.c0
      have F2 := f2.c1
      have F3 := Lib.hid (OP.out.set2 VR.out (.int .i64 m) (.slice Ap P.length cp))
      have F4 := Lib.hid (below_set2 HBB.out (by omega : w.heap.size ≤ w.heap.size + 1 + 1) (.int .i64 m) (.slice Ap P.length cp))
      unfold set2 at F1 F2 F3 F4
      clear f2
      go_wp2
      exact bodyPost_ret (v := .agg #[.int .i64 m, .slice Ap P.length cp]) (by simp [results, Tryz.results73, go_sem, F1, F2]) rfl ⟨_, rfl, F3.out, F4.out⟩
    · have hz2 : 0 < kk := by omega
      clear hz
      by_cases hodd : kk % 2 = 1
      · have HN := Lib.hid (Ser.repS_odd op P S hodd)
        have i1 : ((kk : Int)).tmod 2 = 1 := by rw [Int.tmod_eq_emod_of_nonneg (by omega)]; omega
        have i2 : ((kk : Int)).tdiv 2 = ((kk / 2 : Nat) : Int) := by rw [Int.tdiv_eq_ediv_of_nonneg (by omega)]; omega
        obtain ⟨y1, y2⟩ := (⟨VP.out.c0, VP.out.c1⟩ : _ ∧ _)
        obtain ⟨y3, y4⟩ := (⟨VS.out.c0, VS.out.c1⟩ : _ ∧ _)
        go_wp2_with fail
        refine (HF.out P S Ap cp As cs _ SP.out SS.out HBB.out OP.out.ri RS.out).mono ?_
        rintro e w3 ⟨s3, rfl, ho3, hb3⟩
        obtain ⟨A3, c3, rfl, -⟩ := ho3.form
        have sp2 := HOP.out P S SP.out SS.out
        obtain ⟨P2, hP2⟩ : ∃ P2, op P S = P2 := ⟨_, rfl⟩
        rw [hP2] at ho3 HN sp2 ⊢
        have SP2 := Lib.hid sp2
        have vp3 := VP.out.keep hb3
        have q5 := vp3.c0
        have q6 := vp3.c1
        have q7 := vp3.fz 0
        have q8 := vp3.fz 1
        clear y1 y2 y3 y4
        obtain ⟨X, hX⟩ : ∃ X, set2 w3 (w.heap.size + 1 + 1 + 1) (.int .i64 m) (.slice A3 P2.length c3) = X := ⟨_, rfl⟩
        have VPx := Lib.hid (show Var2 X (w.heap.size + 1 + 1 + 1) (.int .i64 m) (.slice A3 P2.length c3) by rw [← hX]; exact vp3.set2 _ _)
        have OPx := Lib.hid (show OwnI X lo (.slice A3 P2.length c3) P2 by rw [← hX]; exact (ho3.set2 vp3 _ _).more (Nat.le_trans hlo HBB.out.size))
        have vsx : Var2 X g10 (.int .i64 m) (.slice As S.length cs) := by rw [← hX]; exact (VS.out.keep hb3).set2' (by omega) _ _
        have VSx := Lib.hid vsx
        have RSx := Lib.hid (show RI X As S by rw [← hX]; exact (RS.out.below hb3).set2 vp3 (by have := (HOK.out S SS.out).len; have := (HOK.out S SS.out).d1; omega) _ _)
        have VRx := Lib.hid (show Var2 X (w.heap.size + 1 + 1) (.int .i64 0) (.slice none 0 0) by rw [← hX]; exact (VR.out.keep hb3).set2' (by omega) _ _)
        have HBx := Lib.hid (show Below w.heap.size w X by rw [← hX]; exact below_set2 (below_step HBB.out hb3) (by omega) _ _)
        have y3 := vsx.c0
        have y4 := vsx.c1
        rw [← hX] at y3 y4
        unfold set2 at y3 y4 hX
        have HX := Lib.hid hX
        clear ho3 hb3 hP2 vp3 vsx sp2 VP OP VS RS VR HBB hX
        go_wp2_with fail
        rw [HX.out]
        clear y3 y4 HX
        refine (HF.out S S As cs As cs _ SS.out SS.out HBx.out RSx.out RSx.out).mono ?_
        rintro e w5 ⟨s5, rfl, ho5, hb5⟩
        obtain ⟨A5, c5, rfl, -⟩ := ho5.form
        have ss2 := HOP.out S S SS.out SS.out
        obtain ⟨S2, hS2⟩ : ∃ S2, op S S = S2 := ⟨_, rfl⟩
        rw [hS2] at ho5 HN ss2 ⊢
        have vs5 := VSx.out.keep hb5
        have y5 := vs5.c0
        have y6 := vs5.c1
        have y7 := vs5.fz 0
        have y8 := vs5.fz 1
        have vs6 := vs5.set2 (.int .i64 m) (.slice A5 S2.length c5)
        have y9 := vs6.c0
        have y10 := vs6.c1
        have k1 := ((VPx.out.keep hb5).set2' (g' := g10) (by omega) (.int .i64 m) (.slice A5 S2.length c5)).keep (below_one _ (.cells #[.int .i64 m, .slice A5 S2.length c5] 71))
        have k2 := ((OPx.out.keep hb5).set2 vs5 (.int .i64 m) (.slice A5 S2.length c5)).keep (below_one _ (.cells #[.int .i64 m, .slice A5 S2.length c5] 71))
        have k3 := ((ho5.set2 vs5 (.int .i64 m) (.slice A5 S2.length c5)).keep (below_one _ (.cells #[.int .i64 m, .slice A5 S2.length c5] 71))).ri
        have k4 := ((VRx.out.keep hb5).set2' (g' := g10) (by omega) (.int .i64 m) (.slice A5 S2.length c5)).keep (below_one _ (.cells #[.int .i64 m, .slice A5 S2.length c5] 71))
        have k5 := below_step (below_set2 (below_step HBx.out hb5) (show w.heap.size ≤ g10 by omega) (.int .i64 m) (.slice A5 S2.length c5)) (below_one _ (.cells #[.int .i64 m, .slice A5 S2.length c5] 71))
        have k6 := Var2.new (set2 w5 g10 (.int .i64 m) (.slice A5 S2.length c5)) (.int .i64 m) (.slice A5 S2.length c5)
        rw [show (set2 w5 g10 (.int .i64 m) (.slice A5 S2.length c5)).heap.size = w5.heap.size by simp [set2, World.setCell]] at k6
        have k7 : w.heap.size + 1 + 1 + 1 < w5.heap.size := (VPx.out.keep hb5).lt
        have K1 := Lib.hid k1
        have K2 := Lib.hid k2
        have K3 := Lib.hid k3
        have K4 := Lib.hid k4
        have K5 := Lib.hid k5
        have K6 := Lib.hid k6
        have SS2 := Lib.hid ss2
        unfold set2 at y9 y10
        clear k1 k2 k3 k4 k5 k6 ss2 vs5 vs6 ho5 hb5 hS2
        go_wp2
        go_roundw
        case rel => exact ⟨kk / 2, P2, S2, _, A3, c3, A5, c5, by first | rfl | (rw [i2]) | (simp [i2]) | go_num, rfl, by omega, by rw [← HN.out]; exact HPW.out, SP2.out, SS2.out, K1.out, K2.out, K6.out, K3.out, K4.out, K5.out, k7⟩
        case measure => simp only [intOf]; omega
      · have HN := Lib.hid (Ser.repS_even op P S (by omega) hodd)
        have i1 : ¬ ((kk : Int)).tmod 2 = 1 := by rw [Int.tmod_eq_emod_of_nonneg (by omega)]; omega
        have i2 : ((kk : Int)).tdiv 2 = ((kk / 2 : Nat) : Int) := by rw [Int.tdiv_eq_ediv_of_nonneg (by omega)]; omega
        have i3 : ¬ ((kk : Int)) % 2 = 1 := by omega
        obtain ⟨n1, n2⟩ : (((kk : Int)) % 2 == 1) = false ∧ (((kk : Int)) % 2 != 1) = true := ⟨by simpa using i3, by simpa using i3⟩
        obtain ⟨y3, y4⟩ := (⟨VS.out.c0, VS.out.c1⟩ : _ ∧ _)
        have VPx := VP
        have OPx := OP
        have VSx := VS
        have RSx := RS
        have VRx := VR
        have HBx := HBB
        clear VP OP VS RS VR HBB hodd
        go_wp2_with fail
        clear y3 y4
        refine (HF.out S S As cs As cs _ SS.out SS.out HBx.out RSx.out RSx.out).mono ?_
        rintro e w5 ⟨s5, rfl, ho5, hb5⟩
        obtain ⟨A5, c5, rfl, -⟩ := ho5.form
        have ss2 := HOP.out S S SS.out SS.out
        obtain ⟨S2, hS2⟩ : ∃ S2, op S S = S2 := ⟨_, rfl⟩
        rw [hS2] at ho5 HN ss2 ⊢
        have vs5 := VSx.out.keep hb5
        have y5 := vs5.c0
        have y6 := vs5.c1
        have y7 := vs5.fz 0
        have y8 := vs5.fz 1
        have vs6 := vs5.set2 (.int .i64 m) (.slice A5 S2.length c5)
        have y9 := vs6.c0
        have y10 := vs6.c1
        have k1 := ((VPx.out.keep hb5).set2' (g' := g10) (by omega) (.int .i64 m) (.slice A5 S2.length c5)).keep (below_one _ (.cells #[.int .i64 m, .slice A5 S2.length c5] 71))
        have k2 := ((OPx.out.keep hb5).set2 vs5 (.int .i64 m) (.slice A5 S2.length c5)).keep (below_one _ (.cells #[.int .i64 m, .slice A5 S2.length c5] 71))
        have k3 := ((ho5.set2 vs5 (.int .i64 m) (.slice A5 S2.length c5)).keep (below_one _ (.cells #[.int .i64 m, .slice A5 S2.length c5] 71))).ri
        have k4 := ((VRx.out.keep hb5).set2' (g' := g10) (by omega) (.int .i64 m) (.slice A5 S2.length c5)).keep (below_one _ (.cells #[.int .i64 m, .slice A5 S2.length c5] 71))
        have k5 := below_step (below_set2 (below_step HBx.out hb5) (show w.heap.size ≤ g10 by omega) (.int .i64 m) (.slice A5 S2.length c5)) (below_one _ (.cells #[.int .i64 m, .slice A5 S2.length c5] 71))
        have k6 := Var2.new (set2 w5 g10 (.int .i64 m) (.slice A5 S2.length c5)) (.int .i64 m) (.slice A5 S2.length c5)
        rw [show (set2 w5 g10 (.int .i64 m) (.slice A5 S2.length c5)).heap.size = w5.heap.size by simp [set2, World.setCell]] at k6
        have k7 : w.heap.size + 1 + 1 + 1 < w5.heap.size := (VPx.out.keep hb5).lt
        have K1 := Lib.hid k1
        have K2 := Lib.hid k2
        have K3 := Lib.hid k3
        have K4 := Lib.hid k4
        have K5 := Lib.hid k5
        have K6 := Lib.hid k6
        have SS2 := Lib.hid ss2
        unfold set2 at y9 y10
        clear k1 k2 k3 k4 k5 k6 ss2 vs5 vs6 ho5 hb5 hS2
        go_wp2
        go_roundw
        case rel => exact ⟨kk / 2, P, S2, _, Ap, cp, A5, c5, by first | rfl | (rw [i2]) | (simp [i2]) | go_num, rfl, by omega, by rw [← HN.out]; exact HPW.out, SP.out, SS2.out, K1.out, K2.out, K6.out, K3.out, K4.out, K5.out, k7⟩
        case measure => simp only [intOf]; omega
end Go.Proofs.YtfhdgcndiljjcaaGreatDoor

/- Contracts of the multiple of a curve under a law, of the program and of the model. -/
namespace Go.Proofs.YtfhdgcndiljjcaaGreatDoor
open Go.RowKit Go.WideShapes Go.ChangeShapes Go.ChangeAt

/-- the multiple of a curve by a number, and by an integer -/
def mulK (m : Int) (d : Nat) (t : List (List Int)) (K : Nat) (l : List Int) : List Int := Ser.repS (Pl.putL m d (Pl.pc t)) K (Pl.lin m d 0) l
def mulC (m : Int) (d : Nat) (t : List (List Int)) (n : Int) (l : List Int) : List Int := if n < 0 then oppC m d t (mulK m d t (-n).toNat l) else mulK m d t n.toNat l
/-- a curve -/
def Cv (m : Int) (d : Nat) (l : List Int) : Prop := SerOk m d l ∧ Ser.co l 0 = 0
theorem put_cv {m : Int} {d : Nat} {t : List (List Int)} (hs : Pl.Ok m d t) (hN : Pl.Norm d (Pl.pc t)) : ∀ P S, Cv m d P → Cv m d S → Cv m d (Pl.putL m d (Pl.pc t) P S) := by
  intro P S hP hS
  refine ⟨⟨hs.m1, hs.m2, hs.d1, hs.d2, Pl.putL_length _ _ _ _ _, Ser.cut_red (by have := hs.m1; omega) _ _⟩, ?_⟩
  rw [Pl.put_cut (Nat.zero_le _), Pl.put_zero hN hP.2 hS.2, Int.zero_emod]
theorem lin_cv {m : Int} {d : Nat} {t : List (List Int)} (hs : Pl.Ok m d t) (u : Int) : Cv m d (Pl.lin m d u) := ⟨Pl.lin_ok hs.m1 hs.m2 hs.d1 hs.d2 u, Pl.lin_zero _ _ _⟩
theorem mulK_cv {m : Int} {d : Nat} {t : List (List Int)} (hs : Pl.Ok m d t) (hN : Pl.Norm d (Pl.pc t)) (K : Nat) {l : List Int} (hl : Cv m d l) : Cv m d (mulK m d t K l) :=
  Ser.repS_keep _ (Cv m d) (put_cv hs hN) K _ _ (lin_cv hs 0) hl
theorem mulC_cv {m : Int} {d : Nat} {t : List (List Int)} (hs : Pl.Ok m d t) (hN : Pl.Norm d (Pl.pc t)) (n : Int) {l : List Int} (hl : Cv m d l) : Cv m d (mulC m d t n l) := by
  unfold mulC
  by_cases h : n < 0
  · rw [if_pos h]
    have k := mulK_cv hs hN (-n).toNat hl
    exact ⟨oppC_ok k.1, oppC_zero k.1 k.2⟩
  · rw [if_neg h]; exact mulK_cv hs hN _ hl
theorem lin_zeros (m : Int) (d : Nat) : List.replicate (d + 1) (0 : Int) = Pl.lin m d 0 := by
  refine Ser.list_ext (by rw [List.length_replicate]; exact (Ser.cut_length _ _ _).symm) (fun i hi => ?_)
  rw [List.length_replicate] at hi
  unfold Pl.lin
  rw [Ser.co_zeros, Ser.co_cut (by omega)]
  unfold Ser.mon
  split <;> simp
set_option maxHeartbeats 8000000 in
set_option maxRecDepth 100000 in
theorem multipleK_any (m : Int) (d : Nat) (A : Option Addr) (c : Nat) (t : List (List Int)) (K : Nat) (A1 : Option Addr) (c1 : Nat) (l1 : List Int) (w : World) (hs : Pl.Ok m d t) (hf : Pl.fau m d (Pl.pc t) = none) (hl : Cv m d l1) (hK : K ≤ 1000000) (hr : RP w A t) (hr1 : RI w A1 l1) :
    Calls Tryz.prog 58 #[.agg #[.int .i64 m, .int .i64 d, .slice A t.length c], .int .i64 K, .agg #[.int .i64 m, .slice A1 l1.length c1]] w fun e w' => ∃ v, e = .returned (.agg #[.int .i64 m, v]) ∧ OwnI w' w.heap.size v (mulK m d t K l1) ∧ Below w.heap.size w w' := by
  obtain ⟨W, hW, b1, b2, v3, hwb⟩ := pro_lawSV w m d A t.length c m A1 l1.length c1
  have V3 := Lib.hid v3
  have HB := Lib.hid hwb
  have HW := Lib.hid hW
  have hN := Pl.norm_law hf hs
  have HL := Lib.hid (fun W0 => line_any m d A t.length c 0 W0 hs.m1 hs.m2 hs.d2 (by omega) (by omega))
  have HR := Lib.hid (fun W0 (h : Below W.heap.size W W0) A0 c0 lo (hlo : lo ≤ W0.heap.size) (ho : OwnI W0 lo (.slice A0 (Pl.lin m d 0).length c0) (Pl.lin m d 0)) =>
    repeated_any m d 74 #[.agg #[.int .i64 m, .int .i64 d, .slice A t.length c]] (Pl.putL m d (Pl.pc t)) (Cv m d) K A0 c0 (Pl.lin m d 0) A1 c1 l1 lo W0 hK hlo (fun P hP => hP.1) (put_cv hs hN) (lin_cv hs 0) hl ho ((hr1.below hwb).below h)
      (fun a b W1 => enters_fn Tryz.func74 (of_decide_eq_true (by kernel_rfl)) rfl _ W1)
      (fun P S Ap cp As cs W1 hP hS hb1 rp rs => sum_any m d A c t Ap cp P As cs S W1 hs hP.1 hS.1 hP.2 hS.2 ((hr.below hwb).below (below_step h hb1)) rp rs))
  obtain ⟨R, hR⟩ : ∃ R, mulK m d t K l1 = R := ⟨_, rfl⟩
  rw [show Ser.repS (Pl.putL m d (Pl.pc t)) K (Pl.lin m d 0) l1 = R from hR] at HR
  rw [hR]
  obtain ⟨Z, hZ⟩ : ∃ Z, Pl.lin m d 0 = Z := ⟨_, rfl⟩
  rw [hZ] at HL HR
  obtain ⟨n1, hn⟩ : ∃ n, l1.length = n := ⟨_, rfl⟩
  rw [hn] at HR HW b2 ⊢
  obtain ⟨L, hL⟩ : ∃ L, t.length = L := ⟨_, rfl⟩
  rw [hL] at HL HR HW b1 ⊢
  have hsz : w.heap.size + 1 + 1 < W.heap.size := v3.lt
  obtain ⟨x1, x2, x3, -⟩ := b1
  obtain ⟨y1, y2, -⟩ := b2
  have HF := Lib.hid (fun w' (h : Below (w.heap.size + 1 + 1) W w') => (⟨⟨(h.cell (p := ⟨w.heap.size, 0, none⟩) (by simp; omega)).trans x1, (h.cell (p := ⟨w.heap.size, 1, none⟩) (by simp; omega)).trans x2, (h.cell (p := ⟨w.heap.size, 2, none⟩) (by simp; omega)).trans x3⟩,
      (h.cell (p := ⟨w.heap.size + 1, 0, none⟩) (by simp)).trans y1, (h.cell (p := ⟨w.heap.size + 1, 1, none⟩) (by simp)).trans y2⟩ :
    (w'.cell? ⟨w.heap.size, 0, none⟩ = some (.int .i64 m) ∧ w'.cell? ⟨w.heap.size, 1, none⟩ = some (.int .i64 d) ∧ w'.cell? ⟨w.heap.size, 2, none⟩ = some (.slice A L c)) ∧ w'.cell? ⟨w.heap.size + 1, 0, none⟩ = some (.int .i64 m) ∧ w'.cell? ⟨w.heap.size + 1, 1, none⟩ = some (.slice A1 n1 c1)))
  have X0 := Lib.hid (keepW HF.out (below_less (by omega) (below_drew0 W)))
  have hk0 : ¬ (K : Int) < 0 := by omega
  clear v3 hwb hW hr hr1 hs hf hl hR hL hn hZ hN x1 x2 x3 y1 y2
  go_enter Tryz.func58, Tryz.ntmps58
  go_wp2
  rw [HW.out]
  go_region_held3 (fun w' => ((w'.cell? ⟨w.heap.size, 0, none⟩ = some (.int .i64 m) ∧ w'.cell? ⟨w.heap.size, 1, none⟩ = some (.int .i64 d) ∧ w'.cell? ⟨w.heap.size, 2, none⟩ = some (.slice A L c)) ∧ w'.cell? ⟨w.heap.size + 1, 0, none⟩ = some (.int .i64 m) ∧ w'.cell? ⟨w.heap.size + 1, 1, none⟩ = some (.slice A1 n1 c1)) ∧ Below (w.heap.size + 1 + 1) W w') (first | exact X0.out | (assumption; done) | exact keep2 HF.out (by omega) _ _ (by assumption) | exact keepS HF.out (by omega) (by assumption) hbb | exact keepS HF.out (by omega) (by assumption) hba) (first
    | (go_at_call 59; with_reducible refine Calls.mono (HL.out _) ?_; rintro e wa ⟨va, rfl, hoa, hba⟩; obtain ⟨A2, c2, rfl, -⟩ := hoa.form)
    | (go_at_call 73; with_reducible refine Calls.mono (HR.out _ (below_step (below_drew0 _) hba) _ _ _ (below_step (below_drew0 _) hba).size (hoa.more (show W.heap.size ≤ W.drew.heap.size from Nat.le_refl _))) ?_; rintro e wb ⟨vb, rfl, hob, hbb⟩; obtain ⟨A3, c3, rfl, -⟩ := hob.form; have hv := V3.out.keep (below_step (below_step (below_drew0 W) hba) hbb); obtain ⟨q0, q1, q2, q3⟩ := hv.tells2))
  all_goals
    have hw3 := below_step (below_step (below_drew0 W) hba) hbb
    obtain ⟨f0, f1, f2, f3⟩ := fin_serC (w := w) hv hob (by omega) (by omega) (below_step HB.out hw3) (.int .i64 m) (.slice A3 R.length c3)
    have F2 := Lib.hid (OwnI.more (b' := w.heap.size) f2 (by omega))
    have F3 := Lib.hid f3
    clear f2 f3 hob hoa hba hbb hv hw3
    go_wp2
    exact bodyPost_ret (v := .agg #[.int .i64 m, .slice A3 R.length c3]) (by simp [results, Tryz.results58, go_sem, f0, f1]) rfl ⟨_, rfl, F2.out, F3.out⟩
set_option maxHeartbeats 8000000 in
set_option maxRecDepth 100000 in
theorem multiple_any (m : Int) (d : Nat) (A : Option Addr) (c : Nat) (t : List (List Int)) (n : Int) (A1 : Option Addr) (c1 : Nat) (l1 : List Int) (w : World) (hs : Pl.Ok m d t) (hf : Pl.fau m d (Pl.pc t) = none) (hl : Cv m d l1) (hn1 : -1000000 ≤ n) (hn2 : n ≤ 1000000) (hr : RP w A t) (hr1 : RI w A1 l1) :
    Calls Tryz.prog 58 #[.agg #[.int .i64 m, .int .i64 d, .slice A t.length c], .int .i64 n, .agg #[.int .i64 m, .slice A1 l1.length c1]] w fun e w' => ∃ v, e = .returned (.agg #[.int .i64 m, v]) ∧ OwnI w' w.heap.size v (mulC m d t n l1) ∧ Below w.heap.size w w' := by
  by_cases hn0 : n < 0
  · obtain ⟨K, hK⟩ : ∃ K : Nat, K = (-n).toNat := ⟨_, rfl⟩
    have hKn : -n = (K : Int) := by omega
    rw [show mulC m d t n l1 = oppC m d t (mulK m d t K l1) by unfold mulC; rw [if_pos hn0, hK]]
    obtain ⟨W, hW, b1, b2, v3, hwb⟩ := pro_lawSV w m d A t.length c m A1 l1.length c1
    have V3 := Lib.hid v3
    have HB := Lib.hid hwb
    have HW := Lib.hid hW
    have hN := Pl.norm_law hf hs
    have HM := Lib.hid (fun W0 (h : Below W.heap.size W W0) => multipleK_any m d A c t K A1 c1 l1 W0 hs hf hl (by omega) ((hr.below hwb).below h) ((hr1.below hwb).below h))
    have HO := Lib.hid (fun W0 (h : Below W.heap.size W W0) A2 c2 (h2 : RI W0 A2 (mulK m d t K l1)) => opposite_any m d A c t A2 c2 (mulK m d t K l1) W0 hs hf (mulK_cv hs hN K hl).1 ((hr.below hwb).below h) h2)
    obtain ⟨V, hV⟩ : ∃ V, mulK m d t K l1 = V := ⟨_, rfl⟩
    rw [hV] at HM HO ⊢
    obtain ⟨R, hR⟩ : ∃ R, oppC m d t V = R := ⟨_, rfl⟩
    rw [hR] at HO ⊢
    obtain ⟨n1, hn⟩ : ∃ n, l1.length = n := ⟨_, rfl⟩
    rw [hn] at HM HW b2 ⊢
    obtain ⟨L, hL⟩ : ∃ L, t.length = L := ⟨_, rfl⟩
    rw [hL] at HM HO HW b1 ⊢
    have hsz : w.heap.size + 1 + 1 < W.heap.size := v3.lt
    obtain ⟨x1, x2, x3, -⟩ := b1
    obtain ⟨y1, y2, -⟩ := b2
    have HF := Lib.hid (fun w' (h : Below (w.heap.size + 1 + 1) W w') => (⟨⟨(h.cell (p := ⟨w.heap.size, 0, none⟩) (by simp; omega)).trans x1, (h.cell (p := ⟨w.heap.size, 1, none⟩) (by simp; omega)).trans x2, (h.cell (p := ⟨w.heap.size, 2, none⟩) (by simp; omega)).trans x3⟩,
        (h.cell (p := ⟨w.heap.size + 1, 0, none⟩) (by simp)).trans y1, (h.cell (p := ⟨w.heap.size + 1, 1, none⟩) (by simp)).trans y2⟩ :
      (w'.cell? ⟨w.heap.size, 0, none⟩ = some (.int .i64 m) ∧ w'.cell? ⟨w.heap.size, 1, none⟩ = some (.int .i64 d) ∧ w'.cell? ⟨w.heap.size, 2, none⟩ = some (.slice A L c)) ∧ w'.cell? ⟨w.heap.size + 1, 0, none⟩ = some (.int .i64 m) ∧ w'.cell? ⟨w.heap.size + 1, 1, none⟩ = some (.slice A1 n1 c1)))
    have X0 := Lib.hid (keepW HF.out (below_less (by omega) (below_drew0 W)))
    have w9 : IntKind.i64.wrap (-n) = (K : Int) := by rw [hKn, IntKind.wrap_i64]; omega
    clear v3 hwb hW hr hr1 hs hf hl hR hL hn hV hN x1 x2 x3 y1 y2 hKn hK
    go_enter Tryz.func58, Tryz.ntmps58
    go_wp2
    rw [HW.out]
    go_region_held3 (fun w' => ((w'.cell? ⟨w.heap.size, 0, none⟩ = some (.int .i64 m) ∧ w'.cell? ⟨w.heap.size, 1, none⟩ = some (.int .i64 d) ∧ w'.cell? ⟨w.heap.size, 2, none⟩ = some (.slice A L c)) ∧ w'.cell? ⟨w.heap.size + 1, 0, none⟩ = some (.int .i64 m) ∧ w'.cell? ⟨w.heap.size + 1, 1, none⟩ = some (.slice A1 n1 c1)) ∧ Below (w.heap.size + 1 + 1) W w') (first | exact X0.out | exact keep2 HF.out (by omega) _ _ (by assumption) | exact keepS HF.out (by omega) (by assumption) hbb | exact keepS HF.out (by omega) (by assumption) hba) (first
      | (go_at_call 58; with_reducible refine Calls.mono (HM.out _ (below_drew0 _)) ?_; rintro e wa ⟨va, rfl, hoa, hba⟩; obtain ⟨A2, c2, rfl, -⟩ := hoa.form)
      | (go_at_call 72; with_reducible refine Calls.mono (HO.out _ (below_step (below_drew0 _) hba) _ _ hoa.ri) ?_; rintro e wb ⟨vb, rfl, hob, hbb⟩; obtain ⟨A3, c3, rfl, -⟩ := hob.form; have hv := V3.out.keep (below_step (below_step (below_drew0 W) hba) hbb); obtain ⟨q0, q1, q2, q3⟩ := hv.tells2))
    all_goals
      have hw3 := below_step (below_step (below_drew0 W) hba) hbb
      have hzz := (below_step (below_drew0 W) hba).size
      obtain ⟨f0, f1, f2, f3⟩ := fin_serC (w := w) hv hob (by omega) (by omega) (below_step HB.out hw3) (.int .i64 m) (.slice A3 R.length c3)
      have F2 := Lib.hid (OwnI.more (b' := w.heap.size) f2 (by omega))
      have F3 := Lib.hid f3
      clear f2 f3 hob hoa hba hbb hv hw3
      go_wp2
      exact bodyPost_ret (v := .agg #[.int .i64 m, .slice A3 R.length c3]) (by simp [results, Tryz.results58, go_sem, f0, f1]) rfl ⟨_, rfl, F2.out, F3.out⟩
  · have := multipleK_any m d A c t n.toNat A1 c1 l1 w hs hf hl (by omega) hr hr1
    rw [show ((n.toNat : Nat) : Int) = n by omega] at this
    rw [show mulC m d t n l1 = mulK m d t n.toNat l1 by unfold mulC; rw [if_neg hn0]]
    exact this
set_option maxHeartbeats 8000000 in
set_option maxRecDepth 100000 in
theorem l04MultipleK_any (m : Int) (d : Nat) (A : Option Addr) (c : Nat) (t : List (List Int)) (K : Nat) (A1 : Option Addr) (c1 : Nat) (l1 : List Int) (w : World) (hs : Pl.Ok m d t) (hf : Pl.fau m d (Pl.pc t) = none) (hl : Cv m d l1) (hK : K ≤ 1000000) (hr : RP w A t) (hr1 : RI w A1 l1) :
    Calls Tryz.prog 56 #[.agg #[.int .i64 m, .slice A t.length c], .int .i64 K, .slice A1 l1.length c1] w fun e w' => ∃ v, e = .returned v ∧ OwnI w' w.heap.size v (mulK m d t K l1) ∧ Below w.heap.size w w' := by
  obtain ⟨W, hW, b1, hwb⟩ := start1 28 w m A t.length c
  have B1 := Lib.hid b1
  have HB := Lib.hid hwb
  have HW := Lib.hid hW
  have hd2 := hs.d2
  have hN := Pl.norm_law hf hs
  have hmk : ∀ W : World, (Instr.makeSlice 32 (.int .i64 ((d : Int) + 1)) (.int .i64 ((d : Int) + 1))).run Tryz.prog W = .ok (.slice (some ⟨W.heap.size, 0, none⟩) (d + 1) (d + 1)) (W.alloc (.cells (madeCells #[.int .i64 0] (d + 1)) 2)) := by
    intro W
    have := run_make_row' (P := Tryz.prog) 32 2 (.int .i64 0) 8 Tryz.underlying32 info64 rfl .i64 .i64 (d + 1) (by omega) (by omega) W
    rwa [show ((d + 1 : Nat) : Int) = (d : Int) + 1 by omega] at this
  have hmk2 : ∀ W : World, (Instr.makeSlice 32 (.int .i64 ((d + 1 : Nat) : Int)) (.int .i64 ((d + 1 : Nat) : Int))).run Tryz.prog W = .ok (.slice (some ⟨W.heap.size, 0, none⟩) (d + 1) (d + 1)) (W.alloc (.cells (madeCells #[.int .i64 0] (d + 1)) 2)) := by
    intro W
    exact run_make_row' (P := Tryz.prog) 32 2 (.int .i64 0) 8 Tryz.underlying32 info64 rfl .i64 .i64 (d + 1) (by omega) (by omega) W
  have ho := OwnI.made W (d + 1) (by unfold maxLen; omega)
  rw [lin_zeros m d] at ho
  have hWs : w.heap.size + 1 = W.heap.size := by rw [← HW.out]; simp
  have ho2 : OwnI (W.alloc (.cells (madeCells #[.int .i64 0] (d + 1)) 2)) W.heap.size (.slice (some ⟨w.heap.size + 1, 0, none⟩) (d + 1) (d + 1)) (Pl.lin m d 0) := by rw [hWs]; exact ho
  have HO0 := Lib.hid ho2
  have HPU := Lib.hid (fun W0 (h : Below W.heap.size W W0) (P S : List Int) (Ap : Option Addr) (cp : Nat) (As : Option Addr) (cs : Nat) (hP : Cv m d P) (hS : Cv m d S) (rp : RI W0 Ap P) (rs : RI W0 As S) => l03Put_any m d A c t Ap cp P As cs S W0 hs hP.1 hS.1 ((hr.below hwb).below h) rp rs)
  have HCV := Lib.hid (put_cv hs hN)
  have HLI := Lib.hid (lin_cv hs 0)
  have HL1 := Lib.hid hl
  have HR1 := Lib.hid (hr1.below hwb)
  obtain ⟨op, hop⟩ : ∃ op, Pl.putL m d (Pl.pc t) = op := ⟨_, rfl⟩
  obtain ⟨R, hR⟩ : ∃ R, mulK m d t K l1 = R := ⟨_, rfl⟩
  have HRR := Lib.hid (show Ser.repS op K (Pl.lin m d 0) l1 = R by rw [← hop]; exact hR)
  rw [hop] at HPU HCV
  rw [hR]
  have hn1 := hl.1.len
  obtain ⟨n1, hn⟩ : ∃ n, l1.length = n := ⟨_, rfl⟩
  have HN1 := Lib.hid hn
  obtain rfl : n1 = d + 1 := by omega
  rw [hn]
  obtain ⟨L, hL⟩ : ∃ L, t.length = L := ⟨_, rfl⟩
  rw [hL] at HPU HW B1 ⊢
  have hk0 : ¬ (K : Int) < 0 := by omega
  clear b1 hwb hW hr hr1 hs hf hl hR hL hn hN ho ho2 hWs hop hn1
  go_enter Tryz.func56, Tryz.ntmps56
  go_wp2
  rw [HW.out]
  go_loopw [1, 2, 7] (fun s1 s2 s7 wr => ∃ (kk : Nat) (P S : List Int) (As : Option Addr) (cs : Nat), s1 = .int .i64 kk ∧ s2 = .slice As S.length cs ∧ kk ≤ 1000000 ∧ Ser.repS op kk P S = R ∧ Cv m d P ∧ Cv m d S ∧ OwnI wr W.heap.size s7 P ∧ RI wr As S ∧ Below W.heap.size W wr) (fun s1 _ _ _ => (intOf s1).toNat)
  case atStart => exact ⟨K, _, l1, A1, c1, rfl, by rw [HN1.out], hK, HRR.out, HLI.out, HL1.out, HO0.out, HR1.out.below (below_one _ _), below_one _ _⟩
  case round =>
    obtain ⟨kk, P, S, As, cs, rfl, rfl, hk9, hpw, sp, ss, op1, rs, hbl⟩ := hrel
    have HPW := Lib.hid hpw
    have SP := Lib.hid sp
    have SS := Lib.hid ss
    have OP := Lib.hid op1
    have RS := Lib.hid rs
    have HBL := Lib.hid hbl
    obtain ⟨x1, x2, -⟩ := B1.out.keep hbl
    obtain ⟨Ap, cp, rfl, -⟩ := op1.form
    clear hpw sp ss op1 rs hbl hmk hmk2
    by_cases hz : kk = 0
    · subst hz
      have hr := HPW.out
      rw [Ser.repS_zero] at hr
      subst hr
      have F2 := Lib.hid (OP.out.more (b' := w.heap.size) HB.out.size)
      have F3 := Lib.hid (below_step HB.out HBL.out)
      go_wp2
      go_ret
      exact ⟨_, rfl, F2.out, F3.out⟩
    · have hz2 : 0 < kk := by omega
      clear hz
      by_cases hodd : kk % 2 = 1
      · have HN := Lib.hid (Ser.repS_odd op P S hodd)
        have i1 : ((kk : Int)).tmod 2 = 1 := by rw [Int.tmod_eq_emod_of_nonneg (by omega)]; omega
        go_wp2_with fail
        refine (HPU.out _ HBL.out P S Ap cp As cs SP.out SS.out OP.out.ri RS.out).mono ?_
        rintro e w3 ⟨s3, rfl, ho3, hb3⟩
        obtain ⟨A3, c3, rfl, -⟩ := ho3.form
        clear x1 x2
        obtain ⟨x1, x2, -⟩ := B1.out.keep (below_step HBL.out hb3)
        go_wp2_with fail
        refine (HPU.out _ (below_step HBL.out hb3) S S As cs As cs SS.out SS.out (RS.out.below hb3) (RS.out.below hb3)).mono ?_
        rintro e w4 ⟨s4, rfl, ho4, hb4⟩
        obtain ⟨A4, c4, rfl, r4⟩ := ho4.form
        have H3 := Lib.hid ((ho3.keep hb4).more HBL.out.size)
        have H4 := Lib.hid r4
        have H5 := Lib.hid (below_step (below_step HBL.out hb3) hb4)
        clear ho3 hb3 ho4 hb4 r4 x1 x2
        go_wp2
        go_roundw
        case rel => exact ⟨kk / 2, _, _, A4, c4, by first | rfl | go_num, rfl, by omega, by rw [← HN.out]; exact HPW.out, HCV.out _ _ SP.out SS.out, HCV.out _ _ SS.out SS.out, H3.out, H4.out, H5.out⟩
        case measure => simp only [intOf]; omega
      · have HN := Lib.hid (Ser.repS_even op P S (by omega) hodd)
        have i3 : ¬ ((kk : Int)) % 2 = 1 := by omega
        obtain ⟨n1, n2⟩ : (((kk : Int)) % 2 == 1) = false ∧ (((kk : Int)) % 2 != 1) = true := ⟨by simpa using i3, by simpa using i3⟩
        clear hodd
        go_wp2_with fail
        refine (HPU.out _ HBL.out S S As cs As cs SS.out SS.out RS.out RS.out).mono ?_
        rintro e w4 ⟨s4, rfl, ho4, hb4⟩
        obtain ⟨A4, c4, rfl, r4⟩ := ho4.form
        have H3 := Lib.hid (OP.out.keep hb4)
        have H4 := Lib.hid r4
        have H5 := Lib.hid (below_step HBL.out hb4)
        clear ho4 hb4 r4 x1 x2
        go_wp2
        go_roundw
        case rel => exact ⟨kk / 2, _, _, A4, c4, by first | rfl | go_num, rfl, by omega, by rw [← HN.out]; exact HPW.out, SP.out, HCV.out _ _ SS.out SS.out, H3.out, H4.out, H5.out⟩
        case measure => simp only [intOf]; omega
set_option maxHeartbeats 8000000 in
set_option maxRecDepth 100000 in
theorem l04Multiple_any (m : Int) (d : Nat) (A : Option Addr) (c : Nat) (t : List (List Int)) (n : Int) (A1 : Option Addr) (c1 : Nat) (l1 : List Int) (w : World) (hs : Pl.Ok m d t) (hf : Pl.fau m d (Pl.pc t) = none) (hl : Cv m d l1) (hn1 : -1000000 ≤ n) (hn2 : n ≤ 1000000) (hr : RP w A t) (hr1 : RI w A1 l1) :
    Calls Tryz.prog 56 #[.agg #[.int .i64 m, .slice A t.length c], .int .i64 n, .slice A1 l1.length c1] w fun e w' => ∃ v, e = .returned v ∧ OwnI w' w.heap.size v (mulC m d t n l1) ∧ Below w.heap.size w w' := by
  by_cases hn0 : n < 0
  · obtain ⟨K, hK⟩ : ∃ K : Nat, K = (-n).toNat := ⟨_, rfl⟩
    have hKn : -n = (K : Int) := by omega
    rw [show mulC m d t n l1 = oppC m d t (mulK m d t K l1) by unfold mulC; rw [if_pos hn0, hK]]
    obtain ⟨W, hW, b1, hwb⟩ := start1 28 w m A t.length c
    have HB := Lib.hid hwb
    have HW := Lib.hid hW
    have hN := Pl.norm_law hf hs
    have HM := Lib.hid (fun W0 (h : Below W.heap.size W W0) => l04MultipleK_any m d A c t K A1 c1 l1 W0 hs hf hl (by omega) ((hr.below hwb).below h) ((hr1.below hwb).below h))
    have HO := Lib.hid (fun W0 (h : Below W.heap.size W W0) A2 c2 (h2 : RI W0 A2 (mulK m d t K l1)) => l04Opposite_any m d A c t A2 c2 (mulK m d t K l1) W0 hs (mulK_cv hs hN K hl).1 (mulK_cv hs hN K hl).2 ((hr.below hwb).below h) h2)
    obtain ⟨V, hV⟩ : ∃ V, mulK m d t K l1 = V := ⟨_, rfl⟩
    rw [hV] at HM HO ⊢
    obtain ⟨R, hR⟩ : ∃ R, oppC m d t V = R := ⟨_, rfl⟩
    rw [hR] at HO ⊢
    obtain ⟨n1, hn⟩ : ∃ n, l1.length = n := ⟨_, rfl⟩
    rw [hn] at HM ⊢
    obtain ⟨L, hL⟩ : ∃ L, t.length = L := ⟨_, rfl⟩
    rw [hL] at HM HO HW b1 ⊢
    have hsz : w.heap.size < W.heap.size := b1.2.2
    obtain ⟨x1, x2, -⟩ := b1
    have HF := Lib.hid (fun w' (h : Below W.heap.size W w') => (⟨(h.cell (p := ⟨w.heap.size, 0, none⟩) (by simp; omega)).trans x1, (h.cell (p := ⟨w.heap.size, 1, none⟩) (by simp; omega)).trans x2⟩ :
      w'.cell? ⟨w.heap.size, 0, none⟩ = some (.int .i64 m) ∧ w'.cell? ⟨w.heap.size, 1, none⟩ = some (.slice A L c)))
    have X0 := Lib.hid (keepW HF.out (below_drew0 W))
    have w9 : IntKind.i64.wrap (-n) = (K : Int) := by rw [hKn, IntKind.wrap_i64]; omega
    clear hwb hW hr hr1 hs hf hl hR hL hn hV hN x1 x2 hKn hK
    go_enter Tryz.func56, Tryz.ntmps56
    go_wp2
    rw [HW.out]
    go_region_held3 (fun w' => (w'.cell? ⟨w.heap.size, 0, none⟩ = some (.int .i64 m) ∧ w'.cell? ⟨w.heap.size, 1, none⟩ = some (.slice A L c)) ∧ Below W.heap.size W w') (first | exact X0.out | exact keepS HF.out (Nat.le_refl _) (by assumption) hbb | exact keepS HF.out (Nat.le_refl _) (by assumption) hba) (first
      | (go_at_call 56; with_reducible refine Calls.mono (HM.out _ (below_drew0 _)) ?_; rintro e wa ⟨va, rfl, hoa, hba⟩; obtain ⟨A2, c2, rfl, -⟩ := hoa.form)
      | (go_at_call 69; with_reducible refine Calls.mono (HO.out _ (below_step (below_drew0 _) hba) _ _ hoa.ri) ?_; rintro e wb ⟨vb, rfl, hob, hbb⟩))
    all_goals
      have hzz := (below_step (below_drew0 W) hba).size
      have F2 := Lib.hid (hob.more (b' := w.heap.size) (by omega))
      have F3 := Lib.hid (below_step HB.out (below_step (below_step (below_drew0 W) hba) hbb))
      clear hob hoa hba hbb
      go_wp2
      go_ret
      exact ⟨_, rfl, F2.out, F3.out⟩
  · have := l04MultipleK_any m d A c t n.toNat A1 c1 l1 w hs hf hl (by omega) hr hr1
    rw [show ((n.toNat : Nat) : Int) = n by omega] at this
    rw [show mulC m d t n l1 = mulK m d t n.toNat l1 by unfold mulC; rw [if_neg hn0]]
    exact this
end Go.Proofs.YtfhdgcndiljjcaaGreatDoor

/- Contract of reversed, of the program. -/
namespace Go.Proofs.YtfhdgcndiljjcaaGreatDoor
open Go.RowKit Go.WideShapes Go.ChangeShapes Go.ChangeAt

theorem pw_step (m : Int) (d n : Nat) (l : List Int) : Ser.mulL m d (Ser.cut m d (Ser.pw (Ser.co l) n)) l = Ser.cut m d (Ser.pw (Ser.co l) (n + 1)) := by
  unfold Ser.mulL
  refine Ser.cut_congr ?_
  show Ser.Eq m d (Ser.mul (Ser.co (Ser.cut m d (Ser.pw (Ser.co l) n))) (Ser.co l)) (Ser.mul (Ser.pw (Ser.co l) n) (Ser.co l))
  exact Ser.Eq.mul (Ser.co_cut_eq _ _ _) (Ser.Eq.refl _ _ _)
theorem lag_g (m u : Int) (f : Nat → Int) (d n : Nat) : (Ser.lagG m u f d (n + 1)).1 = (Ser.lagG m u f d n).1.set (n + 1) (Ser.co (Ser.lagG m u f d n).2 (n + 1) * (Ser.ipow u (n + 1) % m) % m) := rfl
theorem lag_r (m u : Int) (f : Nat → Int) (d n : Nat) : addL m d (Ser.lagG m u f d n).2 (scaL m d (Ser.cut m d (Ser.pw f (n + 1))) (-(Ser.co (Ser.lagG m u f d n).2 (n + 1) * (Ser.ipow u (n + 1) % m) % m))) = (Ser.lagG m u f d (n + 1)).2 := by
  obtain ⟨g, hg⟩ : ∃ g, Ser.co (Ser.lagG m u f d n).2 (n + 1) * (Ser.ipow u (n + 1) % m) % m = g := ⟨_, rfl⟩
  have e : Ser.cut m d (fun k => Ser.co (Ser.cut m d (Ser.pw f (n + 1))) k * -g) = Ser.cut m d (fun k => Ser.pw f (n + 1) k * -g) :=
    Ser.cut_congr (fun k hk => Ser.mul_cong (Ser.co_cut_eq m d _ k hk) rfl)
  have e2 : (Ser.lagG m u f d (n + 1)).2 = Ser.cut m d fun i => Ser.co (Ser.lagG m u f d n).2 i + Ser.co (Ser.cut m d fun i => Ser.pw f (n + 1) i * -(Ser.co (Ser.lagG m u f d n).2 (n + 1) * (Ser.ipow u (n + 1) % m) % m)) i := rfl
  rw [e2, hg]
  unfold addL scaL
  rw [e]
theorem SerOk.lag1 {m u : Int} {d : Nat} {l : List Int} (h : SerOk m d l) (f : Nat → Int) (n : Nat) (hn : n ≤ d) : SerOk m d (Ser.lagG m u f d n).1 :=
  ⟨h.m1, h.m2, h.d1, h.d2, Ser.lagG_len1 _ _ _ _ _, Ser.lagG_red1 (by have := h.m1; omega) _ _ _ _ hn⟩
theorem SerOk.lag2 {m u : Int} {d : Nat} {l : List Int} (h : SerOk m d l) (f : Nat → Int) (n : Nat) : SerOk m d (Ser.lagG m u f d n).2 :=
  ⟨h.m1, h.m2, h.d1, h.d2, Ser.lagG_len2 _ _ _ _ _, Ser.lagG_red2 (by have := h.m1; omega) _ _ _ _⟩

theorem scaL_len (m : Int) (d : Nat) (l : List Int) (k : Int) : (scaL m d l k).length = d + 1 := by unfold scaL; rw [Ser.cut_length]
theorem addL_len (m : Int) (d : Nat) (l l' : List Int) : (addL m d l l').length = d + 1 := by unfold addL; rw [Ser.cut_length]
theorem SerOk.sca {m : Int} {d : Nat} {l : List Int} (h : SerOk m d l) (l' : List Int) (k : Int) : SerOk m d (scaL m d l' k) := by unfold scaL; exact h.cut _
theorem ri_len {w : World} {base : Nat} {A : Option Addr} {n c : Nat} {l : List Int} (h : OwnI w base (.slice A n c) l) : RI w A l := by
  obtain ⟨A0, c0, he, hri⟩ := h.form
  injection he with e1
  rw [e1]; exact hri
theorem scaled_at {X : World} {base : Nat} {m : Int} {d : Nat} {A : Option Addr} {c : Nat} {l : List Int} {k : Int} (hs : SerOk m d l) (ho : OwnI X base (.slice A (d + 1) c) l) (h5 : -10000 ≤ k) (h6 : k ≤ 10000) (W0 : World) (h : Below X.heap.size X W0) :
    Calls Tryz.prog 109 #[.agg #[.int .i64 m, .slice A (d + 1) c], .int .i64 k] W0 fun e w' => ∃ A5 c5, e = .returned (.agg #[.int .i64 m, .slice A5 (d + 1) c5]) ∧ RI w' A5 (scaL m d l k) ∧ Below W0.heap.size W0 w' := by
  have := scaled_any m d A c l k W0 hs ((ri_len ho).below h) h5 h6
  rw [hs.len] at this
  refine this.mono ?_
  rintro e w' ⟨v, rfl, ho, hb⟩
  obtain ⟨A5, c5, rfl, hr⟩ := ho.form
  exact ⟨A5, c5, by rw [scaL_len], hr, hb⟩
theorem plus_at {X : World} {base : Nat} {m : Int} {d : Nat} {A : Option Addr} {c : Nat} {l l' : List Int} (hs : SerOk m d l) (hs' : SerOk m d l') (ho : OwnI X base (.slice A (d + 1) c) l) (W0 : World) (h : Below X.heap.size X W0) (A' : Option Addr) (c' : Nat) (hr' : RI W0 A' l') :
    Calls Tryz.prog 108 #[.agg #[.int .i64 m, .slice A (d + 1) c], .agg #[.int .i64 m, .slice A' (d + 1) c']] W0 fun e w' => ∃ A6 c6, e = .returned (.agg #[.int .i64 m, .slice A6 (d + 1) c6]) ∧ OwnI w' W0.heap.size (.slice A6 (d + 1) c6) (addL m d l l') ∧ Below W0.heap.size W0 w' := by
  have := plus_any m d A c l m A' c' l' W0 hs hs' ((ri_len ho).below h) hr'
  rw [hs.len, hs'.len] at this
  refine this.mono ?_
  rintro e w' ⟨v, rfl, ho, hb⟩
  obtain ⟨A6, c6, rfl, hr⟩ := ho.form
  have e : (Ser.cut m d fun n => Ser.co l n + Ser.co l' n) = addL m d l l' := rfl
  rw [e] at ho ⊢
  rw [addL_len] at ho ⊢
  exact ⟨A6, c6, rfl, ho, hb⟩
end Go.Proofs.YtfhdgcndiljjcaaGreatDoor

/- Contracts of InverseOfSeries, of the model. -/
namespace Go.Proofs.YtfhdgcndiljjcaaGreatDoor
open Go.RowKit Go.WideShapes Go.ChangeShapes Go.ChangeAt

theorem inv_next (m u S : Int) : (m - S % m) * u % m = (-u * S) % m := by
  have h1 : (m - S % m) % m = (0 - S) % m := Ser.sub_cong (by simp) (Int.emod_emod _ _)
  have h2 : (m - S % m) * u % m = (0 - S) * u % m := Ser.mul_cong h1 rfl
  rw [h2, Int.zero_sub, Int.neg_mul, Int.neg_mul, Int.mul_comm]
theorem invC_next (m u : Int) (a : Nat → Int) (k : Nat) : Ser.invC m u a (k + 1) = Ser.invC m u a k ++ [(m - Ser.psum (fun q => a (q + 1) * Ser.co (Ser.invC m u a k) (k - q)) (k + 1) % m) * u % m] := by
  rw [inv_next, Ser.invC, Ser.cv_succ, Ser.co_over (l := Ser.invC m u a k) (by rw [Ser.invC_length]; exact Nat.le_refl _), Int.mul_zero, Int.zero_add, Ser.cv_psum]
  rfl

end Go.Proofs.YtfhdgcndiljjcaaGreatDoor

/- Contracts of ReverseSeries, of the program and of the model. -/
namespace Go.Proofs.YtfhdgcndiljjcaaGreatDoor
open Go.RowKit Go.WideShapes Go.ChangeShapes Go.ChangeAt

def rvsM (m : Int) (l : List Int) : Int × List Int × Int :=
  if isS m l = true then (if Ser.co l 0 = 0 ∧ gcdI (Ser.co l 1) m = 1 then (m, Ser.revC m (egI m (Ser.co l 1)).2 (Ser.co l) (l.length - 2), 0) else (0, [], 5)) else (0, [], 1)
theorem rvsM_len (m : Int) (l : List Int) : (rvsM m l).2.1.length ≤ 1048576 := by
  unfold rvsM
  split
  · rename_i h
    obtain ⟨d, e, s⟩ := serOk_of h
    have := s.d2
    split
    · dsimp only; rw [Ser.revC_length]; omega
    · simp
  · simp
theorem unit_mul {m a : Int} (h0 : 0 ≤ a) (ha : a < m) (hg : gcdI a m = 1) : (a * (egI m a).2) % m = 1 % m := by
  obtain ⟨-, hd, -, -⟩ := eg_fact m a h0 ha
  rw [hg] at hd
  exact (Ser.modEq _ _ _).2 hd

/-- the model's list while the reversion is made -/
def rvL (m u : Int) (f : Nat → Int) (d n : Nat) : List Int := Ser.revC m u f n ++ List.replicate (d - 1 - n) 0
theorem rvL_len (m u : Int) (f : Nat → Int) (d n : Nat) (h : n + 1 ≤ d) : (rvL m u f d n).length = d + 1 := by
  unfold rvL; rw [List.length_append, Ser.revC_length, List.length_replicate]; omega
theorem rvL_zero (m u : Int) (f : Nat → Int) (d : Nat) (h : 1 ≤ d) : (List.replicate (d + 1) (0 : Int)).set 1 u = rvL m u f d 0 := by
  obtain ⟨e, rfl⟩ : ∃ e, d = e + 1 := ⟨d - 1, by omega⟩
  unfold rvL Ser.revC
  rw [List.replicate_succ, List.replicate_succ, List.set_cons_succ, List.set_cons_zero]
  rfl
theorem rvL_step (m u : Int) (f : Nat → Int) (d n : Nat) (h : n + 2 ≤ d) : (rvL m u f d n).set (n + 2) ((m - Ser.comp f (Ser.co (rvL m u f d n)) (n + 2) % m) * u % m) = rvL m u f d (n + 1) := by
  have e : Ser.co (rvL m u f d n) = Ser.co (Ser.revC m u f n) := by unfold rvL; rw [Ser.co_pad]
  rw [e]
  unfold rvL
  rw [List.set_append_right _ _ (by rw [Ser.revC_length]; omega), Ser.revC_length, Nat.sub_self, show d - 1 - n = (d - 1 - (n + 1)) + 1 by omega, List.replicate_succ, List.set_cons_zero, Ser.revC, List.append_assoc]
  rfl
theorem rvL_curve (m u : Int) (f : Nat → Int) (d n : Nat) : Ser.co (rvL m u f d n) 0 = 0 := by
  unfold rvL; rw [Ser.co_pad]; exact Ser.revC_curve m u f n
theorem rvL_red {m u : Int} (hm : 0 < m) (h1 : 0 ≤ u) (h2 : u < m) (f : Nat → Int) (d n : Nat) : Ser.Red m (rvL m u f d n) := by
  intro i; unfold rvL; rw [Ser.co_pad]; exact Ser.revC_red hm h1 h2 f n i
theorem rvL_all (m u : Int) (f : Nat → Int) (n : Nat) : rvL m u f (n + 1) n = Ser.revC m u f n := by unfold rvL; simp

theorem isC_is {m : Int} {l : List Int} (h : isC m l = true) : isS m l = true ∧ Ser.co l 0 = 0 := by
  unfold isC at h
  rw [Bool.and_eq_true] at h
  exact ⟨h.1, by simpa [Ser.co] using h.2⟩
theorem rev_same {m : Int} {d : Nat} {l : List Int} (hs : SerOk m d l) (hz : Ser.co l 0 = 0) (hg : gcdI (Ser.co l 1) m = 1) : (Ser.lagG m (egI m (Ser.co l 1)).2 (Ser.co l) d d).1 = Ser.revC m (egI m (Ser.co l 1)).2 (Ser.co l) (d - 1) := by
  obtain ⟨r1, r2⟩ := hs.red 1
  obtain ⟨-, -, u1, u2⟩ := eg_fact m _ r1 r2
  have hd1 := hs.d1
  have hm := hs.m1
  obtain ⟨n, rfl⟩ : ∃ n, d = n + 1 := ⟨d - 1, by omega⟩
  rw [Nat.add_sub_cancel]
  exact Ser.lagG_revC (by omega) u1 u2 hz (unit_mul r1 r2 hg) n

end Go.Proofs.YtfhdgcndiljjcaaGreatDoor

/- Contracts of IntegrateSeries, of the program. -/
namespace Go.Proofs.YtfhdgcndiljjcaaGreatDoor
open Go.RowKit Go.WideShapes Go.ChangeShapes Go.ChangeAt

/-- the numbers 1 to n are units -/
def allU (m : Int) (n : Nat) : Bool := (List.range n).all fun i => gcdI ((i : Int) + 1) m == 1
theorem allU_succ (m : Int) (n : Nat) : allU m (n + 1) = (allU m n && (gcdI ((n : Int) + 1) m == 1)) := by
  unfold allU; rw [List.range_succ, List.all_append]; simp
theorem allU_le {m : Int} {n k : Nat} (h : allU m n = true) (hk : k ≤ n) : allU m k = true := by
  unfold allU at h ⊢
  rw [List.all_eq_true] at h ⊢
  intro i hi
  exact h i (List.mem_range.2 (Nat.lt_of_lt_of_le (List.mem_range.1 hi) hk))
theorem allU_at {m : Int} {n k : Nat} (h : allU m n = true) (hk : k < n) : gcdI ((k : Int) + 1) m = 1 := by
  unfold allU at h
  rw [List.all_eq_true] at h
  simpa using h k (List.mem_range.2 hk)
theorem allU_not {m : Int} {n k : Nat} (hk : k < n) (h : ¬ gcdI ((k : Int) + 1) m = 1) : allU m n = false := by
  rw [← Bool.not_eq_true]
  exact fun e => h (allU_at e hk)
theorem allU_lt {m : Int} {n : Nat} (h : allU m n = true) (hm : 2 ≤ m) : (n : Int) < m := by
  by_cases hn : (n : Int) < m
  · exact hn
  · obtain ⟨k, hk⟩ : ∃ k : Nat, m = (k : Int) + 1 := ⟨(m - 1).toNat, by omega⟩
    have := allU_at h (k := k) (by omega)
    rw [← hk] at this
    unfold gcdI at this
    rw [Nat.gcd_self] at this
    omega
theorem gcdI_mod (i m : Int) (hi : 0 ≤ i) (hm : 0 < m) : gcdI (i % m) m = gcdI i m := by
  obtain ⟨a, rfl⟩ := Int.eq_ofNat_of_zero_le hi
  obtain ⟨b, rfl⟩ := Int.eq_ofNat_of_zero_le (show 0 ≤ m by omega)
  unfold gcdI
  rw [emod_nat, Int.natAbs_natCast, Int.natAbs_natCast, Int.natAbs_natCast]
  congr 1
  rw [← Nat.gcd_rec, Nat.gcd_comm]

def inv1 (m : Int) (i : Nat) : Int := (egI m ((i : Int) % m)).2
/-- the list of inverses, made up to k -/
def ivP (m : Int) (n k : Nat) : List Int := (List.range (n + 1)).map fun i => if 1 ≤ i ∧ i ≤ k then inv1 m i else 0
theorem ivP_len (m : Int) (n k : Nat) : (ivP m n k).length = n + 1 := by simp [ivP]
theorem ivP_at (m : Int) (n k i : Nat) (h : i ≤ n) : Ser.co (ivP m n k) i = if 1 ≤ i ∧ i ≤ k then inv1 m i else 0 := by
  unfold Ser.co ivP
  rw [List.getElem?_map, List.getElem?_range (by omega)]; rfl
theorem ivP_zero (m : Int) (n : Nat) : ivP m n 0 = List.replicate (n + 1) 0 := by
  refine Ser.list_ext (by simp [ivP]) (fun i hi => ?_)
  rw [ivP_len] at hi
  rw [ivP_at _ _ _ _ (by omega), if_neg (by omega), Ser.co_zeros]
theorem ivP_step (m : Int) (n k : Nat) (h : k + 1 ≤ n) : (ivP m n k).set (k + 1) (inv1 m (k + 1)) = ivP m n (k + 1) := by
  refine Ser.list_ext (by rw [List.length_set, ivP_len, ivP_len]) (fun i hi => ?_)
  rw [List.length_set, ivP_len] at hi
  rw [Ser.co_set (by rw [ivP_len]; omega), ivP_at _ _ _ _ (by omega), ivP_at _ _ _ _ (by omega)]
  by_cases e : i = k + 1
  · rw [if_pos e, if_pos (by omega), e]
  · rw [if_neg e]
    by_cases c : 1 ≤ i ∧ i ≤ k
    · rw [if_pos c, if_pos (by omega)]
    · rw [if_neg c, if_neg (by omega)]
theorem inv1_bd {m : Int} (hm : 2 ≤ m) (i : Nat) : 0 ≤ inv1 m i ∧ inv1 m i < m := by
  obtain ⟨-, -, u1, u2⟩ := eg_fact m ((i : Int) % m) (Int.emod_nonneg _ (by omega)) (Int.emod_lt_of_pos _ (by omega))
  exact ⟨u1, u2⟩
def insF (m : Int) (l : List Int) (n : Nat) : Int := if n = 0 then 0 else Ser.co l (n - 1) * inv1 m n
def insL (m : Int) (l : List Int) : List Int := Ser.cut m l.length (insF m l)
def insM (m : Int) (l : List Int) : Int × List Int × Int :=
  if isS m l = true then (if l.length ≤ 10 ∧ allU m l.length = true then (m, insL m l, 0) else (0, [], 5)) else (0, [], 1)
theorem insM_len (m : Int) (l : List Int) : (insM m l).2.1.length ≤ 1048576 := by
  unfold insM
  split
  · split
    · rename_i h
      dsimp only; unfold insL; rw [Ser.cut_length]; omega
    · simp
  · simp
/-- a block of one slice -/
def Cls (w : World) (g : Nat) (x : Value) : Prop := w.cell? ⟨g, 0, none⟩ = some x ∧ g < w.heap.size
theorem Cls.new (w : World) (x : Value) (t : TypeId) : Cls (w.alloc (.cells #[x] t)) w.heap.size x := by
  refine ⟨?_, by simp⟩
  rw [World.cell?_alloc_at _ _ _ _ rfl]; rfl
theorem Cls.keep {w w' : World} {g : Nat} {x : Value} (h : Cls w g x) (hb : Below w.heap.size w w') : Cls w' g x :=
  ⟨(hb.cell (p := ⟨g, 0, none⟩) h.2).trans h.1, Nat.lt_of_lt_of_le h.2 hb.size⟩

theorem insF_bd {m : Int} {d : Nat} {l : List Int} (hs : SerOk m d l) (n : Nat) : 0 ≤ insF m l n ∧ insF m l n ≤ 100000000 := by
  unfold insF
  split
  · omega
  · have b1 := hs.red (n - 1)
    have b2 := inv1_bd hs.m1 n
    have := hs.m2
    exact ⟨Int.mul_nonneg b1.1 b2.1, (mul_bd b1.1 (by omega) (by omega) (by omega)).2⟩

end Go.Proofs.YtfhdgcndiljjcaaGreatDoor

/- Contracts of the model's AddSeries. -/
namespace Go.Proofs.YtfhdgcndiljjcaaGreatDoor
open Go.RowKit Go.WideShapes Go.ChangeShapes Go.ChangeAt

theorem wrap_rem {x m : Int} (h1 : 0 ≤ x) (h2 : x ≤ 1000000000000000) : (IntKind.i64.wrap x).tmod m = x % m := by
  have : IntKind.i64.wrap x = x := by rw [IntKind.wrap_i64]; omega
  rw [this, Int.tmod_eq_emod_of_nonneg h1]

set_option maxHeartbeats 2000000 in
set_option maxRecDepth 100000 in
theorem l02Add_any (m : Int) (d : Nat) (A : Option Addr) (c : Nat) (l : List Int) (A' : Option Addr) (c' : Nat) (l' : List Int) (w : World) (hs : SerOk m d l) (hs' : SerOk m d l') (hr : RI w A l) (hr' : RI w A' l') :
    Calls Tryz.prog 92 #[.int .i64 m, .slice A l.length c, .slice A' l'.length c'] w fun e w' => ∃ v, e = .returned v ∧ OwnI w' w.heap.size v (addL m d l l') ∧ Below w.heap.size w w' := by
  have HS := Lib.hid hs
  have HS' := Lib.hid hs'
  have HR := Lib.hid hr
  have HR' := Lib.hid hr'
  have hm1 := hs.m1
  have hm2 := hs.m2
  have hd := hs.d2
  have hm0 : ¬ m = 0 := by omega
  have hll : l.length ≤ 11 := by have := hs.len; omega
  have hll' : l'.length ≤ 11 := by have := hs'.len; omega
  have E1 := Lib.hid hs.len
  have E2 := Lib.hid hs'.len
  clear hs hs' hr hr'
  go_enter Tryz.func92, Tryz.ntmps92
  go_wp2
  go_loopw [7, 8] (fun r i wr => ∃ k : Nat, k ≤ l.length ∧ i = .int .i64 k ∧ OwnI wr w.heap.size r ((addL m d l l').take k) ∧ Below w.heap.size w wr) (fun _ i _ => l.length - (intOf i).toNat)
  case atStart => exact ⟨0, Nat.zero_le _, rfl, OwnI.empty _, below_one _ _⟩
  case round =>
    obtain ⟨k, hk, rfl, hown, hbel⟩ := hrel
    have HB := Lib.hid hbel
    have HO := Lib.hid hown
    have hsz := hbel.size
    clear hown hbel
    by_cases hlt : k < l.length
    · obtain ⟨b, off, rfl, hb, hc⟩ := HR.out.at k hlt
      obtain ⟨b', off', rfl, hb', hc'⟩ := HR'.out.at k (by rw [E2.out, ← E1.out]; exact hlt)
      have c1 := (HB.out.cell (p := ⟨b, off + k, none⟩) hb).trans hc
      have c2 := (HB.out.cell (p := ⟨b', off' + k, none⟩) hb').trans hc'
      have r1 := HS.out.red k
      have r2 := HS'.out.red k
      have hst : (addL m d l l').take (k + 1) = (addL m d l l').take k ++ [(Ser.co l k + Ser.co l' k) % m] := Ser.cut_take_succ _ _ _ _ (by have := E1.out; omega)
      obtain ⟨X, hX⟩ : ∃ X, Ser.co l k = X := ⟨_, rfl⟩
      obtain ⟨Y, hY⟩ : ∃ Y, Ser.co l' k = Y := ⟨_, rfl⟩
      rw [hX] at hc c1 r1
      rw [hY] at hc' c2 r2
      rw [hX, hY] at hst
      have HST := Lib.hid hst
      have C1 := Lib.hid hc
      have C2 := Lib.hid hc'
      have j0 : (0 : Int) ≤ (k : Int) := by omega
      have j1 : (k : Int) < (l.length : Int) := by omega
      have j2 : (k : Int) < (l'.length : Int) := by have := E1.out; have := E2.out; omega
      obtain ⟨r1, r3⟩ := r1
      obtain ⟨r2, r4⟩ := r2
      have HQ := Lib.hid (wrap_rem (x := X + Y) (m := m) (by omega) (by omega))
      clear hX hY hst hc hc'
      go_wp2
      go_region_held3 (fun w' => w'.cell? ⟨b, off + k, none⟩ = some (.int .i64 X) ∧ w'.cell? ⟨b', off' + k, none⟩ = some (.int .i64 Y) ∧ ¬ m = 0) (first | exact ⟨((((HB.out.alloc hsz _).drew).trans hpb).cell hb).trans C1.out, ((((HB.out.alloc hsz _).drew).trans hpb).cell hb').trans C2.out, hm0⟩ | exact ⟨c1, c2, hm0⟩ | go_keep) ((refine step_push _ _ _ (by rfl) (by rfl) Tryz.underlying32 w.heap.size _ _ (by rfl) ((HO.out.alloc _).drew) wr.heap.size ((X + Y) % m) (by rfl) (by simp; exact HQ.out) (by have := take_cut_len m d (fun n => Ser.co l n + Ser.co l' n) k; unfold addL; omega) (by simp; omega) ?_; intro v' w1 ho1 hpb))
      all_goals
        have hb1 := (((HB.out.alloc hsz _).drew).trans hpb)
        have HB1 := Lib.hid hb1
        have HO1 := Lib.hid ho1
        clear hb1 ho1 hpb
        go_wp2
        go_roundw
        case rel => exact ⟨k + 1, by omega, by go_num, by rw [HST.out]; exact HO1.out, HB1.out⟩
        case measure => simp only [intOf]; omega
    · obtain rfl : k = l.length := by omega
      have ho := HO.out
      rw [List.take_of_length_le (by unfold addL; rw [Ser.cut_length, E1.out]; exact Nat.le_refl _)] at ho
      have HF := Lib.hid ho
      clear ho
      go_wp2
      go_ret
      exact ⟨_, rfl, HF.out, HB.out⟩

end Go.Proofs.YtfhdgcndiljjcaaGreatDoor

/- Contracts of IntegrateSeries, of the model. -/
namespace Go.Proofs.YtfhdgcndiljjcaaGreatDoor
open Go.RowKit Go.WideShapes Go.ChangeShapes Go.ChangeAt

end Go.Proofs.YtfhdgcndiljjcaaGreatDoor

/- Differentials and logarithms of laws: plain facts. -/
namespace Go.Proofs.YtfhdgcndiljjcaaGreatDoor
open Go.RowKit Go.WideShapes Go.ChangeShapes Go.ChangeAt

theorem gcd_one (m : Int) : gcdI 1 m = 1 := by unfold gcdI; simp
theorem eg_one {m : Int} (hm : 2 ≤ m) : (egI m 1).2 = 1 := by
  have h := unit_mul (m := m) (a := 1) (by omega) (by omega) (gcd_one m)
  obtain ⟨-, -, u1, u2⟩ := eg_fact m 1 (by omega) (by omega)
  rw [Int.one_mul, Int.emod_eq_of_lt u1 u2, Int.emod_eq_of_lt (by omega) (by omega)] at h
  exact h
/-- the coefficients of the differential -/
def dffL (m : Int) (t : List (List Int)) : List Int := Ser.invC m 1 (Ser.co (Pl.rw' t 1)) (t.length - 2)
theorem dffL_length (m : Int) (t : List (List Int)) : (dffL m t).length = t.length - 2 + 1 := Ser.invC_length _ _ _ _
theorem dffL_red {m : Int} (hm : 2 ≤ m) (t : List (List Int)) : Ser.Red m (dffL m t) := Ser.invC_red (by omega) (by omega) (by omega) _ _
theorem dffL_zero (m : Int) (t : List (List Int)) : Ser.co (dffL m t) 0 = 1 := by
  have := Ser.invC_pre m 1 (Ser.co (Pl.rw' t 1)) 0 (t.length - 2) 0 (Nat.le_refl _)
  rw [Nat.zero_add] at this
  unfold dffL
  rw [this]
  rfl
theorem Pl.Ok.ser1 {m : Int} {d : Nat} {t : List (List Int)} (hs : Pl.Ok m d t) (hd : 2 ≤ d) : SerOk m (d - 1) (Pl.rw' t 1) :=
  ⟨hs.m1, hs.m2, by omega, by have := hs.d2; omega, hs.row 1 (by omega), hs.red 1⟩
theorem dffL_ok {m : Int} {d : Nat} {t : List (List Int)} (hs : Pl.Ok m d t) (hd : 2 ≤ d) : SerOk m (d - 1) (dffL m t) :=
  ⟨hs.m1, hs.m2, by omega, by have := hs.d2; omega, by rw [dffL_length]; have := hs.len; omega, dffL_red hs.m1 t⟩
theorem inv1_one {m : Int} (hm : 2 ≤ m) : inv1 m 1 = 1 := by
  unfold inv1
  rw [show ((1 : Nat) : Int) % m = 1 from Int.emod_eq_of_lt (by omega) (by omega)]
  exact eg_one hm
/-- the coefficients of the logarithm -/
def logL (m : Int) (t : List (List Int)) : List Int := insL m (dffL m t)
theorem logL_length {m : Int} {d : Nat} {t : List (List Int)} (hs : Pl.Ok m d t) : (logL m t).length = d + 1 := by
  unfold logL insL
  rw [Ser.cut_length, dffL_length]
  have := hs.len
  have := hs.d1
  omega
theorem logL_ok {m : Int} {d : Nat} {t : List (List Int)} (hs : Pl.Ok m d t) : SerOk m d (logL m t) :=
  ⟨hs.m1, hs.m2, hs.d1, hs.d2, logL_length hs, Ser.cut_red (by have := hs.m1; omega) _ _⟩
theorem logL_zero (m : Int) (t : List (List Int)) : Ser.co (logL m t) 0 = 0 := by
  unfold logL insL
  rw [Ser.co_cut (Nat.zero_le _)]
  simp [insF]
theorem logL_one {m : Int} (hm : 2 ≤ m) (t : List (List Int)) : Ser.co (logL m t) 1 = 1 := by
  unfold logL insL
  rw [Ser.co_cut (by rw [dffL_length]; omega)]
  unfold insF
  rw [if_neg (by omega), Nat.sub_self, dffL_zero, inv1_one hm, Int.mul_one, Int.emod_eq_of_lt (by omega) (by omega)]
theorem logL_lin {m : Int} {t : List (List Int)} (hm : 2 ≤ m) (h : t.length = 2) : logL m t = Pl.lin m 1 1 := by
  have hl : (logL m t).length = 2 := by unfold logL insL; rw [Ser.cut_length, dffL_length]; omega
  refine Ser.list_ext (by rw [hl]; exact (Ser.cut_length _ _ _).symm) (fun i hi => ?_)
  rw [hl] at hi
  unfold Pl.lin
  rw [Ser.co_cut (by omega)]
  match i, hi with
  | 0, _ => rw [logL_zero]; simp [Ser.mon]
  | 1, _ => rw [logL_one hm]; simp [Ser.mon]; exact (Int.emod_eq_of_lt (by omega) (by omega)).symm
theorem allU_one (m : Int) : allU m 1 = true := by
  unfold allU
  simp [List.range_succ, gcd_one]
/-- the model's inverse of the first row of a law is that with the first number 1 -/
theorem row1_one {m : Int} {d : Nat} {t : List (List Int)} (hs : Pl.Ok m d t) (hf : Pl.fau m d (Pl.pc t) = none) : Ser.co (Pl.rw' t 1) 0 = 1 :=
  (Pl.norm_law hf hs).x 1 hs.d1

/-- the models of DifferentialOf, LogarithmOf, ExponentialOf -/
def difM (m : Int) (t : List (List Int)) : Int × List Int × Int :=
  if isL m t = true then (if t.length = 2 then (0, [], 5) else (m, dffL m t, 0)) else (0, [], 1)
def logM (m : Int) (t : List (List Int)) : Int × List Int × Int :=
  if isL m t = true then (if allU m (t.length - 1) = true then (m, logL m t, 0) else (0, [], 5)) else (0, [], 1)
def exqL (m : Int) (t : List (List Int)) : List Int := Ser.revC m 1 (Ser.co (logL m t)) (t.length - 2)
def expM (m : Int) (t : List (List Int)) : Int × List Int × Int :=
  if isL m t = true then (if allU m (t.length - 1) = true then (m, exqL m t, 0) else (0, [], 5)) else (0, [], 1)
theorem difM_len (m : Int) (t : List (List Int)) : (difM m t).2.1.length ≤ 1048576 := by
  unfold difM
  by_cases h : isL m t = true
  · rw [if_pos h]
    obtain ⟨-, d, e, ok, -⟩ := isL_of h
    have := ok.d2
    by_cases h2 : t.length = 2
    · rw [if_pos h2]; exact Nat.zero_le _
    · rw [if_neg h2]; dsimp only; rw [dffL_length]; omega
  · rw [if_neg h]; exact Nat.zero_le _
theorem logM_len (m : Int) (t : List (List Int)) : (logM m t).2.1.length ≤ 1048576 := by
  unfold logM
  by_cases h : isL m t = true
  · rw [if_pos h]
    obtain ⟨-, d, e, ok, -⟩ := isL_of h
    have := ok.d2
    by_cases h2 : allU m (t.length - 1) = true
    · rw [if_pos h2]; dsimp only; rw [logL_length ok]; omega
    · rw [if_neg h2]; exact Nat.zero_le _
  · rw [if_neg h]; exact Nat.zero_le _
theorem exqL_length {m : Int} {d : Nat} {t : List (List Int)} (hs : Pl.Ok m d t) : (exqL m t).length = d + 1 := by
  unfold exqL
  rw [Ser.revC_length]
  have := hs.len
  have := hs.d1
  omega
theorem exqL_ok {m : Int} {d : Nat} {t : List (List Int)} (hs : Pl.Ok m d t) : SerOk m d (exqL m t) :=
  ⟨hs.m1, hs.m2, hs.d1, hs.d2, exqL_length hs, Ser.revC_red (by have := hs.m1; omega) (by omega) (by have := hs.m1; omega) _ _⟩
theorem expM_len (m : Int) (t : List (List Int)) : (expM m t).2.1.length ≤ 1048576 := by
  unfold expM
  by_cases h : isL m t = true
  · rw [if_pos h]
    obtain ⟨-, d, e, ok, -⟩ := isL_of h
    have := ok.d2
    by_cases h2 : allU m (t.length - 1) = true
    · rw [if_pos h2]; dsimp only; rw [exqL_length ok]; omega
    · rw [if_neg h2]; exact Nat.zero_le _
  · rw [if_neg h]; exact Nat.zero_le _
/-- the program's reversion of a logarithm -/
theorem exq_lag {m : Int} {d : Nat} {t : List (List Int)} (hs : Pl.Ok m d t) : (Ser.lagG m 1 (Ser.co (logL m t)) d d).1 = exqL m t := by
  have h := rev_same (logL_ok hs) (logL_zero m t) (by rw [logL_one hs.m1]; exact gcd_one m)
  rw [logL_one hs.m1, eg_one hs.m1] at h
  rw [h]
  unfold exqL
  rw [hs.len]
  rfl
end Go.Proofs.YtfhdgcndiljjcaaGreatDoor

/- Contracts of DifferentialOf, of the program and of the model. -/
namespace Go.Proofs.YtfhdgcndiljjcaaGreatDoor
open Go.RowKit Go.WideShapes Go.ChangeShapes Go.ChangeAt

theorem field_degK (a b : Value) (W : World) : (Instr.field 61 (.agg #[a, b]) 1).run Tryz.prog W = .ok b W := by kernel_rfl
end Go.Proofs.YtfhdgcndiljjcaaGreatDoor

/- Contracts of the logarithm of a law and its passages, of the program. -/
namespace Go.Proofs.YtfhdgcndiljjcaaGreatDoor
open Go.RowKit Go.WideShapes Go.ChangeShapes Go.ChangeAt

/-- what the program's logarithm returns -/
def lgM (m : Int) (t : List (List Int)) : Int × List Int × Int := if allU m (t.length - 1) = true then (m, logL m t, 0) else (0, [], 5)
theorem lg_one {m : Int} {t : List (List Int)} (hm : 2 ≤ m) (h : t.length = 2) : lgM m t = (m, Pl.lin m 1 1, 0) := by
  unfold lgM
  rw [h, if_pos (allU_one m), logL_lin hm h]
theorem logM_lg {m : Int} {t : List (List Int)} (h : isL m t = true) : logM m t = lgM m t := by unfold logM; rw [if_pos h]; rfl
theorem pro_lawQ (T : TypeId) (w : World) (m : Int) (d : Nat) (A : Option Addr) (n c : Nat) : ∃ W, (w.alloc (.cells #[.int .i64 m, .int .i64 d, .slice A n c] 65)).alloc (.cells #[.int .i64 0, .slice none 0 0] T) = W ∧
    GBox W w.heap.size m d A n c ∧ VarC T W (w.heap.size + 1) #[.int .i64 0, .slice none 0 0] ∧ Below w.heap.size w W := by
  refine ⟨_, rfl, (GBox.new _ _ _ _ _ _ _).keep (below_one _ _), ?_, below_alloc _ (below_one _ _)⟩
  have := VarC.new T (w.alloc (.cells #[.int .i64 m, .int .i64 d, .slice A n c] 65)) #[.int .i64 0, .slice none 0 0]
  simpa using this
theorem pro_serQ (T1 T2 : TypeId) (w : World) (m : Int) (A : Option Addr) (n c : Nat) : ∃ W, (w.alloc (.cells #[.int .i64 m, .slice A n c] T1)).alloc (.cells #[.int .i64 0, .slice none 0 0] T2) = W ∧
    Box W w.heap.size m A n c ∧ VarC T2 W (w.heap.size + 1) #[.int .i64 0, .slice none 0 0] ∧ Below w.heap.size w W := by
  refine ⟨_, rfl, (Box.newT _ _ _ _ _ _).keep (below_one _ _), ?_, below_alloc _ (below_one _ _)⟩
  have := VarC.new T2 (w.alloc (.cells #[.int .i64 m, .slice A n c] T1)) #[.int .i64 0, .slice none 0 0]
  simpa using this
end Go.Proofs.YtfhdgcndiljjcaaGreatDoor

/- Contracts of LawInCoordinate, of the program and of the model. -/
namespace Go.Proofs.YtfhdgcndiljjcaaGreatDoor
open Go.RowKit Go.WideShapes Go.ChangeShapes Go.ChangeAt

namespace Pl
theorem bot00 {m : Int} {d : Nat} {F : Nat → Nat → Int} (hF : Norm d F) {a b : List Int} (ha : Ser.co a 0 = 0) (hb : Ser.co b 0 = 0) : pc (botT m d F a b) 0 0 = 0 := by
  unfold botT
  rw [pc_tab (Nat.zero_le _)]
  have h := diag_put F (Ser.co a) (Ser.co b) (d + 1) 0
  rw [put_zero hF ha hb] at h
  have e : Ser.psum (fun p => subB F (Ser.co a) (Ser.co b) (d + 1) p (0 - p)) (0 + 1) = subB F (Ser.co a) (Ser.co b) (d + 1) 0 0 := by simp [Ser.psum]
  rw [e] at h
  rw [h, Int.zero_emod]
end Pl
/-- the reversion of a curve whose first coefficient is a unit -/
def revL (m : Int) (l : List Int) : List Int := Ser.revC m (egI m (Ser.co l 1)).2 (Ser.co l) (l.length - 2)
theorem revL_ok {m : Int} {d : Nat} {l : List Int} (hs : SerOk m d l) : SerOk m d (revL m l) := by
  obtain ⟨r1, r2⟩ := hs.red 1
  obtain ⟨-, -, u1, u2⟩ := eg_fact m _ r1 r2
  have := hs.m1
  have := hs.len
  have := hs.d1
  exact ⟨hs.m1, hs.m2, hs.d1, hs.d2, by unfold revL; rw [Ser.revC_length]; omega, Ser.revC_red (by omega) u1 u2 _ _⟩
theorem revL_zero (m : Int) (l : List Int) : Ser.co (revL m l) 0 = 0 := Ser.revC_curve _ _ _ _
/-- the table of a law in a coordinate -/
def licT (m : Int) (d : Nat) (t : List (List Int)) (l r : List Int) : List (List Int) := Pl.hor m d l (Pl.pc (Pl.botT m d (Pl.pc t) r r)) (d + 1)
theorem licT_ok {m : Int} {d : Nat} {t : List (List Int)} (hs : Pl.Ok m d t) (l r : List Int) : Pl.Ok m d (licT m d t l r) := Pl.hor_ok hs.m1 hs.m2 hs.d1 hs.d2 _ _ _
/-- the model of LawInCoordinate -/
def licM (m : Int) (t : List (List Int)) (m1 : Int) (l : List Int) : Int × List (List Int) × Int :=
  if codeS1 m t m1 l = 0 then (if gcdI (Ser.co l 1) m = 1 then (m, licT m (t.length - 1) t l (revL m l), 0) else (0, [], 5)) else (0, [], codeS1 m t m1 l)
theorem licM_len (m : Int) (t : List (List Int)) (m1 : Int) (l : List Int) : szT (licM m t m1 l).2.1 ≤ 1048576 := by
  unfold licM
  by_cases h : codeS1 m t m1 l = 0
  · rw [if_pos h]
    obtain ⟨-, -, d, e, -, ok, -⟩ := codeS1_ok h
    by_cases h2 : gcdI (Ser.co l 1) m = 1
    · rw [if_pos h2, e]; exact szT_ok (licT_ok ok _ _)
    · rw [if_neg h2]; decide
  · rw [if_neg h]; exact (by decide : szT [] ≤ 1048576)
/-- a plane's box, a series' box, the result's variable, the list of the one series -/
theorem pro_psQ (R : TypeId) (w : World) (m : Int) (A : Option Addr) (n c : Nat) (m1 : Int) (A1 : Option Addr) (n1 c1 : Nat) :
    ∃ W, (((w.alloc (.cells #[.int .i64 m, .slice A n c] 28)).alloc (.cells #[.int .i64 m1, .slice A1 n1 c1] 71)).alloc (.cells #[.int .i64 0, .slice none 0 0] R)).alloc (.cells #[.int .i64 m1, .slice A1 n1 c1] 71) = W ∧
    Box W w.heap.size m A n c ∧ Box W (w.heap.size + 1) m1 A1 n1 c1 ∧ VarC R W (w.heap.size + 1 + 1) #[.int .i64 0, .slice none 0 0] ∧ Box W (w.heap.size + 1 + 1 + 1) m1 A1 n1 c1 ∧ Below w.heap.size w W := by
  obtain ⟨W0, h0, h1, h2, h4⟩ := startB2 28 71 w m A n c m1 A1 n1 c1
  have hs : W0.heap.size = w.heap.size + 1 + 1 := by rw [← h0]; simp
  rw [h0]
  refine ⟨_, rfl, (h1.keep (below_one _ _)).keep (below_one _ _), (h2.keep (below_one _ _)).keep (below_one _ _), ?_, ?_, below_alloc _ (below_alloc _ h4)⟩
  · have := (VarC.new R W0 #[.int .i64 0, .slice none 0 0]).keep (below_one _ (.cells #[.int .i64 m1, .slice A1 n1 c1] 71))
    rwa [hs] at this
  · have hv := Box.newT 71 (W0.alloc (.cells #[.int .i64 0, .slice none 0 0] R)) m1 A1 n1 c1
    have e : (W0.alloc (.cells #[.int .i64 0, .slice none 0 0] R)).heap.size = w.heap.size + 1 + 1 + 1 := by simp [hs]
    rwa [e] at hv
/-- a law's box, two series' boxes, a law's variable -/
theorem pro_lawSSL (w : World) (m : Int) (d : Nat) (A : Option Addr) (n c : Nat) (m1 : Int) (A1 : Option Addr) (n1 c1 : Nat) (m2 : Int) (A2 : Option Addr) (n2 c2 : Nat) :
    ∃ W, (((w.alloc (.cells #[.int .i64 m, .int .i64 d, .slice A n c] 65)).alloc (.cells #[.int .i64 m1, .slice A1 n1 c1] 71)).alloc (.cells #[.int .i64 m2, .slice A2 n2 c2] 71)).alloc (.cells #[.int .i64 0, .int .i64 0, .slice none 0 0] 65) = W ∧
    GBox W w.heap.size m d A n c ∧ Box W (w.heap.size + 1) m1 A1 n1 c1 ∧ Box W (w.heap.size + 1 + 1) m2 A2 n2 c2 ∧ VarC 65 W (w.heap.size + 1 + 1 + 1) #[.int .i64 0, .int .i64 0, .slice none 0 0] ∧ Below w.heap.size w W := by
  refine ⟨_, rfl, (((GBox.new _ _ _ _ _ _ _).keep (below_one _ _)).keep (below_one _ _)).keep (below_one _ _), ?_, ?_, ?_, below_alloc _ (below_alloc _ (below_alloc _ (below_one _ _)))⟩
  · have := ((Box.newT 71 (w.alloc (.cells #[.int .i64 m, .int .i64 d, .slice A n c] 65)) m1 A1 n1 c1).keep (below_one _ (.cells #[.int .i64 m2, .slice A2 n2 c2] 71))).keep (below_one _ (.cells #[.int .i64 0, .int .i64 0, .slice none 0 0] 65))
    simpa using this
  · have := (Box.newT 71 ((w.alloc (.cells #[.int .i64 m, .int .i64 d, .slice A n c] 65)).alloc (.cells #[.int .i64 m1, .slice A1 n1 c1] 71)) m2 A2 n2 c2).keep (below_one _ (.cells #[.int .i64 0, .int .i64 0, .slice none 0 0] 65))
    simpa using this
  · have := VarC.new 65 (((w.alloc (.cells #[.int .i64 m, .int .i64 d, .slice A n c] 65)).alloc (.cells #[.int .i64 m1, .slice A1 n1 c1] 71)).alloc (.cells #[.int .i64 m2, .slice A2 n2 c2] 71)) #[.int .i64 0, .int .i64 0, .slice none 0 0]
    simpa using this
end Go.Proofs.YtfhdgcndiljjcaaGreatDoor

/- Contracts of OppositeUnder and DifferenceUnder, of the program and of the model. -/
namespace Go.Proofs.YtfhdgcndiljjcaaGreatDoor
open Go.RowKit Go.WideShapes Go.ChangeShapes Go.ChangeAt

/-- the models of OppositeUnder and DifferenceUnder -/
def oppL (m : Int) (t : List (List Int)) (m1 : Int) (l1 : List Int) : Int × List Int × Int :=
  if codeS1 m t m1 l1 = 0 then (m, oppC m (t.length - 1) t l1, 0) else (0, [], codeS1 m t m1 l1)
theorem oppL_len (m : Int) (t : List (List Int)) (m1 : Int) (l1 : List Int) : (oppL m t m1 l1).2.1.length ≤ 1048576 := by
  unfold oppL
  by_cases h : codeS1 m t m1 l1 = 0
  · rw [if_pos h]
    obtain ⟨-, rfl, d, e, -, -, -, s1, -⟩ := codeS1_ok h
    have := (oppC_ok (t := t) s1).len
    have := s1.d2
    rw [e, Nat.add_sub_cancel]
    dsimp only
    omega
  · rw [if_neg h]; exact Nat.zero_le _
def difL (m : Int) (t : List (List Int)) (m1 : Int) (l1 : List Int) (m2 : Int) (l2 : List Int) : Int × List Int × Int :=
  if codeS2 m t m1 l1 m2 l2 = 0 then (m, Pl.putL m (t.length - 1) (Pl.pc t) l1 (oppC m (t.length - 1) t l2), 0) else (0, [], codeS2 m t m1 l1 m2 l2)
theorem difL_len (m : Int) (t : List (List Int)) (m1 : Int) (l1 : List Int) (m2 : Int) (l2 : List Int) : (difL m t m1 l1 m2 l2).2.1.length ≤ 1048576 := by
  unfold difL
  by_cases h : codeS2 m t m1 l1 m2 l2 = 0
  · rw [if_pos h]
    obtain ⟨_, _, _, d, e, _, _, ok, _⟩ := codeS2_ok h
    have := ok.d2
    dsimp only
    rw [Pl.putL_length]; omega
  · rw [if_neg h]; exact Nat.zero_le _
end Go.Proofs.YtfhdgcndiljjcaaGreatDoor

/- Contracts of MultipleUnder and MultipleOf, of the program and of the model. -/
namespace Go.Proofs.YtfhdgcndiljjcaaGreatDoor
open Go.RowKit Go.WideShapes Go.ChangeShapes Go.ChangeAt

/-- the models of MultipleUnder and MultipleOf -/
def mulUL (m : Int) (t : List (List Int)) (k : Int) (m1 : Int) (l1 : List Int) : Int × List Int × Int :=
  if codeS1 m t m1 l1 = 0 then (if inB k (-1000000) 1000000 = true then (m, mulC m (t.length - 1) t k l1, 0) else (0, [], 2)) else (0, [], codeS1 m t m1 l1)
theorem mulUL_len (m : Int) (t : List (List Int)) (k : Int) (m1 : Int) (l1 : List Int) : (mulUL m t k m1 l1).2.1.length ≤ 1048576 := by
  unfold mulUL
  by_cases h : codeS1 m t m1 l1 = 0
  · rw [if_pos h]
    obtain ⟨-, rfl, d, e, -, ok, hf, s1, z1⟩ := codeS1_ok h
    have := (mulC_cv ok (Pl.norm_law hf ok) k ⟨s1, z1⟩).1.len
    have := s1.d2
    by_cases h2 : inB k (-1000000) 1000000 = true
    · rw [if_pos h2, e, Nat.add_sub_cancel]; dsimp only; omega
    · rw [if_neg h2]; exact Nat.zero_le _
  · rw [if_neg h]; exact Nat.zero_le _
def mulOL (m : Int) (t : List (List Int)) (k : Int) : Int × List Int × Int :=
  if isL m t = true then (if inB k (-1000000) 1000000 = true then (m, mulC m (t.length - 1) t k (Pl.lin m (t.length - 1) 1), 0) else (0, [], 2)) else (0, [], 1)
theorem mulOL_len (m : Int) (t : List (List Int)) (k : Int) : (mulOL m t k).2.1.length ≤ 1048576 := by
  unfold mulOL
  by_cases h : isL m t = true
  · rw [if_pos h]
    obtain ⟨-, d, e, ok, hf⟩ := isL_of h
    have := (mulC_cv ok (Pl.norm_law hf ok) k (lin_cv ok 1)).1.len
    have := ok.d2
    by_cases h2 : inB k (-1000000) 1000000 = true
    · rw [if_pos h2, e, Nat.add_sub_cancel]; dsimp only; omega
    · rw [if_neg h2]; exact Nat.zero_le _
  · rw [if_neg h]; exact Nat.zero_le _
set_option maxHeartbeats 4000000 in
set_option maxRecDepth 100000 in
theorem l04Of_any (m : Int) (d : Nat) (A : Option Addr) (c : Nat) (t : List (List Int)) (k : Int) (w : World) (hs : Pl.Ok m d t) (hf : Pl.fau m d (Pl.pc t) = none) (hn1 : -1000000 ≤ k) (hn2 : k ≤ 1000000) (hr : RP w A t) :
    Calls Tryz.prog 42 #[.agg #[.int .i64 m, .slice A t.length c], .int .i64 k] w fun e w' => ∃ v, e = .returned v ∧ OwnI w' w.heap.size v (mulC m d t k (Pl.lin m d 1)) ∧ Below w.heap.size w w' := by
  obtain ⟨W, hW, b1, hwb⟩ := start1 28 w m A t.length c
  have B1 := Lib.hid b1
  have HB := Lib.hid hwb
  have HW := Lib.hid hW
  have hd2 := hs.d2
  have hd1 := hs.d1
  have hln := hs.len
  have hmk : ∀ W : World, (Instr.makeSlice 32 (.int .i64 ((d + 1 : Nat) : Int)) (.int .i64 ((d + 1 : Nat) : Int))).run Tryz.prog W = .ok (.slice (some ⟨W.heap.size, 0, none⟩) (d + 1) (d + 1)) (W.alloc (.cells (madeCells #[.int .i64 0] (d + 1)) 2)) := by
    intro W
    exact run_make_row' (P := Tryz.prog) 32 2 (.int .i64 0) 8 Tryz.underlying32 info64 rfl .i64 .i64 (d + 1) (by omega) (by omega) W
  have hmk2 : ∀ W : World, (Instr.makeSlice 32 (.int .i64 ((d : Int) + 1)) (.int .i64 ((d : Int) + 1))).run Tryz.prog W = .ok (.slice (some ⟨W.heap.size, 0, none⟩) (d + 1) (d + 1)) (W.alloc (.cells (madeCells #[.int .i64 0] (d + 1)) 2)) := by
    intro W
    have := hmk W
    rwa [show ((d + 1 : Nat) : Int) = (d : Int) + 1 by omega] at this
  have HM := Lib.hid (fun W0 (h : Below W.heap.size W W0) A1 c1 (h1 : RI W0 A1 (Pl.lin m d 1)) => l04Multiple_any m d A c t k A1 c1 (Pl.lin m d 1) W0 hs hf (lin_cv hs 1) hn1 hn2 ((hr.below hwb).below h) h1)
  have hll : (Pl.lin m d 1).length = d + 1 := Ser.cut_length _ _ _
  obtain ⟨R, hR⟩ : ∃ R, mulC m d t k (Pl.lin m d 1) = R := ⟨_, rfl⟩
  rw [hR] at HM ⊢
  have hset0 := lin_listP m d hs.m1 hd1
  obtain ⟨Z, hZ⟩ : ∃ Z, Pl.lin m d 1 = Z := ⟨_, rfl⟩
  rw [hZ] at HM hll hset0
  rw [hll] at HM
  have HSET := Lib.hid hset0
  rw [hln] at HM HW B1 ⊢
  have hWs : w.heap.size + 1 = W.heap.size := by rw [← HW.out]; simp
  have ho := OwnI.made W (d + 1) (by unfold maxLen; omega)
  obtain ⟨-, -, o3, o4⟩ := ho.cells
  have q1 := o3 1 (by simp; omega)
  have q2 := o4 1
  have q3 : (List.replicate (d + 1) (0 : Int))[1]?.getD 0 = 0 := by rw [List.getElem?_replicate]; split <;> rfl
  rw [q3, ← hWs, ← HW.out] at q1
  rw [← hWs, ← HW.out] at q2
  have hset := ho.set 1 1
  rw [HSET.out, World.setCell_alloc_at _ _ _ _ _ rfl] at hset
  have hset2 : OwnI (W.alloc (.cells ((madeCells #[.int .i64 0] (d + 1)).setIfInBounds 1 (.int .i64 1)) 2)) W.heap.size (.slice (some ⟨w.heap.size + 1, 0, none⟩) (d + 1) (d + 1)) Z := by rw [hWs]; exact hset
  have HO2 := Lib.hid hset2
  have HB2 := Lib.hid (below_one W (.cells ((madeCells #[.int .i64 0] (d + 1)).setIfInBounds 1 (.int .i64 1)) 2))
  have HWS := Lib.hid hWs
  have z1 : 1 < d + 1 := by omega
  have z2 : (1 : Int) < (d : Int) + 1 := by omega
  obtain ⟨x1, x2, -⟩ := B1.out.keep HB2.out
  rw [← HW.out] at x1 x2
  clear b1 hwb hW hr hs hf hR hZ hll hset0 ho hset hset2 hn1 hn2 hln hWs o3 o4 q3
  go_enter Tryz.func42, Tryz.ntmps42
  go_wp2_with fail
  rw [HW.out]
  refine (HM.out _ HB2.out _ _ HO2.out.ri).mono ?_
  rintro e w3 ⟨s, rfl, ho, hb3⟩
  have F2 := Lib.hid (ho.more (b' := w.heap.size) (by have := HB.out.size; have := HB2.out.size; omega))
  have F3 := Lib.hid (below_step HB.out (below_step HB2.out hb3))
  clear ho hb3 x1 x2 q1 q2
  go_wp2
  go_ret
  exact ⟨_, rfl, F2.out, F3.out⟩
end Go.Proofs.YtfhdgcndiljjcaaGreatDoor

/- Plain number theory: what trial division tells. No program in sight. -/
namespace Go.Proofs.YtfhdgcndiljjcaaGreatDoor
namespace Num

/-- n is a prime number -/
def prB (n : Int) : Bool := decide (1 < n ∧ ∀ d : Nat, d < n.toNat → 2 ≤ d → ¬ (d : Int) ∣ n)
theorem prB_iff (n : Int) : prB n = true ↔ 1 < n ∧ ∀ d : Nat, d < n.toNat → 2 ≤ d → ¬ (d : Int) ∣ n := by unfold prB; exact decide_eq_true_iff
theorem prB_small {n : Int} (h : n < 4) : prB n = decide (1 < n) := by
  rw [Bool.eq_iff_iff, prB_iff, decide_eq_true_iff]
  constructor
  · exact fun h => h.1
  · refine fun h1 => ⟨h1, fun d h2 h3 h4 => ?_⟩
    obtain ⟨rfl, rfl⟩ : d = 2 ∧ n = 3 := by omega
    omega
theorem prB_no {n : Int} (d : Nat) (h1 : 2 ≤ d) (h2 : (d : Int) < n) (h3 : n % (d : Int) = 0) : prB n = false := by
  rw [← Bool.not_eq_true, prB_iff]
  exact fun h => h.2 d (by omega) h1 (Int.dvd_of_emod_eq_zero h3)

/-- no divisor of n from 2 on lies below d -/
def LowI (d : Nat) (n : Int) : Prop := ∀ e : Nat, 2 ≤ e → e < d → ¬ (e : Int) ∣ n
theorem LowI.two (n : Int) : LowI 2 n := fun e h1 h2 => by omega
theorem LowI.succ {d : Nat} {n : Int} (h : LowI d n) (hn : ¬ n % (d : Int) = 0) : LowI (d + 1) n := by
  intro e h1 h2
  rcases (show e < d ∨ e = d by omega) with c | rfl
  · exact h e h1 c
  · exact fun h3 => hn (Int.emod_eq_zero_of_dvd h3)
theorem LowI.prime {d : Nat} {n : Int} (h : LowI d n) (hn : 1 < n) (hd : n < (d : Int) * d) : prB n = true := by
  refine (prB_iff n).2 ⟨hn, fun e h1 h2 h3 => ?_⟩
  obtain ⟨N, rfl⟩ := Int.eq_ofNat_of_zero_le (show 0 ≤ n by omega)
  have h3' : e ∣ N := Int.natCast_dvd_natCast.1 h3
  obtain ⟨f, hf⟩ := h3'
  have hd' : N < d * d := by rw [← Int.natCast_mul] at hd; omega
  have hde : d ≤ e := by
    apply Nat.le_of_not_lt
    intro hlt
    exact h e h2 hlt h3
  have hf2 : 2 ≤ f := by
    apply Nat.le_of_not_lt
    intro hlt
    have : f = 0 ∨ f = 1 := by omega
    rcases this with rfl | rfl <;> simp at hf <;> omega
  have hdf : d ≤ f := by
    apply Nat.le_of_not_lt
    intro hlt
    exact h f hf2 hlt (Int.natCast_dvd_natCast.2 ⟨e, by rw [hf, Nat.mul_comm]⟩)
  have := Nat.mul_le_mul hde hdf
  omega
theorem LowI.start {n : Int} (h2 : ¬ n % 2 = 0) (h3 : ¬ n % 3 = 0) : LowI 5 n := by
  intro e h1 h4 h5
  have := Int.emod_eq_zero_of_dvd h5
  rcases (show e = 2 ∨ e = 3 ∨ e = 4 by omega) with rfl | rfl | rfl <;> omega
theorem LowI.six {m : Nat} {n : Int} (h : LowI (m - 1) n) (hm : 6 ≤ m) (h6 : m % 6 = 0) (ha : ¬ n % ((m : Int) - 1) = 0) (hb : ¬ n % ((m : Int) + 1) = 0) : LowI (m + 5) n := by
  intro e h1 h2 h3
  have hz := Int.emod_eq_zero_of_dvd h3
  rcases (show e < m - 1 ∨ e = m - 1 ∨ e = m + 1 ∨ e % 2 = 0 ∨ e % 3 = 0 by omega) with c | rfl | rfl | c | c
  · exact h e h1 c h3
  · apply ha
    rw [← hz]; congr 1; omega
  · apply hb
    rw [← hz]; congr 1
  · refine h 2 (by omega) (by omega) (Int.dvd_trans ?_ h3)
    exact Int.natCast_dvd_natCast.2 (Nat.dvd_of_mod_eq_zero c)
  · refine h 3 (by omega) (by omega) (Int.dvd_trans ?_ h3)
    exact Int.natCast_dvd_natCast.2 (Nat.dvd_of_mod_eq_zero c)
theorem sq_le {d c : Int} (h0 : 0 ≤ d) (h : d ≤ c) : 0 ≤ d * d ∧ d * d ≤ c * c :=
  ⟨Int.mul_nonneg h0 h0, Int.mul_le_mul h h h0 (by omega)⟩
theorem lin_sq {d k : Int} (h0 : 0 ≤ d) (h : k ≤ d) : k * d ≤ d * d := Int.mul_le_mul_of_nonneg_right h h0

end Num
end Go.Proofs.YtfhdgcndiljjcaaGreatDoor

/- Contracts of the two trial divisions. -/
namespace Go.Proofs.YtfhdgcndiljjcaaGreatDoor
open Go.RowKit Go.WideShapes Go.ChangeShapes Go.ChangeAt

theorem idx0 (x y : Value) (w : World) : (Instr.index 136 (.agg #[x, y]) (.int .i64 0)).run Tryz.prog w = .ok x w := by kernel_rfl
theorem idx1 (x y : Value) (w : World) : (Instr.index 136 (.agg #[x, y]) (.int .i64 1)).run Tryz.prog w = .ok y w := by kernel_rfl

set_option maxHeartbeats 1000000 in
theorem isPrime_any (n : Int) (w : World) (h2 : n ≤ 1000000000000) :
    Calls Tryz.prog 71 #[.int .i64 n] w fun e w' => e = .returned (.bool (Num.prB n)) ∧ w = w' := by
  by_cases h4 : n < 4
  · have HF := Lib.hid (Num.prB_small h4)
    go_enter Tryz.func71, Tryz.ntmps71
    go_wp2
    go_step3
    go_wp2
    rw [Exit.noGoto_ret]
    go_ret
    exact ⟨ret_bool (by rw [HF.out]), rfl⟩
  · have i0 := idx0
    have i1 := idx1
    by_cases hz2 : n % 2 = 0
    · have HF := Lib.hid (Num.prB_no (n := n) 2 (by omega) (by omega) hz2)
      go_enter Tryz.func71, Tryz.ntmps71
      go_wp2
      go_step3
      go_wp2
      go_step3
      go_wp2
      refine wp_loop_rounds 1 ?_
      rw [rounds_succ]
      go_wp2
      rw [Exit.noGoto_ret]
      go_ret
      exact ⟨ret_bool HF.out.symm, rfl⟩
    · by_cases hz3 : n % 3 = 0
      · have HF := Lib.hid (Num.prB_no (n := n) 3 (by omega) (by omega) hz3)
        go_enter Tryz.func71, Tryz.ntmps71
        go_wp2
        go_step3
        go_wp2
        go_step3
        go_wp2
        refine wp_loop_rounds 1 ?_
        rw [rounds_succ]
        go_wp2
        rw [Exit.noGoto_ret]
        go_ret
        exact ⟨ret_bool HF.out.symm, rfl⟩
      · have HS := Lib.hid (Num.LowI.start hz2 hz3)
        have HP := Lib.hid (show (n % 2 != 0 && n % 3 != 0) = true by simp [hz2, hz3])
        go_enter Tryz.func71, Tryz.ntmps71
        go_wp2
        go_step3
        go_wp2
        go_step3
        go_wp2
        clear hz2 hz3
        go_loopg [3, 4] 1000100 (fun g p m wr => w = wr ∧ ∃ M : Nat, p = .bool true ∧ m = .int .i64 M ∧ 6 ≤ M ∧ M ≤ 1000008 ∧ M % 6 = 0 ∧ g + M = 1000106 ∧ Num.LowI (M - 1) n)
        case atStart => exact ⟨rfl, 6, by rw [HP.out], rfl, by omega, by omega, by omega, by omega, HS.out⟩
        case round =>
          obtain ⟨rfl, M, rfl, rfl, m1, m2, m6, hg, hlow⟩ := hrel
          have HL := Lib.hid hlow
          have HG := Lib.hid hg
          have H6 := Lib.hid m6
          clear hlow hg m6
          obtain ⟨p1, p2⟩ := Num.sq_le (d := (M : Int) - 1) (c := 1000007) (by omega) (by omega)
          have p3 : ((M : Int) - 1) * (M - 1) ≤ 1000014000049 := by omega
          clear p2
          by_cases hsq : ((M : Int) - 1) * (M - 1) ≤ n
          · have hlin := Num.lin_sq (d := (M : Int) - 1) (k := 5) (by omega) (by omega)
            by_cases ha : n % ((M : Int) - 1) = 0
            · have HF := Lib.hid (Num.prB_no (n := n) (M - 1) (by omega) (by omega) (by rw [← ha]; congr 1; omega))
              have ha' : (n % ((M : Int) - 1) == 0) = true := by simpa using ha
              clear ha
              go_wp2
              refine wp_loop_rounds 3 ?_
              rw [rounds_succ]
              go_wp2
              rw [Exit.noGoto_ret]
              go_ret
              exact ⟨ret_bool HF.out.symm, rfl⟩
            · have ha' : (n % ((M : Int) - 1) == 0) = false := by simpa using ha
              by_cases hb : n % ((M : Int) + 1) = 0
              · have HF := Lib.hid (Num.prB_no (n := n) (M + 1) (by omega) (by omega) (by rw [← hb]; congr 1))
                have hb' : (n % ((M : Int) + 1) == 0) = true := by simpa using hb
                clear ha hb
                go_wp2
                refine wp_loop_rounds 3 ?_
                rw [rounds_succ]
                go_wp2
                rw [rounds_succ]
                go_wp2
                rw [Exit.noGoto_ret]
                go_ret
                exact ⟨ret_bool HF.out.symm, rfl⟩
              · have HN := Lib.hid (Num.LowI.six HL.out m1 H6.out ha hb)
                have hb' : (n % ((M : Int) + 1) == 0) = false := by simpa using hb
                have hM : M ≤ 1000002 := by
                  apply Nat.le_of_not_lt; intro hlt
                  have := Num.sq_le (d := 1000002) (c := (M : Int) - 1) (by omega) (by omega)
                  omega
                clear ha hb
                go_wp2
                refine wp_loop_rounds 3 ?_
                rw [rounds_succ]
                go_wp2
                rw [rounds_succ]
                go_wp2
                rw [rounds_succ]
                go_wp2
                have hG := HG.out
                go_roundg (gk - 6)
                case measure => omega
                case rel => exact ⟨rfl, M + 6, by first | rfl | rw [HP.out], by go_num, by omega, by omega, by have := H6.out; omega, by omega, HN.out⟩
          · have HF := Lib.hid (Num.LowI.prime (d := M - 1) HL.out (by omega) (by rw [show ((M - 1 : Nat) : Int) = (M : Int) - 1 from by omega]; omega))
            go_wp2
            go_ret
            exact ⟨ret_bool HF.out.symm, rfl⟩

end Go.Proofs.YtfhdgcndiljjcaaGreatDoor

/- Contracts of the codes of chapter 9: a prime number, a modulus, parameters. -/
namespace Go.Proofs.YtfhdgcndiljjcaaGreatDoor
open Go.RowKit Go.WideShapes Go.ChangeShapes Go.ChangeAt

/-- one of the four primes -/
def isP4 (p : Int) : Bool := decide (p = 2 ∨ p = 3 ∨ p = 5 ∨ p = 7)
theorem isP4_iff (p : Int) : isP4 p = true ↔ p = 2 ∨ p = 3 ∨ p = 5 ∨ p = 7 := by simp [isP4]
theorem isP4_prB {p : Int} (h : p ≤ 7) : Num.prB p = isP4 p := by
  by_cases h0 : p < 4
  · rw [Num.prB_small h0, Bool.eq_iff_iff, decide_eq_true_iff, isP4_iff]; omega
  · rcases (show p = 4 ∨ p = 5 ∨ p = 6 ∨ p = 7 by omega) with rfl | rfl | rfl | rfl <;> decide
theorem isTypicalPrime_any (p : Int) (w : World) :
    Calls Tryz.prog 57 #[.int .i64 p] w fun e w' => e = .returned (.bool (isP4 p)) ∧ w = w' := by
  by_cases h : p ≤ 7
  · have HP := Lib.hid (isP4_prB h)
    have h2 : p ≤ 1000000000000 := by omega
    go_enter Tryz.func57, Tryz.ntmps57
    go_wp2_with (go_at_call 71; refine (isPrime_any _ _ h2).mono ?_; rintro e w' ⟨rfl, rfl⟩)
    go_ret
    exact ⟨ret_bool HP.out, rfl⟩
  · have HP := Lib.hid (show isP4 p = false by rw [← Bool.not_eq_true, isP4_iff]; omega)
    go_enter Tryz.func57, Tryz.ntmps57
    go_wp2
    go_ret
    exact ⟨ret_bool HP.out.symm, rfl⟩
/-- the code of a prime number, a modulus and parameters, of which there are at least so many -/
def codeT (p m : Int) (l : List Int) (k : Nat) : Int :=
  if codeN m l = 0 then (if isP4 p = true ∧ k ≤ l.length ∧ l.length ≤ 3 then 0 else 2) else codeN m l
theorem codeT_ok {p m : Int} {l : List Int} {k : Nat} (h : codeT p m l k = 0) : (2 ≤ m ∧ m ≤ 10000) ∧ allIn 0 (m - 1) l = true ∧ (p = 2 ∨ p = 3 ∨ p = 5 ∨ p = 7) ∧ k ≤ l.length ∧ l.length ≤ 3 := by
  unfold codeT at h
  by_cases h0 : codeN m l = 0
  · rw [if_pos h0] at h
    unfold codeN at h0
    by_cases hm : isM m = true
    · rw [if_pos hm] at h0
      by_cases ha : allIn 0 (m - 1) l = true
      · by_cases hp : isP4 p = true ∧ k ≤ l.length ∧ l.length ≤ 3
        · exact ⟨(isM_iff m).1 hm, ha, (isP4_iff p).1 hp.1, hp.2⟩
        · rw [if_neg hp] at h; omega
      · rw [if_neg ha] at h0; omega
    · rw [if_neg hm] at h0; omega
  · rw [if_neg h0] at h; exact absurd h h0
theorem codeN_cases (m : Int) (l : List Int) : codeN m l = 0 ∨ codeN m l = 1 ∨ codeN m l = 2 := by
  unfold codeN; split <;> (try split) <;> simp
theorem codeT_cases (p m : Int) (l : List Int) (k : Nat) : codeT p m l k = 0 ∨ codeT p m l k = 1 ∨ codeT p m l k = 2 := by
  unfold codeT
  split
  · split <;> simp
  · exact codeN_cases m l

end Go.Proofs.YtfhdgcndiljjcaaGreatDoor

