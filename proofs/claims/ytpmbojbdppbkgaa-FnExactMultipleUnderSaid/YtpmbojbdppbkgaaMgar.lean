/- Texts of contracts, joined. -/
import Derived.Test.YtpmbojbdppbkgaaMgae
import Derived.Test.YtpmbojbdppbkgaaMgap
/- Contract of repeated doubling with an operation that is a function value. -/
namespace Go.Proofs.Ytpmbojbdppbkgaa
open Go.RowKit Go.WideShapes Go.ChangeShapes Go.ChangeAt

namespace Ser
/-- the steps of doubling: number left, result, double -/
def repS (op : List Int → List Int → List Int) (k : Nat) (p s : List Int) : List Int :=
  if _h : k = 0 then p else repS op (k / 2) (if k % 2 = 1 then op p s else p) (op s s)
termination_by k
decreasing_by omega
theorem repS_zero (op : List Int → List Int → List Int) (p s : List Int) : repS op 0 p s = p := by rw [repS]; simp
theorem repS_odd (op : List Int → List Int → List Int) {k : Nat} (p s : List Int) (h : k % 2 = 1) : repS op k p s = repS op (k / 2) (op p s) (op s s) := by rw [repS, dif_neg (by omega), if_pos h]
theorem repS_even (op : List Int → List Int → List Int) {k : Nat} (p s : List Int) (h0 : k ≠ 0) (h : ¬ k % 2 = 1) : repS op k p s = repS op (k / 2) p (op s s) := by rw [repS, dif_neg h0, if_neg h]
theorem repS_pow (m : Int) (d : Nat) : ∀ (k : Nat) (p s : List Int), repS (mulL m d) k p s = powS m d k p s := by
  intro k
  induction k using Nat.strongRecOn with
  | ind k ih =>
    intro p s
    by_cases h0 : k = 0
    · subst h0; rw [repS_zero, powS_zero]
    · by_cases h : k % 2 = 1
      · rw [repS_odd _ _ _ h, powS_odd _ _ _ _ h]; exact ih _ (by omega) _ _
      · rw [repS_even _ _ _ h0 h, powS_even _ _ _ _ h0 h]; exact ih _ (by omega) _ _
theorem repS_keep (op : List Int → List Int → List Int) (Q : List Int → Prop) (hop : ∀ p s, Q p → Q s → Q (op p s)) : ∀ (k : Nat) (p s : List Int), Q p → Q s → Q (repS op k p s) := by
  intro k
  induction k using Nat.strongRecOn with
  | ind k ih =>
    intro p s hp hs
    by_cases h0 : k = 0
    · subst h0; rw [repS_zero]; exact hp
    · by_cases h : k % 2 = 1
      · rw [repS_odd _ _ _ h]; exact ih _ (by omega) _ _ (hop _ _ hp hs) (hop _ _ hs hs)
      · rw [repS_even _ _ _ h0 h]; exact ih _ (by omega) _ _ hp (hop _ _ hs hs)
end Ser

/-- the variables of a repeated operation: two boxes, the result's variable, the running result, the double -/
theorem rpt_pro (w : World) (m : Int) (A0 : Option Addr) (n0 c0 : Nat) (A : Option Addr) (n c : Nat) : ∃ W, ((((w.alloc (.cells #[.int .i64 m, .slice A0 n0 c0] 28)).alloc (.cells #[.int .i64 m, .slice A n c] 28)).alloc (.cells #[.int .i64 0, .slice none 0 0] 28)).alloc (.cells #[.int .i64 m, .slice A0 n0 c0] 28)).alloc (.cells #[.int .i64 m, .slice A n c] 28) = W ∧
    Var2 W (w.heap.size + 1 + 1) (.int .i64 0) (.slice none 0 0) ∧ Var2 W (w.heap.size + 1 + 1 + 1) (.int .i64 m) (.slice A0 n0 c0) ∧ Var2 W (w.heap.size + 1 + 1 + 1 + 1) (.int .i64 m) (.slice A n c) ∧ Below w.heap.size w W := by
  refine ⟨_, rfl, ?_, ?_, ?_, below_alloc _ (below_alloc _ (below_alloc _ (below_alloc _ (below_one _ _))))⟩
  · have := ((Var2.new ((w.alloc (.cells #[.int .i64 m, .slice A0 n0 c0] 28)).alloc (.cells #[.int .i64 m, .slice A n c] 28)) (.int .i64 0) (.slice none 0 0)).keep (below_one _ (.cells #[.int .i64 m, .slice A0 n0 c0] 28))).keep (below_one _ (.cells #[.int .i64 m, .slice A n c] 28))
    simpa using this
  · have := (Var2.new (((w.alloc (.cells #[.int .i64 m, .slice A0 n0 c0] 28)).alloc (.cells #[.int .i64 m, .slice A n c] 28)).alloc (.cells #[.int .i64 0, .slice none 0 0] 28)) (.int .i64 m) (.slice A0 n0 c0)).keep (below_one _ (.cells #[.int .i64 m, .slice A n c] 28))
    simpa using this
  · have := Var2.new ((((w.alloc (.cells #[.int .i64 m, .slice A0 n0 c0] 28)).alloc (.cells #[.int .i64 m, .slice A n c] 28)).alloc (.cells #[.int .i64 0, .slice none 0 0] 28)).alloc (.cells #[.int .i64 m, .slice A0 n0 c0] 28)) (.int .i64 m) (.slice A n c)
    simpa using this
set_option maxHeartbeats 8000000 in
set_option maxRecDepth 100000 in
theorem repeated_any (m : Int) (d fn : Nat) (bnd : Array Value) (op : List Int → List Int → List Int) (Q : List Int → Prop) (K : Nat) (A0 : Option Addr) (c0 : Nat) (L0 : List Int) (A : Option Addr) (c : Nat) (l : List Int) (lo : Nat) (w : World) (hK : K ≤ 1000000) (hlo : lo ≤ w.heap.size)
    (hok : ∀ P, Q P → SerOk m d P) (hop : ∀ P S, Q P → Q S → Q (op P S)) (q0 : Q L0) (q1 : Q l) (ho : OwnI w lo (.slice A0 L0.length c0) L0) (hr : RI w A l)
    (hen : ∀ (a b : Value) (W : World), (callFunc fn (bnd ++ #[a, b])).run Try.prog W = .ok (.enter fn (bnd ++ #[a, b])) W)
    (hf : ∀ (P S : List Int) (Ap : Option Addr) (cp : Nat) (As : Option Addr) (cs : Nat) (W : World), Q P → Q S → Below w.heap.size w W → RI W Ap P → RI W As S → Calls Try.prog fn (bnd ++ #[.agg #[.int .i64 m, .slice Ap P.length cp], .agg #[.int .i64 m, .slice As S.length cs]]) W fun e w' => ∃ v, e = .returned (.agg #[.int .i64 m, v]) ∧ OwnI w' W.heap.size v (op P S) ∧ Below W.heap.size W w') :
    Calls Try.prog 134 #[.func (.func fn) bnd #[], .agg #[.int .i64 m, .slice A0 L0.length c0], .agg #[.int .i64 m, .slice A l.length c], .int .i64 K] w fun e w' => ∃ v, e = .returned (.agg #[.int .i64 m, v]) ∧ OwnI w' lo v (Ser.repS op K L0 l) ∧ Below w.heap.size w w' := by
  obtain ⟨W, hW, v8, v9, v10, hwb⟩ := rpt_pro w m A0 L0.length c0 A l.length c
  have HF := Lib.hid hf
  have HOP := Lib.hid hop
  have HOK := Lib.hid hok
  have V8 := Lib.hid v8
  have V9 := Lib.hid v9
  have V10 := Lib.hid v10
  have HB := Lib.hid hwb
  have HW := Lib.hid hW
  have HO := Lib.hid (ho.keep (hwb.mono (Nat.le_refl _)))
  have HR := Lib.hid (hr.below hwb)
  have Q0 := Lib.hid q0
  have Q1 := Lib.hid q1
  obtain ⟨R, hR⟩ : ∃ R, Ser.repS op K L0 l = R := ⟨_, rfl⟩
  have HRR := Lib.hid hR
  rw [hR]
  clear hW v8 v9 v10 hwb hR ho hr q0 q1 hf hop hok
  go_enter Try.func134, Try.ntmps134
  go_wp2
  rw [HW.out]
  go_loopw [3, 10] (fun s3 s10 wr => ∃ (kk : Nat) (P S : List Int) (g10 : Nat) (Ap : Option Addr) (cp : Nat) (As : Option Addr) (cs : Nat), s3 = .int .i64 kk ∧ s10 = .pointer (some ⟨g10, 0, none⟩) ∧ kk ≤ 1000000 ∧ Ser.repS op kk P S = R ∧ Q P ∧ Q S ∧
    Var2 wr (w.heap.size + 1 + 1 + 1) (.int .i64 m) (.slice Ap P.length cp) ∧ OwnI wr lo (.slice Ap P.length cp) P ∧ Var2 wr g10 (.int .i64 m) (.slice As S.length cs) ∧ RI wr As S ∧ Var2 wr (w.heap.size + 1 + 1) (.int .i64 0) (.slice none 0 0) ∧ Below w.heap.size w wr ∧ w.heap.size + 1 + 1 + 1 < g10) (fun s3 _ _ => (intOf s3).toNat)
  case atStart => exact ⟨K, L0, l, _, A0, c0, A, c, rfl, rfl, hK, HRR.out, Q0.out, Q1.out, V9.out, HO.out, V10.out, HR.out, V8.out, HB.out, by omega⟩
  case round =>
    obtain ⟨kk, P, S, g10, Ap, cp, As, cs, rfl, rfl, hk9, hpw, sp, ss, vp, op', vs, rs, vr, hbl, hg⟩ := hrel
    have HPW := Lib.hid hpw
    have SP := Lib.hid sp
    have SS := Lib.hid ss
    have VP := Lib.hid vp
    have OP := Lib.hid op'
    have VS := Lib.hid vs
    have RS := Lib.hid rs
    have VR := Lib.hid vr
    have HBB := Lib.hid hbl
    clear hpw sp ss vp op' vs rs vr hbl V8 V9 V10 HB HO HR Q0 Q1 HRR HW
    by_cases hz : kk = 0
    · subst hz
      have hr := HPW.out
      rw [Ser.repS_zero] at hr
      subst hr
      have z1 := VP.out.c0
      have z2 := VP.out.c1
      have z3 := VR.out.c0
      have z4 := VR.out.c1
      have z5 := VR.out.fz 0
      have z6 := VR.out.fz 1
      have f2 := (VR.out.set2 (.int .i64 m) (.slice Ap P.length cp))
      have F1 := f2.c0
      have F2 := f2.c1
      have F3 := Lib.hid (OP.out.set2 VR.out (.int .i64 m) (.slice Ap P.length cp))
      have F4 := Lib.hid (below_set2 HBB.out (by omega : w.heap.size ≤ w.heap.size + 1 + 1) (.int .i64 m) (.slice Ap P.length cp))
      unfold set2 at F1 F2 F3 F4
      clear f2
      go_wp2
      exact bodyPost_ret (v := .agg #[.int .i64 m, .slice Ap P.length cp]) (by simp [results, Try.results134, go_sem, F1, F2]) rfl ⟨_, rfl, F3.out, F4.out⟩
    · have hz2 : 0 < kk := by omega
      clear hz
      by_cases hodd : kk % 2 = 1
      · have HN := Lib.hid (Ser.repS_odd op P S hodd)
        have i1 : ((kk : Int)).tmod 2 = 1 := by rw [Int.tmod_eq_emod_of_nonneg (by omega)]; omega
        have i2 : ((kk : Int)).tdiv 2 = ((kk / 2 : Nat) : Int) := by rw [Int.tdiv_eq_ediv_of_nonneg (by omega)]; omega
        obtain ⟨y1, y2⟩ := (⟨VP.out.c0, VP.out.c1⟩ : _ ∧ _)
        obtain ⟨y3, y4⟩ := (⟨VS.out.c0, VS.out.c1⟩ : _ ∧ _)
        go_wp2_with fail
        refine (HF.out P S Ap cp As cs _ SP.out SS.out HBB.out OP.out.ri RS.out).mono ?_
        rintro e w3 ⟨s3, rfl, ho3, hb3⟩
        obtain ⟨A3, c3, rfl, -⟩ := ho3.form
        have sp2 := HOP.out P S SP.out SS.out
        obtain ⟨P2, hP2⟩ : ∃ P2, op P S = P2 := ⟨_, rfl⟩
        rw [hP2] at ho3 HN sp2 ⊢
        have SP2 := Lib.hid sp2
        have vp3 := VP.out.keep hb3
        have q5 := vp3.c0
        have q6 := vp3.c1
        have q7 := vp3.fz 0
        have q8 := vp3.fz 1
        clear y1 y2 y3 y4
        obtain ⟨X, hX⟩ : ∃ X, set2 w3 (w.heap.size + 1 + 1 + 1) (.int .i64 m) (.slice A3 P2.length c3) = X := ⟨_, rfl⟩
        have VPx := Lib.hid (show Var2 X (w.heap.size + 1 + 1 + 1) (.int .i64 m) (.slice A3 P2.length c3) by rw [← hX]; exact vp3.set2 _ _)
        have OPx := Lib.hid (show OwnI X lo (.slice A3 P2.length c3) P2 by rw [← hX]; exact (ho3.set2 vp3 _ _).more (Nat.le_trans hlo HBB.out.size))
        have vsx : Var2 X g10 (.int .i64 m) (.slice As S.length cs) := by rw [← hX]; exact (VS.out.keep hb3).set2' (by omega) _ _
        have VSx := Lib.hid vsx
        have RSx := Lib.hid (show RI X As S by rw [← hX]; exact (RS.out.below hb3).set2 vp3 (by have := (HOK.out S SS.out).len; have := (HOK.out S SS.out).d1; omega) _ _)
        have VRx := Lib.hid (show Var2 X (w.heap.size + 1 + 1) (.int .i64 0) (.slice none 0 0) by rw [← hX]; exact (VR.out.keep hb3).set2' (by omega) _ _)
        have HBx := Lib.hid (show Below w.heap.size w X by rw [← hX]; exact below_set2 (below_step HBB.out hb3) (by omega) _ _)
        have y3 := vsx.c0
        have y4 := vsx.c1
        rw [← hX] at y3 y4
        unfold set2 at y3 y4 hX
        have HX := Lib.hid hX
        clear ho3 hb3 hP2 vp3 vsx sp2 VP OP VS RS VR HBB hX
        go_wp2_with fail
        rw [HX.out]
        clear y3 y4 HX
        refine (HF.out S S As cs As cs _ SS.out SS.out HBx.out RSx.out RSx.out).mono ?_
        rintro e w5 ⟨s5, rfl, ho5, hb5⟩
        obtain ⟨A5, c5, rfl, -⟩ := ho5.form
        have ss2 := HOP.out S S SS.out SS.out
        obtain ⟨S2, hS2⟩ : ∃ S2, op S S = S2 := ⟨_, rfl⟩
        rw [hS2] at ho5 HN ss2 ⊢
        have vs5 := VSx.out.keep hb5
        have y5 := vs5.c0
        have y6 := vs5.c1
        have y7 := vs5.fz 0
        have y8 := vs5.fz 1
        have vs6 := vs5.set2 (.int .i64 m) (.slice A5 S2.length c5)
        have y9 := vs6.c0
        have y10 := vs6.c1
        have k1 := ((VPx.out.keep hb5).set2' (g' := g10) (by omega) (.int .i64 m) (.slice A5 S2.length c5)).keep (below_one _ (.cells #[.int .i64 m, .slice A5 S2.length c5] 28))
        have k2 := ((OPx.out.keep hb5).set2 vs5 (.int .i64 m) (.slice A5 S2.length c5)).keep (below_one _ (.cells #[.int .i64 m, .slice A5 S2.length c5] 28))
        have k3 := ((ho5.set2 vs5 (.int .i64 m) (.slice A5 S2.length c5)).keep (below_one _ (.cells #[.int .i64 m, .slice A5 S2.length c5] 28))).ri
        have k4 := ((VRx.out.keep hb5).set2' (g' := g10) (by omega) (.int .i64 m) (.slice A5 S2.length c5)).keep (below_one _ (.cells #[.int .i64 m, .slice A5 S2.length c5] 28))
        have k5 := below_step (below_set2 (below_step HBx.out hb5) (show w.heap.size ≤ g10 by omega) (.int .i64 m) (.slice A5 S2.length c5)) (below_one _ (.cells #[.int .i64 m, .slice A5 S2.length c5] 28))
        have k6 := Var2.new (set2 w5 g10 (.int .i64 m) (.slice A5 S2.length c5)) (.int .i64 m) (.slice A5 S2.length c5)
        rw [show (set2 w5 g10 (.int .i64 m) (.slice A5 S2.length c5)).heap.size = w5.heap.size by simp [set2, World.setCell]] at k6
        have k7 : w.heap.size + 1 + 1 + 1 < w5.heap.size := (VPx.out.keep hb5).lt
        have K1 := Lib.hid k1
        have K2 := Lib.hid k2
        have K3 := Lib.hid k3
        have K4 := Lib.hid k4
        have K5 := Lib.hid k5
        have K6 := Lib.hid k6
        have SS2 := Lib.hid ss2
        unfold set2 at y9 y10
        clear k1 k2 k3 k4 k5 k6 ss2 vs5 vs6 ho5 hb5 hS2
        go_wp2
        go_roundw
        case rel => exact ⟨kk / 2, P2, S2, _, A3, c3, A5, c5, by first | rfl | (rw [i2]) | (simp [i2]) | go_num, rfl, by omega, by rw [← HN.out]; exact HPW.out, SP2.out, SS2.out, K1.out, K2.out, K6.out, K3.out, K4.out, K5.out, k7⟩
        case measure => simp only [intOf]; omega
      · have HN := Lib.hid (Ser.repS_even op P S (by omega) hodd)
        have i1 : ¬ ((kk : Int)).tmod 2 = 1 := by rw [Int.tmod_eq_emod_of_nonneg (by omega)]; omega
        have i2 : ((kk : Int)).tdiv 2 = ((kk / 2 : Nat) : Int) := by rw [Int.tdiv_eq_ediv_of_nonneg (by omega)]; omega
        have i3 : ¬ ((kk : Int)) % 2 = 1 := by omega
        obtain ⟨n1, n2⟩ : (((kk : Int)) % 2 == 1) = false ∧ (((kk : Int)) % 2 != 1) = true := ⟨by simpa using i3, by simpa using i3⟩
        obtain ⟨y3, y4⟩ := (⟨VS.out.c0, VS.out.c1⟩ : _ ∧ _)
        have VPx := VP
        have OPx := OP
        have VSx := VS
        have RSx := RS
        have VRx := VR
        have HBx := HBB
        clear VP OP VS RS VR HBB hodd
        go_wp2_with fail
        clear y3 y4
        refine (HF.out S S As cs As cs _ SS.out SS.out HBx.out RSx.out RSx.out).mono ?_
        rintro e w5 ⟨s5, rfl, ho5, hb5⟩
        obtain ⟨A5, c5, rfl, -⟩ := ho5.form
        have ss2 := HOP.out S S SS.out SS.out
        obtain ⟨S2, hS2⟩ : ∃ S2, op S S = S2 := ⟨_, rfl⟩
        rw [hS2] at ho5 HN ss2 ⊢
        have vs5 := VSx.out.keep hb5
        have y5 := vs5.c0
        have y6 := vs5.c1
        have y7 := vs5.fz 0
        have y8 := vs5.fz 1
        have vs6 := vs5.set2 (.int .i64 m) (.slice A5 S2.length c5)
        have y9 := vs6.c0
        have y10 := vs6.c1
        have k1 := ((VPx.out.keep hb5).set2' (g' := g10) (by omega) (.int .i64 m) (.slice A5 S2.length c5)).keep (below_one _ (.cells #[.int .i64 m, .slice A5 S2.length c5] 28))
        have k2 := ((OPx.out.keep hb5).set2 vs5 (.int .i64 m) (.slice A5 S2.length c5)).keep (below_one _ (.cells #[.int .i64 m, .slice A5 S2.length c5] 28))
        have k3 := ((ho5.set2 vs5 (.int .i64 m) (.slice A5 S2.length c5)).keep (below_one _ (.cells #[.int .i64 m, .slice A5 S2.length c5] 28))).ri
        have k4 := ((VRx.out.keep hb5).set2' (g' := g10) (by omega) (.int .i64 m) (.slice A5 S2.length c5)).keep (below_one _ (.cells #[.int .i64 m, .slice A5 S2.length c5] 28))
        have k5 := below_step (below_set2 (below_step HBx.out hb5) (show w.heap.size ≤ g10 by omega) (.int .i64 m) (.slice A5 S2.length c5)) (below_one _ (.cells #[.int .i64 m, .slice A5 S2.length c5] 28))
        have k6 := Var2.new (set2 w5 g10 (.int .i64 m) (.slice A5 S2.length c5)) (.int .i64 m) (.slice A5 S2.length c5)
        rw [show (set2 w5 g10 (.int .i64 m) (.slice A5 S2.length c5)).heap.size = w5.heap.size by simp [set2, World.setCell]] at k6
        have k7 : w.heap.size + 1 + 1 + 1 < w5.heap.size := (VPx.out.keep hb5).lt
        have K1 := Lib.hid k1
        have K2 := Lib.hid k2
        have K3 := Lib.hid k3
        have K4 := Lib.hid k4
        have K5 := Lib.hid k5
        have K6 := Lib.hid k6
        have SS2 := Lib.hid ss2
        unfold set2 at y9 y10
        clear k1 k2 k3 k4 k5 k6 ss2 vs5 vs6 ho5 hb5 hS2
        go_wp2
        go_roundw
        case rel => exact ⟨kk / 2, P, S2, _, Ap, cp, A5, c5, by first | rfl | (rw [i2]) | (simp [i2]) | go_num, rfl, by omega, by rw [← HN.out]; exact HPW.out, SP.out, SS2.out, K1.out, K2.out, K6.out, K3.out, K4.out, K5.out, k7⟩
        case measure => simp only [intOf]; omega
end Go.Proofs.Ytpmbojbdppbkgaa

/- Contracts of the multiple of a curve under a law, of the program and of the model. -/
namespace Go.Proofs.Ytpmbojbdppbkgaa
open Go.RowKit Go.WideShapes Go.ChangeShapes Go.ChangeAt

/-- the multiple of a curve by a number, and by an integer -/
def mulK (m : Int) (d : Nat) (t : List (List Int)) (K : Nat) (l : List Int) : List Int := Ser.repS (Pl.putL m d (Pl.pc t)) K (Pl.lin m d 0) l
def mulC (m : Int) (d : Nat) (t : List (List Int)) (n : Int) (l : List Int) : List Int := if n < 0 then oppC m d t (mulK m d t (-n).toNat l) else mulK m d t n.toNat l
/-- a curve -/
def Cv (m : Int) (d : Nat) (l : List Int) : Prop := SerOk m d l ∧ Ser.co l 0 = 0
theorem put_cv {m : Int} {d : Nat} {t : List (List Int)} (hs : Pl.Ok m d t) (hN : Pl.Norm d (Pl.pc t)) : ∀ P S, Cv m d P → Cv m d S → Cv m d (Pl.putL m d (Pl.pc t) P S) := by
  intro P S hP hS
  refine ⟨⟨hs.m1, hs.m2, hs.d1, hs.d2, Pl.putL_length _ _ _ _ _, Ser.cut_red (by have := hs.m1; omega) _ _⟩, ?_⟩
  rw [Pl.put_cut (Nat.zero_le _), Pl.put_zero hN hP.2 hS.2, Int.zero_emod]
theorem lin_cv {m : Int} {d : Nat} {t : List (List Int)} (hs : Pl.Ok m d t) (u : Int) : Cv m d (Pl.lin m d u) := ⟨Pl.lin_ok hs.m1 hs.m2 hs.d1 hs.d2 u, Pl.lin_zero _ _ _⟩
theorem mulK_cv {m : Int} {d : Nat} {t : List (List Int)} (hs : Pl.Ok m d t) (hN : Pl.Norm d (Pl.pc t)) (K : Nat) {l : List Int} (hl : Cv m d l) : Cv m d (mulK m d t K l) :=
  Ser.repS_keep _ (Cv m d) (put_cv hs hN) K _ _ (lin_cv hs 0) hl
theorem mulC_cv {m : Int} {d : Nat} {t : List (List Int)} (hs : Pl.Ok m d t) (hN : Pl.Norm d (Pl.pc t)) (n : Int) {l : List Int} (hl : Cv m d l) : Cv m d (mulC m d t n l) := by
  unfold mulC
  by_cases h : n < 0
  · rw [if_pos h]
    have k := mulK_cv hs hN (-n).toNat hl
    exact ⟨oppC_ok k.1, oppC_zero k.1 k.2⟩
  · rw [if_neg h]; exact mulK_cv hs hN _ hl
theorem lin_zeros (m : Int) (d : Nat) : List.replicate (d + 1) (0 : Int) = Pl.lin m d 0 := by
  refine Ser.list_ext (by rw [List.length_replicate]; exact (Ser.cut_length _ _ _).symm) (fun i hi => ?_)
  rw [List.length_replicate] at hi
  unfold Pl.lin
  rw [Ser.co_zeros, Ser.co_cut (by omega)]
  unfold Ser.mon
  split <;> simp
set_option maxHeartbeats 8000000 in
set_option maxRecDepth 100000 in
theorem multipleK_any (m : Int) (d : Nat) (A : Option Addr) (c : Nat) (t : List (List Int)) (K : Nat) (A1 : Option Addr) (c1 : Nat) (l1 : List Int) (w : World) (hs : Pl.Ok m d t) (hf : Pl.fau m d (Pl.pc t) = none) (hl : Cv m d l1) (hK : K ≤ 1000000) (hr : RP w A t) (hr1 : RI w A1 l1) :
    Calls Try.prog 82 #[.agg #[.int .i64 m, .int .i64 d, .slice A t.length c], .int .i64 K, .agg #[.int .i64 m, .slice A1 l1.length c1]] w fun e w' => ∃ v, e = .returned (.agg #[.int .i64 m, v]) ∧ OwnI w' w.heap.size v (mulK m d t K l1) ∧ Below w.heap.size w w' := by
  obtain ⟨W, hW, b1, b2, v3, hwb⟩ := pro_lawSV w m d A t.length c m A1 l1.length c1
  have V3 := Lib.hid v3
  have HB := Lib.hid hwb
  have HW := Lib.hid hW
  have hN := Pl.norm_law hf hs
  have HL := Lib.hid (fun W0 => line_any m d A t.length c 0 W0 hs.m1 hs.m2 hs.d2 (by omega) (by omega))
  have HR := Lib.hid (fun W0 (h : Below W.heap.size W W0) A0 c0 lo (hlo : lo ≤ W0.heap.size) (ho : OwnI W0 lo (.slice A0 (Pl.lin m d 0).length c0) (Pl.lin m d 0)) =>
    repeated_any m d 76 #[.agg #[.int .i64 m, .int .i64 d, .slice A t.length c]] (Pl.putL m d (Pl.pc t)) (Cv m d) K A0 c0 (Pl.lin m d 0) A1 c1 l1 lo W0 hK hlo (fun P hP => hP.1) (put_cv hs hN) (lin_cv hs 0) hl ho ((hr1.below hwb).below h)
      (fun a b W1 => enters_fn Try.func76 (of_decide_eq_true (by kernel_rfl)) rfl _ W1)
      (fun P S Ap cp As cs W1 hP hS hb1 rp rs => sum_any m d A c t Ap cp P As cs S W1 hs hP.1 hS.1 hP.2 hS.2 ((hr.below hwb).below (below_step h hb1)) rp rs))
  obtain ⟨R, hR⟩ : ∃ R, mulK m d t K l1 = R := ⟨_, rfl⟩
  rw [show Ser.repS (Pl.putL m d (Pl.pc t)) K (Pl.lin m d 0) l1 = R from hR] at HR
  rw [hR]
  obtain ⟨Z, hZ⟩ : ∃ Z, Pl.lin m d 0 = Z := ⟨_, rfl⟩
  rw [hZ] at HL HR
  obtain ⟨n1, hn⟩ : ∃ n, l1.length = n := ⟨_, rfl⟩
  rw [hn] at HR HW b2 ⊢
  obtain ⟨L, hL⟩ : ∃ L, t.length = L := ⟨_, rfl⟩
  rw [hL] at HL HR HW b1 ⊢
  have hsz : w.heap.size + 1 + 1 < W.heap.size := v3.lt
  obtain ⟨x1, x2, x3, -⟩ := b1
  obtain ⟨y1, y2, -⟩ := b2
  have HF := Lib.hid (fun w' (h : Below (w.heap.size + 1 + 1) W w') => (⟨⟨(h.cell (p := ⟨w.heap.size, 0, none⟩) (by simp; omega)).trans x1, (h.cell (p := ⟨w.heap.size, 1, none⟩) (by simp; omega)).trans x2, (h.cell (p := ⟨w.heap.size, 2, none⟩) (by simp; omega)).trans x3⟩,
      (h.cell (p := ⟨w.heap.size + 1, 0, none⟩) (by simp)).trans y1, (h.cell (p := ⟨w.heap.size + 1, 1, none⟩) (by simp)).trans y2⟩ :
    (w'.cell? ⟨w.heap.size, 0, none⟩ = some (.int .i64 m) ∧ w'.cell? ⟨w.heap.size, 1, none⟩ = some (.int .i64 d) ∧ w'.cell? ⟨w.heap.size, 2, none⟩ = some (.slice A L c)) ∧ w'.cell? ⟨w.heap.size + 1, 0, none⟩ = some (.int .i64 m) ∧ w'.cell? ⟨w.heap.size + 1, 1, none⟩ = some (.slice A1 n1 c1)))
  have X0 := Lib.hid (keepW HF.out (below_less (by omega) (below_drew0 W)))
  have hk0 : ¬ (K : Int) < 0 := by omega
  clear v3 hwb hW hr hr1 hs hf hl hR hL hn hZ hN x1 x2 x3 y1 y2
  go_enter Try.func82, Try.ntmps82
  go_wp2
  rw [HW.out]
  go_region_held3 (fun w' => ((w'.cell? ⟨w.heap.size, 0, none⟩ = some (.int .i64 m) ∧ w'.cell? ⟨w.heap.size, 1, none⟩ = some (.int .i64 d) ∧ w'.cell? ⟨w.heap.size, 2, none⟩ = some (.slice A L c)) ∧ w'.cell? ⟨w.heap.size + 1, 0, none⟩ = some (.int .i64 m) ∧ w'.cell? ⟨w.heap.size + 1, 1, none⟩ = some (.slice A1 n1 c1)) ∧ Below (w.heap.size + 1 + 1) W w') (first | exact X0.out | (assumption; done) | exact keep2 HF.out (by omega) _ _ (by assumption) | exact keepS HF.out (by omega) (by assumption) hbb | exact keepS HF.out (by omega) (by assumption) hba) (first
    | (go_at_call 84; with_reducible refine Calls.mono (HL.out _) ?_; rintro e wa ⟨va, rfl, hoa, hba⟩; obtain ⟨A2, c2, rfl, -⟩ := hoa.form)
    | (go_at_call 134; with_reducible refine Calls.mono (HR.out _ (below_step (below_drew0 _) hba) _ _ _ (below_step (below_drew0 _) hba).size (hoa.more (show W.heap.size ≤ W.drew.heap.size from Nat.le_refl _))) ?_; rintro e wb ⟨vb, rfl, hob, hbb⟩; obtain ⟨A3, c3, rfl, -⟩ := hob.form; have hv := V3.out.keep (below_step (below_step (below_drew0 W) hba) hbb); obtain ⟨q0, q1, q2, q3⟩ := hv.tells2))
  all_goals
    have hw3 := below_step (below_step (below_drew0 W) hba) hbb
    obtain ⟨f0, f1, f2, f3⟩ := fin_serC (w := w) hv hob (by omega) (by omega) (below_step HB.out hw3) (.int .i64 m) (.slice A3 R.length c3)
    have F2 := Lib.hid (OwnI.more (b' := w.heap.size) f2 (by omega))
    have F3 := Lib.hid f3
    clear f2 f3 hob hoa hba hbb hv hw3
    go_wp2
    exact bodyPost_ret (v := .agg #[.int .i64 m, .slice A3 R.length c3]) (by simp [results, Try.results82, go_sem, f0, f1]) rfl ⟨_, rfl, F2.out, F3.out⟩
set_option maxHeartbeats 8000000 in
set_option maxRecDepth 100000 in
theorem multiple_any (m : Int) (d : Nat) (A : Option Addr) (c : Nat) (t : List (List Int)) (n : Int) (A1 : Option Addr) (c1 : Nat) (l1 : List Int) (w : World) (hs : Pl.Ok m d t) (hf : Pl.fau m d (Pl.pc t) = none) (hl : Cv m d l1) (hn1 : -1000000 ≤ n) (hn2 : n ≤ 1000000) (hr : RP w A t) (hr1 : RI w A1 l1) :
    Calls Try.prog 82 #[.agg #[.int .i64 m, .int .i64 d, .slice A t.length c], .int .i64 n, .agg #[.int .i64 m, .slice A1 l1.length c1]] w fun e w' => ∃ v, e = .returned (.agg #[.int .i64 m, v]) ∧ OwnI w' w.heap.size v (mulC m d t n l1) ∧ Below w.heap.size w w' := by
  by_cases hn0 : n < 0
  · obtain ⟨K, hK⟩ : ∃ K : Nat, K = (-n).toNat := ⟨_, rfl⟩
    have hKn : -n = (K : Int) := by omega
    rw [show mulC m d t n l1 = oppC m d t (mulK m d t K l1) by unfold mulC; rw [if_pos hn0, hK]]
    obtain ⟨W, hW, b1, b2, v3, hwb⟩ := pro_lawSV w m d A t.length c m A1 l1.length c1
    have V3 := Lib.hid v3
    have HB := Lib.hid hwb
    have HW := Lib.hid hW
    have hN := Pl.norm_law hf hs
    have HM := Lib.hid (fun W0 (h : Below W.heap.size W W0) => multipleK_any m d A c t K A1 c1 l1 W0 hs hf hl (by omega) ((hr.below hwb).below h) ((hr1.below hwb).below h))
    have HO := Lib.hid (fun W0 (h : Below W.heap.size W W0) A2 c2 (h2 : RI W0 A2 (mulK m d t K l1)) => opposite_any m d A c t A2 c2 (mulK m d t K l1) W0 hs hf (mulK_cv hs hN K hl).1 ((hr.below hwb).below h) h2)
    obtain ⟨V, hV⟩ : ∃ V, mulK m d t K l1 = V := ⟨_, rfl⟩
    rw [hV] at HM HO ⊢
    obtain ⟨R, hR⟩ : ∃ R, oppC m d t V = R := ⟨_, rfl⟩
    rw [hR] at HO ⊢
    obtain ⟨n1, hn⟩ : ∃ n, l1.length = n := ⟨_, rfl⟩
    rw [hn] at HM HW b2 ⊢
    obtain ⟨L, hL⟩ : ∃ L, t.length = L := ⟨_, rfl⟩
    rw [hL] at HM HO HW b1 ⊢
    have hsz : w.heap.size + 1 + 1 < W.heap.size := v3.lt
    obtain ⟨x1, x2, x3, -⟩ := b1
    obtain ⟨y1, y2, -⟩ := b2
    have HF := Lib.hid (fun w' (h : Below (w.heap.size + 1 + 1) W w') => (⟨⟨(h.cell (p := ⟨w.heap.size, 0, none⟩) (by simp; omega)).trans x1, (h.cell (p := ⟨w.heap.size, 1, none⟩) (by simp; omega)).trans x2, (h.cell (p := ⟨w.heap.size, 2, none⟩) (by simp; omega)).trans x3⟩,
        (h.cell (p := ⟨w.heap.size + 1, 0, none⟩) (by simp)).trans y1, (h.cell (p := ⟨w.heap.size + 1, 1, none⟩) (by simp)).trans y2⟩ :
      (w'.cell? ⟨w.heap.size, 0, none⟩ = some (.int .i64 m) ∧ w'.cell? ⟨w.heap.size, 1, none⟩ = some (.int .i64 d) ∧ w'.cell? ⟨w.heap.size, 2, none⟩ = some (.slice A L c)) ∧ w'.cell? ⟨w.heap.size + 1, 0, none⟩ = some (.int .i64 m) ∧ w'.cell? ⟨w.heap.size + 1, 1, none⟩ = some (.slice A1 n1 c1)))
    have X0 := Lib.hid (keepW HF.out (below_less (by omega) (below_drew0 W)))
    have w9 : IntKind.i64.wrap (-n) = (K : Int) := by rw [hKn, IntKind.wrap_i64]; omega
    clear v3 hwb hW hr hr1 hs hf hl hR hL hn hV hN x1 x2 x3 y1 y2 hKn hK
    go_enter Try.func82, Try.ntmps82
    go_wp2
    rw [HW.out]
    go_region_held3 (fun w' => ((w'.cell? ⟨w.heap.size, 0, none⟩ = some (.int .i64 m) ∧ w'.cell? ⟨w.heap.size, 1, none⟩ = some (.int .i64 d) ∧ w'.cell? ⟨w.heap.size, 2, none⟩ = some (.slice A L c)) ∧ w'.cell? ⟨w.heap.size + 1, 0, none⟩ = some (.int .i64 m) ∧ w'.cell? ⟨w.heap.size + 1, 1, none⟩ = some (.slice A1 n1 c1)) ∧ Below (w.heap.size + 1 + 1) W w') (first | exact X0.out | exact keep2 HF.out (by omega) _ _ (by assumption) | exact keepS HF.out (by omega) (by assumption) hbb | exact keepS HF.out (by omega) (by assumption) hba) (first
      | (go_at_call 82; with_reducible refine Calls.mono (HM.out _ (below_drew0 _)) ?_; rintro e wa ⟨va, rfl, hoa, hba⟩; obtain ⟨A2, c2, rfl, -⟩ := hoa.form)
      | (go_at_call 78; with_reducible refine Calls.mono (HO.out _ (below_step (below_drew0 _) hba) _ _ hoa.ri) ?_; rintro e wb ⟨vb, rfl, hob, hbb⟩; obtain ⟨A3, c3, rfl, -⟩ := hob.form; have hv := V3.out.keep (below_step (below_step (below_drew0 W) hba) hbb); obtain ⟨q0, q1, q2, q3⟩ := hv.tells2))
    all_goals
      have hw3 := below_step (below_step (below_drew0 W) hba) hbb
      have hzz := (below_step (below_drew0 W) hba).size
      obtain ⟨f0, f1, f2, f3⟩ := fin_serC (w := w) hv hob (by omega) (by omega) (below_step HB.out hw3) (.int .i64 m) (.slice A3 R.length c3)
      have F2 := Lib.hid (OwnI.more (b' := w.heap.size) f2 (by omega))
      have F3 := Lib.hid f3
      clear f2 f3 hob hoa hba hbb hv hw3
      go_wp2
      exact bodyPost_ret (v := .agg #[.int .i64 m, .slice A3 R.length c3]) (by simp [results, Try.results82, go_sem, f0, f1]) rfl ⟨_, rfl, F2.out, F3.out⟩
  · have := multipleK_any m d A c t n.toNat A1 c1 l1 w hs hf hl (by omega) hr hr1
    rw [show ((n.toNat : Nat) : Int) = n by omega] at this
    rw [show mulC m d t n l1 = mulK m d t n.toNat l1 by unfold mulC; rw [if_neg hn0]]
    exact this
set_option maxHeartbeats 8000000 in
set_option maxRecDepth 100000 in
theorem l04MultipleK_any (m : Int) (d : Nat) (A : Option Addr) (c : Nat) (t : List (List Int)) (K : Nat) (A1 : Option Addr) (c1 : Nat) (l1 : List Int) (w : World) (hs : Pl.Ok m d t) (hf : Pl.fau m d (Pl.pc t) = none) (hl : Cv m d l1) (hK : K ≤ 1000000) (hr : RP w A t) (hr1 : RI w A1 l1) :
    Calls Try.prog 80 #[.agg #[.int .i64 m, .slice A t.length c], .int .i64 K, .slice A1 l1.length c1] w fun e w' => ∃ v, e = .returned v ∧ OwnI w' w.heap.size v (mulK m d t K l1) ∧ Below w.heap.size w w' := by
  obtain ⟨W, hW, b1, hwb⟩ := start1 31 w m A t.length c
  have B1 := Lib.hid b1
  have HB := Lib.hid hwb
  have HW := Lib.hid hW
  have hd2 := hs.d2
  have hN := Pl.norm_law hf hs
  have hmk : ∀ W : World, (Instr.makeSlice 26 (.int .i64 ((d : Int) + 1)) (.int .i64 ((d : Int) + 1))).run Try.prog W = .ok (.slice (some ⟨W.heap.size, 0, none⟩) (d + 1) (d + 1)) (W.alloc (.cells (madeCells #[.int .i64 0] (d + 1)) 2)) := by
    intro W
    have := run_make_row' (P := Try.prog) 26 2 (.int .i64 0) 8 Try.underlying26 info64 rfl .i64 .i64 (d + 1) (by omega) (by omega) W
    rwa [show ((d + 1 : Nat) : Int) = (d : Int) + 1 by omega] at this
  have hmk2 : ∀ W : World, (Instr.makeSlice 26 (.int .i64 ((d + 1 : Nat) : Int)) (.int .i64 ((d + 1 : Nat) : Int))).run Try.prog W = .ok (.slice (some ⟨W.heap.size, 0, none⟩) (d + 1) (d + 1)) (W.alloc (.cells (madeCells #[.int .i64 0] (d + 1)) 2)) := by
    intro W
    exact run_make_row' (P := Try.prog) 26 2 (.int .i64 0) 8 Try.underlying26 info64 rfl .i64 .i64 (d + 1) (by omega) (by omega) W
  have ho := OwnI.made W (d + 1) (by unfold maxLen; omega)
  rw [lin_zeros m d] at ho
  have hWs : w.heap.size + 1 = W.heap.size := by rw [← HW.out]; simp
  have ho2 : OwnI (W.alloc (.cells (madeCells #[.int .i64 0] (d + 1)) 2)) W.heap.size (.slice (some ⟨w.heap.size + 1, 0, none⟩) (d + 1) (d + 1)) (Pl.lin m d 0) := by rw [hWs]; exact ho
  have HO0 := Lib.hid ho2
  have HPU := Lib.hid (fun W0 (h : Below W.heap.size W W0) (P S : List Int) (Ap : Option Addr) (cp : Nat) (As : Option Addr) (cs : Nat) (hP : Cv m d P) (hS : Cv m d S) (rp : RI W0 Ap P) (rs : RI W0 As S) => l03Put_any m d A c t Ap cp P As cs S W0 hs hP.1 hS.1 ((hr.below hwb).below h) rp rs)
  have HCV := Lib.hid (put_cv hs hN)
  have HLI := Lib.hid (lin_cv hs 0)
  have HL1 := Lib.hid hl
  have HR1 := Lib.hid (hr1.below hwb)
  obtain ⟨op, hop⟩ : ∃ op, Pl.putL m d (Pl.pc t) = op := ⟨_, rfl⟩
  obtain ⟨R, hR⟩ : ∃ R, mulK m d t K l1 = R := ⟨_, rfl⟩
  have HRR := Lib.hid (show Ser.repS op K (Pl.lin m d 0) l1 = R by rw [← hop]; exact hR)
  rw [hop] at HPU HCV
  rw [hR]
  have hn1 := hl.1.len
  obtain ⟨n1, hn⟩ : ∃ n, l1.length = n := ⟨_, rfl⟩
  have HN1 := Lib.hid hn
  obtain rfl : n1 = d + 1 := by omega
  rw [hn]
  obtain ⟨L, hL⟩ : ∃ L, t.length = L := ⟨_, rfl⟩
  rw [hL] at HPU HW B1 ⊢
  have hk0 : ¬ (K : Int) < 0 := by omega
  clear b1 hwb hW hr hr1 hs hf hl hR hL hn hN ho ho2 hWs hop hn1
  go_enter Try.func80, Try.ntmps80
  go_wp2
  rw [HW.out]
  go_loopw [1, 2, 7] (fun s1 s2 s7 wr => ∃ (kk : Nat) (P S : List Int) (As : Option Addr) (cs : Nat), s1 = .int .i64 kk ∧ s2 = .slice As S.length cs ∧ kk ≤ 1000000 ∧ Ser.repS op kk P S = R ∧ Cv m d P ∧ Cv m d S ∧ OwnI wr W.heap.size s7 P ∧ RI wr As S ∧ Below W.heap.size W wr) (fun s1 _ _ _ => (intOf s1).toNat)
  case atStart => exact ⟨K, _, l1, A1, c1, rfl, by rw [HN1.out], hK, HRR.out, HLI.out, HL1.out, HO0.out, HR1.out.below (below_one _ _), below_one _ _⟩
  case round =>
    obtain ⟨kk, P, S, As, cs, rfl, rfl, hk9, hpw, sp, ss, op1, rs, hbl⟩ := hrel
    have HPW := Lib.hid hpw
    have SP := Lib.hid sp
    have SS := Lib.hid ss
    have OP := Lib.hid op1
    have RS := Lib.hid rs
    have HBL := Lib.hid hbl
    obtain ⟨x1, x2, -⟩ := B1.out.keep hbl
    obtain ⟨Ap, cp, rfl, -⟩ := op1.form
    clear hpw sp ss op1 rs hbl hmk hmk2
    by_cases hz : kk = 0
    · subst hz
      have hr := HPW.out
      rw [Ser.repS_zero] at hr
      subst hr
      have F2 := Lib.hid (OP.out.more (b' := w.heap.size) HB.out.size)
      have F3 := Lib.hid (below_step HB.out HBL.out)
      go_wp2
      go_ret
      exact ⟨_, rfl, F2.out, F3.out⟩
    · have hz2 : 0 < kk := by omega
      clear hz
      by_cases hodd : kk % 2 = 1
      · have HN := Lib.hid (Ser.repS_odd op P S hodd)
        have i1 : ((kk : Int)).tmod 2 = 1 := by rw [Int.tmod_eq_emod_of_nonneg (by omega)]; omega
        go_wp2_with fail
        refine (HPU.out _ HBL.out P S Ap cp As cs SP.out SS.out OP.out.ri RS.out).mono ?_
        rintro e w3 ⟨s3, rfl, ho3, hb3⟩
        obtain ⟨A3, c3, rfl, -⟩ := ho3.form
        clear x1 x2
        obtain ⟨x1, x2, -⟩ := B1.out.keep (below_step HBL.out hb3)
        go_wp2_with fail
        refine (HPU.out _ (below_step HBL.out hb3) S S As cs As cs SS.out SS.out (RS.out.below hb3) (RS.out.below hb3)).mono ?_
        rintro e w4 ⟨s4, rfl, ho4, hb4⟩
        obtain ⟨A4, c4, rfl, r4⟩ := ho4.form
        have H3 := Lib.hid ((ho3.keep hb4).more HBL.out.size)
        have H4 := Lib.hid r4
        have H5 := Lib.hid (below_step (below_step HBL.out hb3) hb4)
        clear ho3 hb3 ho4 hb4 r4 x1 x2
        go_wp2
        go_roundw
        case rel => exact ⟨kk / 2, _, _, A4, c4, by first | rfl | go_num, rfl, by omega, by rw [← HN.out]; exact HPW.out, HCV.out _ _ SP.out SS.out, HCV.out _ _ SS.out SS.out, H3.out, H4.out, H5.out⟩
        case measure => simp only [intOf]; omega
      · have HN := Lib.hid (Ser.repS_even op P S (by omega) hodd)
        have i3 : ¬ ((kk : Int)) % 2 = 1 := by omega
        obtain ⟨n1, n2⟩ : (((kk : Int)) % 2 == 1) = false ∧ (((kk : Int)) % 2 != 1) = true := ⟨by simpa using i3, by simpa using i3⟩
        clear hodd
        go_wp2_with fail
        refine (HPU.out _ HBL.out S S As cs As cs SS.out SS.out RS.out RS.out).mono ?_
        rintro e w4 ⟨s4, rfl, ho4, hb4⟩
        obtain ⟨A4, c4, rfl, r4⟩ := ho4.form
        have H3 := Lib.hid (OP.out.keep hb4)
        have H4 := Lib.hid r4
        have H5 := Lib.hid (below_step HBL.out hb4)
        clear ho4 hb4 r4 x1 x2
        go_wp2
        go_roundw
        case rel => exact ⟨kk / 2, _, _, A4, c4, by first | rfl | go_num, rfl, by omega, by rw [← HN.out]; exact HPW.out, SP.out, HCV.out _ _ SS.out SS.out, H3.out, H4.out, H5.out⟩
        case measure => simp only [intOf]; omega
set_option maxHeartbeats 8000000 in
set_option maxRecDepth 100000 in
theorem l04Multiple_any (m : Int) (d : Nat) (A : Option Addr) (c : Nat) (t : List (List Int)) (n : Int) (A1 : Option Addr) (c1 : Nat) (l1 : List Int) (w : World) (hs : Pl.Ok m d t) (hf : Pl.fau m d (Pl.pc t) = none) (hl : Cv m d l1) (hn1 : -1000000 ≤ n) (hn2 : n ≤ 1000000) (hr : RP w A t) (hr1 : RI w A1 l1) :
    Calls Try.prog 80 #[.agg #[.int .i64 m, .slice A t.length c], .int .i64 n, .slice A1 l1.length c1] w fun e w' => ∃ v, e = .returned v ∧ OwnI w' w.heap.size v (mulC m d t n l1) ∧ Below w.heap.size w w' := by
  by_cases hn0 : n < 0
  · obtain ⟨K, hK⟩ : ∃ K : Nat, K = (-n).toNat := ⟨_, rfl⟩
    have hKn : -n = (K : Int) := by omega
    rw [show mulC m d t n l1 = oppC m d t (mulK m d t K l1) by unfold mulC; rw [if_pos hn0, hK]]
    obtain ⟨W, hW, b1, hwb⟩ := start1 31 w m A t.length c
    have HB := Lib.hid hwb
    have HW := Lib.hid hW
    have hN := Pl.norm_law hf hs
    have HM := Lib.hid (fun W0 (h : Below W.heap.size W W0) => l04MultipleK_any m d A c t K A1 c1 l1 W0 hs hf hl (by omega) ((hr.below hwb).below h) ((hr1.below hwb).below h))
    have HO := Lib.hid (fun W0 (h : Below W.heap.size W W0) A2 c2 (h2 : RI W0 A2 (mulK m d t K l1)) => l04Opposite_any m d A c t A2 c2 (mulK m d t K l1) W0 hs (mulK_cv hs hN K hl).1 (mulK_cv hs hN K hl).2 ((hr.below hwb).below h) h2)
    obtain ⟨V, hV⟩ : ∃ V, mulK m d t K l1 = V := ⟨_, rfl⟩
    rw [hV] at HM HO ⊢
    obtain ⟨R, hR⟩ : ∃ R, oppC m d t V = R := ⟨_, rfl⟩
    rw [hR] at HO ⊢
    obtain ⟨n1, hn⟩ : ∃ n, l1.length = n := ⟨_, rfl⟩
    rw [hn] at HM ⊢
    obtain ⟨L, hL⟩ : ∃ L, t.length = L := ⟨_, rfl⟩
    rw [hL] at HM HO HW b1 ⊢
    have hsz : w.heap.size < W.heap.size := b1.2.2
    obtain ⟨x1, x2, -⟩ := b1
    have HF := Lib.hid (fun w' (h : Below W.heap.size W w') => (⟨(h.cell (p := ⟨w.heap.size, 0, none⟩) (by simp; omega)).trans x1, (h.cell (p := ⟨w.heap.size, 1, none⟩) (by simp; omega)).trans x2⟩ :
      w'.cell? ⟨w.heap.size, 0, none⟩ = some (.int .i64 m) ∧ w'.cell? ⟨w.heap.size, 1, none⟩ = some (.slice A L c)))
    have X0 := Lib.hid (keepW HF.out (below_drew0 W))
    have w9 : IntKind.i64.wrap (-n) = (K : Int) := by rw [hKn, IntKind.wrap_i64]; omega
    clear hwb hW hr hr1 hs hf hl hR hL hn hV hN x1 x2 hKn hK
    go_enter Try.func80, Try.ntmps80
    go_wp2
    rw [HW.out]
    go_region_held3 (fun w' => (w'.cell? ⟨w.heap.size, 0, none⟩ = some (.int .i64 m) ∧ w'.cell? ⟨w.heap.size, 1, none⟩ = some (.slice A L c)) ∧ Below W.heap.size W w') (first | exact X0.out | exact keepS HF.out (Nat.le_refl _) (by assumption) hbb | exact keepS HF.out (Nat.le_refl _) (by assumption) hba) (first
      | (go_at_call 80; with_reducible refine Calls.mono (HM.out _ (below_drew0 _)) ?_; rintro e wa ⟨va, rfl, hoa, hba⟩; obtain ⟨A2, c2, rfl, -⟩ := hoa.form)
      | (go_at_call 77; with_reducible refine Calls.mono (HO.out _ (below_step (below_drew0 _) hba) _ _ hoa.ri) ?_; rintro e wb ⟨vb, rfl, hob, hbb⟩))
    all_goals
      have hzz := (below_step (below_drew0 W) hba).size
      have F2 := Lib.hid (hob.more (b' := w.heap.size) (by omega))
      have F3 := Lib.hid (below_step HB.out (below_step (below_step (below_drew0 W) hba) hbb))
      clear hob hoa hba hbb
      go_wp2
      go_ret
      exact ⟨_, rfl, F2.out, F3.out⟩
  · have := l04MultipleK_any m d A c t n.toNat A1 c1 l1 w hs hf hl (by omega) hr hr1
    rw [show ((n.toNat : Nat) : Int) = n by omega] at this
    rw [show mulC m d t n l1 = mulK m d t n.toNat l1 by unfold mulC; rw [if_neg hn0]]
    exact this
end Go.Proofs.Ytpmbojbdppbkgaa

