/- Texts of contracts, joined. -/
import Derived.Test.YtfhdgcndiljjcabGreatMgac
import Derived.Test.YtfhdgcndiljjcabGreatMgaf
import Derived.Test.YtfhdgcndiljjcabGreatMgaa
import Derived.Test.YtfhdgcndiljjcabGreatMgab
import Derived.Test.YtfhdgcndiljjcabGreatMgae
/- Contract of powerOf, for series. -/
namespace Go.Proofs.YtfhdgcndiljjcabGreat
open Go.RowKit Go.WideShapes Go.ChangeShapes Go.ChangeAt
/-- the power with exponent k + 1 -/
def powG (m : Int) (d : Nat) (l : List Int) : Nat → List Int
  | 0 => l
  | k + 1 => Ser.mulL m d (powG m d l k) l
theorem powG_ok {m : Int} {d : Nat} {l : List Int} (h : SerOkG m d l) : ∀ k, SerOkG m d (powG m d l k)
  | 0 => h
  | _ + 1 => h.cut _
theorem co_line {m : Int} {d : Nat} (a : Nat → Int) : Ser.Eq m d (Ser.co (Ser.cut m d a)) a := Ser.co_cut_eq m d a
theorem powG_line (m : Int) (d : Nat) : ∀ k, powG m d (Ser.cut m d (Ser.mon 1 1)) k = Ser.cut m d (Ser.mon (k + 1) 1)
  | 0 => rfl
  | k + 1 => by
    rw [powG, powG_line m d k]
    unfold Ser.mulL
    refine Ser.cut_congr ((Ser.Eq.mul (co_line _) (co_line _)).trans (Ser.Eq.of m d (fun i _ => ?_)))
    rw [Ser.mul_comm]
    show Ser.cv i (Ser.mon 1 1) (Ser.mon (k + 1) 1) = _
    rw [Ser.cv_t]
    unfold Ser.mon
    by_cases h : i = 0
    · rw [if_pos h, if_neg (by omega)]
    · rw [if_neg h]
      by_cases h2 : i - 1 = k + 1
      · rw [if_pos h2, if_pos (by omega)]
      · rw [if_neg h2, if_neg (by omega)]
set_option maxHeartbeats 4000000 in
set_option maxRecDepth 100000 in
theorem powerS_any (m : Int) (d : Nat) (A : Option Addr) (c : Nat) (l : List Int) (k : Nat) (w : World) (hs : SerOkG m d l) (hk : k ≤ 1000000) (hr : RI w A l) :
    Calls Tryz.prog 160 #[.agg #[.int .i64 m, .slice A l.length c], .int .i64 ((k : Int) + 1)] w fun e w' => ∃ A1 c1, e = .returned (.agg #[.int .i64 m, .slice A1 (d + 1) c1]) ∧ RI w' A1 (powG m d l k) ∧ Below w.heap.size w w' := by
  have HS := Lib.hid hs
  have HM := Lib.hid (fun (j : Nat) A1 c1 W0 (h1 : RI W0 A1 (powG m d l j)) (h2 : RI W0 A l) => by
    have := times_anyG m d A1 c1 (powG m d l j) m A c l W0 (powG_ok hs j) hs h1 h2
    rw [(powG_ok hs j).len] at this
    exact this)
  have HLP := Lib.hid (fun j => (powG_ok hs j).len)
  obtain ⟨L, hL⟩ : ∃ L, l.length = L := ⟨_, rfl⟩
  have hLd : L = d + 1 := by rw [← hL]; exact hs.len
  rw [hL] at HM ⊢
  subst hLd
  obtain ⟨W, hW⟩ : ∃ W, (((w.alloc (.cells #[.int .i64 m, .slice A (d + 1) c] 39)).alloc (.cells #[.int .i64 0, .slice none 0 0] 39)).alloc (.cells #[.int .i64 m, .slice A (d + 1) c] 39)) = W := ⟨_, rfl⟩
  have hwb : Below w.heap.size w W := by rw [← hW]; exact below_alloc _ (below_alloc _ (below_one _ _))
  have v0 : Var2 W w.heap.size (.int .i64 m) (.slice A (d + 1) c) := by
    rw [← hW]
    exact (((Var2.new w (.int .i64 m) (.slice A (d + 1) c)).keep (below_one _ (.cells #[.int .i64 0, .slice none 0 0] 39))).keep (below_one _ (.cells #[.int .i64 m, .slice A (d + 1) c] 39)))
  have v1 : Var2 W (w.heap.size + 1) (.int .i64 0) (.slice none 0 0) := by
    rw [← hW]
    have := (Var2.new (w.alloc (.cells #[.int .i64 m, .slice A (d + 1) c] 39)) (.int .i64 0) (.slice none 0 0)).keep (below_one _ (.cells #[.int .i64 m, .slice A (d + 1) c] 39))
    simpa using this
  have v2 : Var2 W (w.heap.size + 1 + 1) (.int .i64 m) (.slice A (d + 1) c) := by
    rw [← hW]
    have := Var2.new ((w.alloc (.cells #[.int .i64 m, .slice A (d + 1) c] 39)).alloc (.cells #[.int .i64 0, .slice none 0 0] 39)) (.int .i64 m) (.slice A (d + 1) c)
    simpa using this
  have HW := Lib.hid hW
  have HB := Lib.hid hwb
  have V0 := Lib.hid v0
  have V1 := Lib.hid v1
  have V2 := Lib.hid v2
  have HRW := Lib.hid (hr.below hwb)
  have HR0 := Lib.hid hr
  have mh := fun (a b : Value) (w : World) => (show (method 282 39 (.agg #[a, b]) "loop.example/g01152/impl.times").run Tryz.prog w = .ok (77, .agg #[a, b]) w by kernel_rfl)
  clear hwb hW v0 v1 v2 hs hr hL
  go_enter Tryz.func160, Tryz.ntmps160
  go_upto_region 2 with fail
  rw [HW.out]
  go_wp2
  go_loopw [9] (fun s9 wr => ∃ (j : Nat) (A1 : Option Addr) (c1 : Nat), j ≤ k ∧ s9 = .int .i64 j ∧ Var2 wr w.heap.size (.int .i64 m) (.slice A (d + 1) c) ∧ Var2 wr (w.heap.size + 1) (.int .i64 0) (.slice none 0 0) ∧ Var2 wr (w.heap.size + 1 + 1) (.int .i64 m) (.slice A1 (d + 1) c1) ∧ RI wr A1 (powG m d l j) ∧ Below w.heap.size w wr) (fun s9 _ => k + 1 - (intOf s9).toNat)
  case atStart => exact ⟨0, A, c, Nat.zero_le _, rfl, V0.out, V1.out, V2.out, HRW.out, HB.out⟩
  case round =>
    clear V0 V1 V2 HB HW HRW
    obtain ⟨j, A1, c1, hj, rfl, v0, v1, v2, hri, hb⟩ := hrel
    have V0 := Lib.hid v0
    have V1 := Lib.hid v1
    have V2 := Lib.hid v2
    have HB := Lib.hid hb
    have HRI := Lib.hid hri
    by_cases hlt : j < k
    · have a0 := v0.c0
      have b0 := v0.c1
      have a2 := v2.c0
      have b2 := v2.c1
      have i1 : (j : Int) < (k : Int) := by omega
      clear v0 v1 v2 hb hri
      go_wp2_with fail
      refine (HM.out j A1 c1 wr HRI.out (HR0.out.below HB.out)).mono ?_
      rintro e w1 ⟨v, rfl, ho, hb1⟩
      obtain ⟨A2, c2, hv2, -⟩ := ho.form
      subst hv2
      have hlen := HLP.out (j + 1)
      change OwnI w1 wr.heap.size _ (powG m d l (j + 1)) at ho
      rw [show (Ser.mulL m d (powG m d l j) l).length = d + 1 from hlen] at ho ⊢
      have hv2 := V2.out.keep hb1
      have q0 := hv2.c0
      have q1 := hv2.c1
      have q2 := hv2.fz 0
      have q3 := hv2.fz 1
      obtain ⟨X, hX⟩ : ∃ X, set2 w1 (w.heap.size + 1 + 1) (.int .i64 m) (.slice A2 (d + 1) c2) = X := ⟨_, rfl⟩
      have nb : Below w.heap.size w X := by rw [← hX]; exact below_set2 (below_step HB.out hb1) (by omega) _ _
      have n2 : Var2 X (w.heap.size + 1 + 1) (.int .i64 m) (.slice A2 (d + 1) c2) := by rw [← hX]; exact hv2.set2 _ _
      have n0 : Var2 X w.heap.size (.int .i64 m) (.slice A (d + 1) c) := by rw [← hX]; exact (V0.out.keep hb1).set2' (by omega) _ _
      have n1 : Var2 X (w.heap.size + 1) (.int .i64 0) (.slice none 0 0) := by rw [← hX]; exact (V1.out.keep hb1).set2' (by omega) _ _
      have nr : RI X A2 (powG m d l (j + 1)) := by rw [← hX]; exact (ho.set2 hv2 _ _).ri
      have HX := Lib.hid hX
      have NB := Lib.hid nb
      have N0 := Lib.hid n0
      have N1 := Lib.hid n1
      have N2 := Lib.hid n2
      have NR := Lib.hid nr
      unfold set2 at HX
      clear hX nb n0 n1 n2 nr hv2 hb1 ho hlen
      go_wp2
      rw [HX.out]
      go_roundw
      case rel => exact ⟨j + 1, A2, c2, by omega, by go_num, N0.out, N1.out, N2.out, NR.out, NB.out⟩
      case measure => simp only [intOf]; omega
    · obtain rfl : j = k := by omega
      have a1 := v1.c0
      have b1 := v1.c1
      have e1 := v1.fz 0
      have e2 := v1.fz 1
      have a2 := v2.c0
      have b2 := v2.c1
      have n1 := v1.set2 (.int .i64 m) (.slice A1 (d + 1) c1)
      have f0 := n1.c0
      have f1 := n1.c1
      have HR := Lib.hid (hri.set2 v1 (by rw [HLP.out j]; have := HS.out.d1; omega) (.int .i64 m) (.slice A1 (d + 1) c1))
      have HF := Lib.hid (below_set2 hb (show w.heap.size ≤ w.heap.size + 1 by omega) (.int .i64 m) (.slice A1 (d + 1) c1))
      unfold set2 at f0 f1 HR HF
      clear v0 v1 v2 hb n1 hri
      go_wp2
      exact bodyPost_ret (v := .agg #[.int .i64 m, .slice A1 (d + 1) c1]) (by simp [results, Tryz.results160, go_sem, f0, f1]) rfl ⟨A1, c1, rfl, HR.out, HF.out⟩
end Go.Proofs.YtfhdgcndiljjcabGreat

/- Contracts of PowerModulo, of the program and of the model. -/
namespace Go.Proofs.YtfhdgcndiljjcabGreat
open Go.RowKit Go.WideShapes Go.ChangeShapes Go.ChangeAt
end Go.Proofs.YtfhdgcndiljjcabGreat

/- Residues: numbers with their modulus; lists of them. -/
namespace Go.Proofs.YtfhdgcndiljjcabGreat
open Go.RowKit Go.WideShapes Go.ChangeShapes Go.ChangeAt
/-- a residue -/
abbrev rsd (m x : Int) : Value := .agg #[.int .i64 m, .int .i64 x]
set_option maxHeartbeats 1000000 in
theorem residueOf_any (m n : Int) (w : World) (h1 : 1 ≤ m) (h2 : m ≤ 100000000) (h3 : -1000000000000000000 ≤ n) (h4 : n ≤ 1000000000000000000) :
    Calls Tryz.prog 169 #[.int .i64 m, .int .i64 n] w fun e w' => e = .returned (rsd m (n % m)) ∧ Below w.heap.size w w' := by
  obtain ⟨W, hW⟩ : ∃ W, w.alloc (.cells #[.int .i64 0, .int .i64 0] 158) = W := ⟨_, rfl⟩
  have hwb : Below w.heap.size w W := by rw [← hW]; exact below_one _ _
  have v2 : VarC 158 W w.heap.size #[.int .i64 0, .int .i64 0] := by rw [← hW]; exact VarC.new _ _ _
  have HB := Lib.hid hwb
  have HW := Lib.hid hW
  have V2 := Lib.hid v2
  obtain ⟨q0, q1, q2, q3⟩ := v2.tells2
  clear hwb hW v2
  go_enter Tryz.func169, Tryz.ntmps169
  go_wp2_with fail
  rw [HW.out]
  go_wp2_with (go_at_call 142; refine (remB_any _ _ _ (by omega) (by omega) (by omega) (by omega)).mono ?_; rintro e w' ⟨rfl, rfl⟩)
  have h2 := (V2.out.set 0 (.int .i64 m)).set 1 (.int .i64 (n % m))
  obtain ⟨f0, f1, _⟩ := h2.tells2
  have HF := Lib.hid ((HB.out.setCell (p := ⟨w.heap.size, 0, none⟩) (Nat.le_refl _) (.int .i64 m)).setCell (p := ⟨w.heap.size, 1, none⟩) (Nat.le_refl _) (.int .i64 (n % m)))
  clear h2
  go_wp2
  exact bodyPost_ret (v := rsd m (n % m)) (by simp [results, Tryz.results169, go_sem, f0, f1]) rfl ⟨rfl, HF.out⟩
set_option maxHeartbeats 1000000 in
theorem res_plus_any (m x y : Int) (w : World) (h1 : 1 ≤ m) (h2 : m ≤ 100000000) (hx : 0 ≤ x ∧ x ≤ 100000000) (hy : 0 ≤ y ∧ y ≤ 100000000) :
    Calls Tryz.prog 192 #[.agg #[.int .i64 m, .int .i64 x], .agg #[.int .i64 m, .int .i64 y]] w fun e w' => e = .returned (rsd m ((x + y) % m)) ∧ Below w.heap.size w w' := by
  obtain ⟨W, hW⟩ : ∃ W, (((w.alloc (.cells #[.int .i64 m, .int .i64 x] 158)).alloc (.cells #[.int .i64 m, .int .i64 y] 158)).alloc (.cells #[.int .i64 0, .int .i64 0] 158)) = W := ⟨_, rfl⟩
  have hwb : Below w.heap.size w W := by rw [← hW]; exact below_alloc _ (below_alloc _ (below_one _ _))
  have v0 : VarC 158 W (w.heap.size) #[.int .i64 m, .int .i64 x] := by
    rw [← hW]
    have := (((VarC.new 158 w #[.int .i64 m, .int .i64 x]).keep (below_one _ (.cells #[.int .i64 m, .int .i64 y] 158))).keep (below_one _ (.cells #[.int .i64 0, .int .i64 0] 158)))
    simpa using this
  have v1 : VarC 158 W (w.heap.size + 1) #[.int .i64 m, .int .i64 y] := by
    rw [← hW]
    have := ((VarC.new 158 (w.alloc (.cells #[.int .i64 m, .int .i64 x] 158)) #[.int .i64 m, .int .i64 y]).keep (below_one _ (.cells #[.int .i64 0, .int .i64 0] 158)))
    simpa using this
  have v2 : VarC 158 W (w.heap.size + 2) #[.int .i64 0, .int .i64 0] := by
    rw [← hW]
    have := (VarC.new 158 ((w.alloc (.cells #[.int .i64 m, .int .i64 x] 158)).alloc (.cells #[.int .i64 m, .int .i64 y] 158)) #[.int .i64 0, .int .i64 0])
    simpa using this
  have hz : w.heap.size + 2 < W.heap.size := v2.lt
  have HB := Lib.hid hwb
  have HW := Lib.hid hW
  have V := Lib.hid v2
  obtain ⟨a0, b0, -, -⟩ := v0.tells2
  obtain ⟨a1, b1, -, -⟩ := v1.tells2
  clear hwb hW v0 v1 v2
  go_enter Tryz.func192, Tryz.ntmps192
  go_wp2_with fail
  rw [HW.out]
  go_wp2_with fail
  refine (residueOf_any _ _ _ (by omega) (by omega) (by omega) (by omega)).mono ?_
  rintro e w1 ⟨rfl, hb1⟩
  have hv := V.out.keep hb1
  obtain ⟨q0, q1, q2, q3⟩ := hv.tells2
  have h2 := (hv.set 0 (.int .i64 m)).set 1 (.int .i64 ((x + y) % m))
  obtain ⟨f0, f1, _⟩ := h2.tells2
  have HF := Lib.hid (((below_step HB.out hb1).setCell (p := ⟨w.heap.size + 2, 0, none⟩) (by show w.heap.size ≤ w.heap.size + 2; omega) (.int .i64 m)).setCell (p := ⟨w.heap.size + 2, 1, none⟩) (by show w.heap.size ≤ w.heap.size + 2; omega) (.int .i64 ((x + y) % m)))
  clear h2 hb1 hv
  go_wp2
  exact bodyPost_ret (v := rsd m ((x + y) % m)) (by simp [results, Tryz.results192, go_sem, f0, f1]) rfl ⟨rfl, HF.out⟩
set_option maxHeartbeats 1000000 in
theorem res_times_any (m x y : Int) (w : World) (h1 : 1 ≤ m) (h2 : m ≤ 100000000) (hp : -1000000000000000000 ≤ x * y ∧ x * y ≤ 1000000000000000000) :
    Calls Tryz.prog 194 #[.agg #[.int .i64 m, .int .i64 x], .agg #[.int .i64 m, .int .i64 y]] w fun e w' => e = .returned (rsd m ((x * y) % m)) ∧ Below w.heap.size w w' := by
  obtain ⟨W, hW⟩ : ∃ W, (((w.alloc (.cells #[.int .i64 m, .int .i64 x] 158)).alloc (.cells #[.int .i64 m, .int .i64 y] 158)).alloc (.cells #[.int .i64 0, .int .i64 0] 158)) = W := ⟨_, rfl⟩
  have hwb : Below w.heap.size w W := by rw [← hW]; exact below_alloc _ (below_alloc _ (below_one _ _))
  have v0 : VarC 158 W (w.heap.size) #[.int .i64 m, .int .i64 x] := by
    rw [← hW]
    have := (((VarC.new 158 w #[.int .i64 m, .int .i64 x]).keep (below_one _ (.cells #[.int .i64 m, .int .i64 y] 158))).keep (below_one _ (.cells #[.int .i64 0, .int .i64 0] 158)))
    simpa using this
  have v1 : VarC 158 W (w.heap.size + 1) #[.int .i64 m, .int .i64 y] := by
    rw [← hW]
    have := ((VarC.new 158 (w.alloc (.cells #[.int .i64 m, .int .i64 x] 158)) #[.int .i64 m, .int .i64 y]).keep (below_one _ (.cells #[.int .i64 0, .int .i64 0] 158)))
    simpa using this
  have v2 : VarC 158 W (w.heap.size + 2) #[.int .i64 0, .int .i64 0] := by
    rw [← hW]
    have := (VarC.new 158 ((w.alloc (.cells #[.int .i64 m, .int .i64 x] 158)).alloc (.cells #[.int .i64 m, .int .i64 y] 158)) #[.int .i64 0, .int .i64 0])
    simpa using this
  have hz : w.heap.size + 2 < W.heap.size := v2.lt
  have HB := Lib.hid hwb
  have HW := Lib.hid hW
  have V := Lib.hid v2
  obtain ⟨a0, b0, -, -⟩ := v0.tells2
  obtain ⟨a1, b1, -, -⟩ := v1.tells2
  clear hwb hW v0 v1 v2
  go_enter Tryz.func194, Tryz.ntmps194
  go_wp2_with fail
  rw [HW.out]
  go_wp2_with fail
  refine (residueOf_any _ _ _ (by omega) (by omega) (by omega) (by omega)).mono ?_
  rintro e w1 ⟨rfl, hb1⟩
  have hv := V.out.keep hb1
  obtain ⟨q0, q1, q2, q3⟩ := hv.tells2
  have h2 := (hv.set 0 (.int .i64 m)).set 1 (.int .i64 ((x * y) % m))
  obtain ⟨f0, f1, _⟩ := h2.tells2
  have HF := Lib.hid (((below_step HB.out hb1).setCell (p := ⟨w.heap.size + 2, 0, none⟩) (by show w.heap.size ≤ w.heap.size + 2; omega) (.int .i64 m)).setCell (p := ⟨w.heap.size + 2, 1, none⟩) (by show w.heap.size ≤ w.heap.size + 2; omega) (.int .i64 ((x * y) % m)))
  clear h2 hb1 hv
  go_wp2
  exact bodyPost_ret (v := rsd m ((x * y) % m)) (by simp [results, Tryz.results194, go_sem, f0, f1]) rfl ⟨rfl, HF.out⟩
set_option maxHeartbeats 1000000 in
theorem res_scaled_any (m x y : Int) (w : World) (h1 : 1 ≤ m) (h2 : m ≤ 100000000) (hp : -1000000000000000000 ≤ x * y ∧ x * y ≤ 1000000000000000000) :
    Calls Tryz.prog 193 #[.agg #[.int .i64 m, .int .i64 x], .int .i64 y] w fun e w' => e = .returned (rsd m ((x * y) % m)) ∧ Below w.heap.size w w' := by
  obtain ⟨W, hW⟩ : ∃ W, ((w.alloc (.cells #[.int .i64 m, .int .i64 x] 158)).alloc (.cells #[.int .i64 0, .int .i64 0] 158)) = W := ⟨_, rfl⟩
  have hwb : Below w.heap.size w W := by rw [← hW]; exact below_alloc _ (below_one _ _)
  have v0 : VarC 158 W (w.heap.size) #[.int .i64 m, .int .i64 x] := by
    rw [← hW]
    have := ((VarC.new 158 w #[.int .i64 m, .int .i64 x]).keep (below_one _ (.cells #[.int .i64 0, .int .i64 0] 158)))
    simpa using this
  have v1 : VarC 158 W (w.heap.size + 1) #[.int .i64 0, .int .i64 0] := by
    rw [← hW]
    have := (VarC.new 158 (w.alloc (.cells #[.int .i64 m, .int .i64 x] 158)) #[.int .i64 0, .int .i64 0])
    simpa using this
  have hz : w.heap.size + 1 < W.heap.size := v1.lt
  have HB := Lib.hid hwb
  have HW := Lib.hid hW
  have V := Lib.hid v1
  obtain ⟨a0, b0, -, -⟩ := v0.tells2
  clear hwb hW v0 v1
  go_enter Tryz.func193, Tryz.ntmps193
  go_wp2_with fail
  rw [HW.out]
  go_wp2_with fail
  refine (residueOf_any _ _ _ (by omega) (by omega) (by omega) (by omega)).mono ?_
  rintro e w1 ⟨rfl, hb1⟩
  have hv := V.out.keep hb1
  obtain ⟨q0, q1, q2, q3⟩ := hv.tells2
  have h2 := (hv.set 0 (.int .i64 m)).set 1 (.int .i64 ((x * y) % m))
  obtain ⟨f0, f1, _⟩ := h2.tells2
  have HF := Lib.hid (((below_step HB.out hb1).setCell (p := ⟨w.heap.size + 1, 0, none⟩) (by show w.heap.size ≤ w.heap.size + 1; omega) (.int .i64 m)).setCell (p := ⟨w.heap.size + 1, 1, none⟩) (by show w.heap.size ≤ w.heap.size + 1; omega) (.int .i64 ((x * y) % m)))
  clear h2 hb1 hv
  go_wp2
  exact bodyPost_ret (v := rsd m ((x * y) % m)) (by simp [results, Tryz.results193, go_sem, f0, f1]) rfl ⟨rfl, HF.out⟩
end Go.Proofs.YtfhdgcndiljjcabGreat

/- Lists of residues; the power of a residue. -/
namespace Go.Proofs.YtfhdgcndiljjcabGreat
open Go.RowKit Go.WideShapes Go.ChangeShapes Go.ChangeAt
theorem addr_at (g j : Nat) : (⟨g, 0, none⟩ : Addr).add j = ⟨g, j, none⟩ := by unfold Addr.add; split <;> simp_all
theorem infoD : (Tryz.prog.info? 158).map (fun i => (i.zero, i.size, i.bytes)) = some (some (.agg #[.int .i64 0, .int .i64 0]), 2, 16) := by kernel_rfl
def rowD (m : Int) (xs : List Int) : List Value := xs.flatMap fun x => [.int .i64 m, .int .i64 x]
theorem rowD_at (m : Int) : ∀ (xs : List Int) (i : Nat), i < xs.length → (rowD m xs)[i * 2]? = some (.int .i64 m) ∧ (rowD m xs)[i * 2 + 1]? = some (.int .i64 (Ser.co xs i))
  | [], i, h => by simp at h
  | x :: xs, 0, _ => ⟨rfl, rfl⟩
  | x :: xs, i + 1, h => by
    have ih := rowD_at m xs i (by simp at h; omega)
    unfold rowD at ih ⊢
    rw [List.flatMap_cons, List.getElem?_append_right (by simp; omega), List.getElem?_append_right (by simp; omega)]
    simp only [List.length_cons, List.length_nil]
    rw [show (i + 1) * 2 - (0 + 1 + 1) = i * 2 by omega, show (i + 1) * 2 + 1 - (0 + 1 + 1) = i * 2 + 1 by omega]
    exact ih
/-- a slice of residues, made by the call -/
def OwnD (w : World) (base : Nat) (v : Value) (m : Int) (xs : List Int) : Prop := w.ownsRow base 158 2 v xs.length (rowD m xs)
/-- residues lie there -/
def RD (w : World) (A : Option Addr) (m : Int) (xs : List Int) : Prop :=
  xs ≠ [] → ∃ g, A = some ⟨g, 0, none⟩ ∧ g < w.heap.size ∧ ∀ i, i < xs.length → w.cell? ⟨g, i * 2, none⟩ = some (.int .i64 m) ∧ w.cell? ⟨g, i * 2 + 1, none⟩ = some (.int .i64 (Ser.co xs i))
theorem RD.below {w w' : World} {A : Option Addr} {m : Int} {xs : List Int} (h : RD w A m xs) (hb : Below w.heap.size w w') : RD w' A m xs := by
  intro hne
  obtain ⟨g, e, hg, hc⟩ := h hne
  exact ⟨g, e, Nat.lt_of_lt_of_le hg hb.size, fun i hi => ⟨(hb.cell (p := ⟨g, i * 2, none⟩) hg).trans (hc i hi).1, (hb.cell (p := ⟨g, i * 2 + 1, none⟩) hg).trans (hc i hi).2⟩⟩
theorem OwnD.rd {w : World} {base n c : Nat} {A : Option Addr} {m : Int} {xs : List Int} (h : OwnD w base (.slice A n c) m xs) : RD w A m xs := by
  intro hne
  rcases h.2 with ⟨_, h0⟩ | ⟨g, cap, cur, hv, hb, hg, _⟩
  · exact absurd (List.eq_nil_of_length_eq_zero h0) hne
  · injection hv with e1 e2 e3
    subst e1
    subst e2
    subst e3
    refine ⟨g, rfl, (World.ownsRow.lt h g rfl).2, fun i hi => ?_⟩
    obtain ⟨k1, k2⟩ := rowD_at m xs i hi
    have h1 := World.ownsRow.cells h (g := g) rfl (i * 2) _ k1
    have h2 := World.ownsRow.cells h (g := g) rfl (i * 2 + 1) _ k2
    rw [addr_at] at h1 h2
    exact ⟨h1, h2⟩
theorem OwnD.form {w : World} {base : Nat} {v : Value} {m : Int} {xs : List Int} (h : OwnD w base v m xs) : ∃ A c, v = .slice A xs.length c := by
  rcases h.2 with ⟨rfl, h0⟩ | ⟨g, cap, cur, rfl, _⟩
  · exact ⟨none, 0, by rw [h0]⟩
  · exact ⟨_, _, rfl⟩
theorem OwnD.keep {w w' : World} {base : Nat} {v : Value} {m : Int} {xs : List Int} (h : OwnD w base v m xs) (hb : Below w.heap.size w w') : OwnD w' base v m xs := by
  rcases h.2 with h2 | ⟨g, cap, cur, e1, e2, e3, e4⟩
  · exact ⟨h.1, .inl h2⟩
  · exact ⟨h.1, .inr ⟨g, cap, cur, e1, e2, by rw [hb.block g (Array.getElem?_eq_some_iff.1 e3).1]; exact e3, e4⟩⟩
theorem OwnD.nil (w : World) (base : Nat) (m : Int) : OwnD w base (.slice none 0 0) m [] := World.ownsRow_nil _ _ _ _
theorem OwnD.one (w : World) (m x : Int) : OwnD (w.alloc (.cells #[.int .i64 m, .int .i64 x] 158)) w.heap.size (.slice (some ⟨w.heap.size, 0, none⟩) 1 1) m [x] :=
  ⟨rfl, .inr ⟨w.heap.size, 1, #[.int .i64 m, .int .i64 x], rfl, Nat.le_refl _, heap_alloc_new w _, Nat.le_refl _, by unfold maxLen; omega, rfl, rfl⟩⟩
theorem wp_pushD {ops : Array Oper} {rest : List Oper} {o : Oper} {a : Act} {Q : Exit → Act → World → Prop} {w : World} (s x : Operand) (t : TypeId)
    (hgd : o.guard = none) (ho : o.op = .call { callee := .builtin .append, args := #[s, x], argTypes := #[t, t] })
    (ht : Tryz.prog.underlying t = some (.slice 158)) (base : Nat) (v : Value) (m : Int) (xs : List Int) (hs : a.eval s = v) (hown : OwnD w base v m xs)
    (e : Int) (hx : a.eval x = .slice (some ⟨w.heap.size, 0, none⟩) 1 1) (hlen : xs.length ≤ 1000000) (hbase : base ≤ w.heap.size)
    (h : ∀ v' w', OwnD w' base v' m (xs ++ [e]) → Below base w w' → wpList Tryz.prog ops Q rest (a.put o.dst v') w') :
    wpList Tryz.prog ops Q (o :: rest) a (w.alloc (.cells #[.int .i64 m, .int .i64 e] 158)) := by
  obtain ⟨i0, hi, hz0, hz1, hz2⟩ := info_parts infoD
  refine wpList_append_own _ hgd s x t ho base 158 i0 (.agg #[.int .i64 0, .int .i64 0]) 2 16 ht hi hz0 hz1 hz2 rfl (by decide) v xs.length (rowD m xs) hs (World.ownsRow.alloc hown _)
    ⟨w.heap.size, 0, none⟩ 1 1 [.int .i64 m, .int .i64 e] hx rfl ?_ ?_ ?_ ?_ ?_ ?_
  · intro j u hj
    rw [addr_at]
    exact (VarC.new 158 w #[.int .i64 m, .int .i64 e]).cell j u (by rw [List.getElem?_toArray]; exact hj)
  · intro u hu
    simp at hu
    rcases hu with rfl | rfl <;> rfl
  · unfold maxLen; omega
  · omega
  · simp; omega
  · intro v' w' h1 h2 _
    refine h v' w' ?_ ?_
    · unfold OwnD
      have : rowD m (xs ++ [e]) = rowD m xs ++ [.int .i64 m, .int .i64 e] := by unfold rowD; rw [List.flatMap_append, List.flatMap_cons, List.flatMap_nil, List.append_nil]
      rw [this, List.length_append]; exact h1
    · exact ((Below.refl base w).alloc hbase _).grown h2 (by simp; omega) (fun k hk => (World.ownsRow.lt hown k hk).1)
theorem mulGr2 {x y m : Int} (h1 : 0 ≤ x ∧ x < m) (h3 : 0 ≤ y ∧ y < m) (hm : m ≤ 100000000) : -1000000000000000000 ≤ x * y ∧ x * y ≤ 1000000000000000000 := by
  have := mulGr h1.1 h1.2 h3.1 h3.2 hm
  omega
/-- the product of k times a residue, k of at least 1 -/
theorem powR_step (m x : Int) (k : Nat) : (x ^ (k + 1) % m) * x % m = x ^ (k + 2) % m := by
  rw [show x ^ (k + 2) = x ^ (k + 1) * x from Int.pow_succ _ _]
  exact Ser.mul_cong (Int.emod_emod _ _) rfl
set_option maxHeartbeats 2000000 in
theorem powerR_any (m x : Int) (k : Nat) (w : World) (h1 : 1 ≤ m) (h2 : m ≤ 100000000) (hx : 0 ≤ x ∧ x < m) (hk : k ≤ 1000000) :
    Calls Tryz.prog 173 #[.agg #[.int .i64 m, .int .i64 x], .int .i64 ((k : Int) + 1)] w fun e w' => e = .returned (rsd m (x ^ (k + 1) % m)) ∧ Below w.heap.size w w' := by
  have hxm : x % m = x := Int.emod_eq_of_lt hx.1 hx.2
  have HM := Lib.hid (fun (j : Nat) W0 => res_times_any m (x ^ (j + 1) % m) x W0 h1 h2 (mulGr2 ⟨Int.emod_nonneg _ (by omega), Int.emod_lt_of_pos _ (by omega)⟩ hx h2))
  have HS := Lib.hid (fun j => powR_step m x j)
  obtain ⟨W, hW⟩ : ∃ W, (((w.alloc (.cells #[.int .i64 m, .int .i64 x] 158)).alloc (.cells #[.int .i64 0, .int .i64 0] 158)).alloc (.cells #[.int .i64 m, .int .i64 x] 158)) = W := ⟨_, rfl⟩
  have hwb : Below w.heap.size w W := by rw [← hW]; exact below_alloc _ (below_alloc _ (below_one _ _))
  have v0 : VarC 158 W w.heap.size #[.int .i64 m, .int .i64 x] := by
    rw [← hW]
    exact (((VarC.new 158 w #[.int .i64 m, .int .i64 x]).keep (below_one _ (.cells #[.int .i64 0, .int .i64 0] 158))).keep (below_one _ (.cells #[.int .i64 m, .int .i64 x] 158)))
  have v1 : VarC 158 W (w.heap.size + 1) #[.int .i64 0, .int .i64 0] := by
    rw [← hW]
    have := (VarC.new 158 (w.alloc (.cells #[.int .i64 m, .int .i64 x] 158)) #[.int .i64 0, .int .i64 0]).keep (below_one _ (.cells #[.int .i64 m, .int .i64 x] 158))
    simpa using this
  have v2 : VarC 158 W (w.heap.size + 2) #[.int .i64 m, .int .i64 x] := by
    rw [← hW]
    have := VarC.new 158 ((w.alloc (.cells #[.int .i64 m, .int .i64 x] 158)).alloc (.cells #[.int .i64 0, .int .i64 0] 158)) #[.int .i64 m, .int .i64 x]
    simpa using this
  have HW := Lib.hid hW
  have HB := Lib.hid hwb
  have V0 := Lib.hid v0
  have V1 := Lib.hid v1
  have V2 := Lib.hid v2
  have HX := Lib.hid (show x ^ (0 + 1) % m = x by rw [Nat.zero_add, Int.pow_one]; exact hxm)
  have mh := fun (a b : Value) (w : World) => (show (method 282 158 (.agg #[a, b]) "loop.example/g01152/impl.times").run Tryz.prog w = .ok (194, .agg #[a, b]) w by kernel_rfl)
  clear hwb hW v0 v1 v2 hxm hx
  go_enter Tryz.func173, Tryz.ntmps173
  go_upto_region 2 with fail
  rw [HW.out]
  go_wp2
  go_loopw [9] (fun s9 wr => ∃ j : Nat, j ≤ k ∧ s9 = .int .i64 j ∧ VarC 158 wr w.heap.size #[.int .i64 m, .int .i64 x] ∧ VarC 158 wr (w.heap.size + 1) #[.int .i64 0, .int .i64 0] ∧ VarC 158 wr (w.heap.size + 1 + 1) #[.int .i64 m, .int .i64 (x ^ (j + 1) % m)] ∧ Below w.heap.size w wr) (fun s9 _ => k + 1 - (intOf s9).toNat)
  case atStart => exact ⟨0, Nat.zero_le _, rfl, V0.out, V1.out, by rw [HX.out]; exact V2.out, HB.out⟩
  case round =>
    clear V0 V1 V2 HB HW HX
    obtain ⟨j, hj, rfl, v0, v1, v2, hb⟩ := hrel
    have V0 := Lib.hid v0
    have V1 := Lib.hid v1
    have V2 := Lib.hid v2
    have HB := Lib.hid hb
    by_cases hlt : j < k
    · obtain ⟨a0, b0, -, -⟩ := v0.tells2
      obtain ⟨a2, b2, -, -⟩ := v2.tells2
      have i1 : (j : Int) < (k : Int) := by omega
      clear v0 v1 v2 hb
      go_wp2_with fail
      refine (HM.out j wr).mono ?_
      rintro e w1 ⟨rfl, hb1⟩
      rw [HS.out]
      have hv2 := V2.out.keep hb1
      obtain ⟨q0, q1, q2, q3⟩ := hv2.tells2
      obtain ⟨X, hX⟩ : ∃ X, set2 w1 (w.heap.size + 1 + 1) (.int .i64 m) (.int .i64 (x ^ (j + 2) % m)) = X := ⟨_, rfl⟩
      have nb : Below w.heap.size w X := by rw [← hX]; exact below_set2 (below_step HB.out hb1) (by omega) _ _
      have n2 : VarC 158 X (w.heap.size + 1 + 1) #[.int .i64 m, .int .i64 (x ^ (j + 2) % m)] := by
        rw [← hX]; exact (hv2.set 0 (.int .i64 m)).set 1 (.int .i64 (x ^ (j + 2) % m))
      have n0 : VarC 158 X w.heap.size #[.int .i64 m, .int .i64 x] := by
        rw [← hX]; exact ((V0.out.keep hb1).far _ _ _ (by omega)).far _ _ _ (by omega)
      have n1 : VarC 158 X (w.heap.size + 1) #[.int .i64 0, .int .i64 0] := by
        rw [← hX]; exact ((V1.out.keep hb1).far _ _ _ (by omega)).far _ _ _ (by omega)
      have HX := Lib.hid hX
      have NB := Lib.hid nb
      have N0 := Lib.hid n0
      have N1 := Lib.hid n1
      have N2 := Lib.hid n2
      clear hX nb n0 n1 n2 hv2 hb1
      go_wp2
      unfold set2 at HX
      rw [HX.out]
      go_roundw
      case rel => exact ⟨j + 1, by omega, by go_num, N0.out, N1.out, N2.out, NB.out⟩
      case measure => simp only [intOf]; omega
    · obtain rfl : j = k := by omega
      obtain ⟨a1, b1, c1, d1⟩ := v1.tells2
      obtain ⟨a2, b2, -, -⟩ := v2.tells2
      have n1 := (v1.set 0 (.int .i64 m)).set 1 (.int .i64 (x ^ (j + 1) % m))
      obtain ⟨f0, f1, -⟩ := n1.tells2
      have HF := Lib.hid ((hb.setCell (p := ⟨w.heap.size + 1, 0, none⟩) (by show w.heap.size ≤ w.heap.size + 1; omega) (.int .i64 m)).setCell (p := ⟨w.heap.size + 1, 1, none⟩) (by show w.heap.size ≤ w.heap.size + 1; omega) (.int .i64 (x ^ (j + 1) % m)))
      clear v0 v1 v2 hb n1
      go_wp2
      exact bodyPost_ret (v := rsd m (x ^ (j + 1) % m)) (by simp [results, Tryz.results173, go_sem, f0, f1]) rfl ⟨rfl, HF.out⟩
theorem powerRK_any (m x : Int) (k : Nat) (w : World) (h1 : 1 ≤ m) (h2 : m ≤ 100000000) (hx : 0 ≤ x ∧ x < m) (hk : k ≤ 1000000) (k1 : 1 ≤ k) :
    Calls Tryz.prog 173 #[.agg #[.int .i64 m, .int .i64 x], .int .i64 (k : Int)] w fun e w' => e = .returned (rsd m (x ^ k % m)) ∧ Below w.heap.size w w' := by
  obtain ⟨j, rfl⟩ : ∃ j, k = j + 1 := ⟨k - 1, by omega⟩
  exact powerR_any m x j w h1 h2 hx (by omega)
end Go.Proofs.YtfhdgcndiljjcabGreat

/- Contract of numerators, for residues. -/
namespace Go.Proofs.YtfhdgcndiljjcabGreat
open Go.RowKit Go.WideShapes Go.ChangeShapes Go.ChangeAt
theorem pow_bd7 {p : Nat} (h : p ≤ 7) {i : Nat} (hi : i ≤ 3) (h1 : 1 ≤ p) : 1 ≤ p ^ i ∧ p ^ i ≤ 343 := by
  refine ⟨Nat.pow_pos h1, ?_⟩
  refine Nat.le_trans (Nat.pow_le_pow_left h i) ?_
  exact Nat.le_trans (Nat.pow_le_pow_right (by omega) hi) (by decide)
theorem OwnD.more {w : World} {base b' : Nat} {v : Value} {m : Int} {l : List Int} (h : OwnD w base v m l) (hb : b' ≤ base) : OwnD w b' v m l := by
  unfold OwnD at h ⊢
  refine ⟨h.1, ?_⟩
  rcases h.2 with hn | ⟨g, cap, cur, hv, hg, hh, rest⟩
  · exact .inl hn
  · exact .inr ⟨g, cap, cur, hv, Nat.le_trans hb hg, hh, rest⟩
set_option maxHeartbeats 4000000 in
set_option maxRecDepth 100000 in
theorem numeratorsD_any (p : Nat) (m : Int) (A : Option Addr) (c : Nat) (xs : List Int) (w : World) (h1 : 2 ≤ m) (h2 : m ≤ 100000000) (p1 : 1 ≤ p) (p7 : p ≤ 7) (hn : xs.length ≤ 3) (hx : ∀ i, 0 ≤ Ser.co xs i ∧ Ser.co xs i < m) (hr : RD w A m xs) :
    Calls Tryz.prog 170 #[.int .i64 p, .agg #[.int .i64 m, .int .i64 (1 % m)], .slice A xs.length c] w fun e w' => ∃ v, e = .returned v ∧ OwnD w' w.heap.size v m (Nmr.numR m p (Ser.co xs) (xs.length + 1)) ∧ Below w.heap.size w w' := by
  obtain ⟨w1, hw1⟩ : ∃ w1, w.alloc (.cells #[.int .i64 m, .int .i64 (1 % m)] 158) = w1 := ⟨_, rfl⟩
  have hb1 : Below w.heap.size w w1 := by rw [← hw1]; exact below_one _ _
  have v1 : VarC 158 w1 w.heap.size #[.int .i64 m, .int .i64 (1 % m)] := by rw [← hw1]; exact VarC.new _ _ _
  have hz1 : w1.heap.size = w.heap.size + 1 := by rw [← hw1]; simp
  have HW1 := Lib.hid hw1
  have HB1 := Lib.hid hb1
  have V1 := Lib.hid v1
  have HR := Lib.hid (hr.below hb1)
  have HX := Lib.hid hx
  obtain ⟨n, hN⟩ : ∃ n, xs.length = n := ⟨_, rfl⟩
  have HN := Lib.hid hN
  have HSC := Lib.hid (fun x W0 (h : 0 ≤ x ∧ x < m) => res_scaled_any m x (p : Int) W0 (by omega) h2 (by
    have := Int.mul_le_mul (show x ≤ 100000000 by omega) (show (p : Int) ≤ 7 by omega) (by omega) (by omega)
    have := Int.mul_nonneg h.1 (show (0 : Int) ≤ p by omega)
    omega))
  have HS0 := Lib.hid (fun W0 => by
    have h := res_scaled_any m (1 % m) 0 W0 (by omega) h2 (by rw [Int.mul_zero]; omega)
    rw [Int.mul_zero, Int.zero_emod] at h
    exact h)
  have HPW := Lib.hid (fun x k W0 (h : 0 ≤ x ∧ x < m) (hk : k ≤ 1000000) (k1 : 1 ≤ k) => powerRK_any m x k W0 (by omega) h2 h hk k1)
  have HTI := Lib.hid (fun x y W0 (h : 0 ≤ x ∧ x < m) (h' : 0 ≤ y ∧ y < m) => res_times_any m x y W0 (by omega) h2 (mulGr2 h h' h2))
  have HPL := Lib.hid (fun x y W0 (h : 0 ≤ x ∧ x < m) (h' : 0 ≤ y ∧ y < m) => res_plus_any m x y W0 (by omega) h2 (by omega) (by omega))
  have HMO := Lib.hid (fun x : Int => (⟨Int.emod_nonneg x (by omega), Int.emod_lt_of_pos x (by omega)⟩ : 0 ≤ x % m ∧ x % m < m))
  have HP := Lib.hid (fun i (hi : i ≤ 3) => pow_bd7 (p := p) p7 hi p1)
  have HST := Lib.hid (fun k i => Nmr.hs_step m p (fun i => Nmr.num p (Ser.co xs) i * Ser.co xs (k - i) ^ (p ^ i)) (Nmr.num p (Ser.co xs) i % m) (Ser.co xs (k - i) ^ (p ^ i) % m) i (Ser.mul_cong (Int.emod_emod _ _) (Int.emod_emod _ _)))
  rw [hN] at hn ⊢
  have mhs := fun (a b : Value) (w : World) => (show (method 282 158 (.agg #[a, b]) "loop.example/g01152/impl.scaled").run Tryz.prog w = .ok (193, .agg #[a, b]) w by kernel_rfl)
  have mht := fun (a b : Value) (w : World) => (show (method 282 158 (.agg #[a, b]) "loop.example/g01152/impl.times").run Tryz.prog w = .ok (194, .agg #[a, b]) w by kernel_rfl)
  have mhp := fun (a b : Value) (w : World) => (show (method 282 158 (.agg #[a, b]) "loop.example/g01152/impl.plus").run Tryz.prog w = .ok (192, .agg #[a, b]) w by kernel_rfl)
  have u1 : OwnD (w1.alloc (.cells #[.int .i64 m, .int .i64 (1 % m)] 158)) w1.heap.size (.slice (some ⟨w1.heap.size, 0, none⟩) 1 1) m (Nmr.numR m p (Ser.co xs) 1) := OwnD.one _ _ _
  obtain ⟨W, hW⟩ : ∃ W, w1.alloc (.cells #[.int .i64 m, .int .i64 (1 % m)] 158) = W := ⟨_, rfl⟩
  rw [hW] at u1
  have U1 := Lib.hid u1
  have HWB := Lib.hid (show Below w1.heap.size w1 W by rw [← hW]; exact below_one _ _)
  have HW := Lib.hid hW
  obtain ⟨a1, b1, -, -⟩ := v1.tells2
  clear hw1 hb1 v1 hr hx hN hW u1
  go_enter Tryz.func170, Tryz.ntmps170
  go_upto_region 1 with fail
  rw [HW1.out]
  go_upto_region 2 with fail
  rw [HW.out]
  have hzz : w.heap.size ≤ w1.heap.size := HB1.out.size
  clear a1 b1
  go_wp2
  go_loopw [7, 8, 9, 10, 11, 12, 17] (fun s7 _ _ _ _ _ s17 wr => ∃ (k : Nat) (A1 : Option Addr) (c1 : Nat), k ≤ n ∧ s17 = .int .i64 k ∧ s7 = .slice A1 (k + 1) c1 ∧ OwnD wr w1.heap.size (.slice A1 (k + 1) c1) m (Nmr.numR m p (Ser.co xs) (k + 1)) ∧ Below w1.heap.size w1 wr) (fun _ _ _ _ _ _ s17 _ => n + 1 - (intOf s17).toNat)
  case atStart => exact ⟨0, _, _, Nat.zero_le _, rfl, rfl, by rw [← hz1]; exact U1.out, HWB.out⟩
  case round =>
    clear U1 HWB HW HW1
    obtain ⟨wo, hwo⟩ : ∃ wo, wo = wr := ⟨_, rfl⟩
    subst hwo
    obtain ⟨k, A1, c1, hk, rfl, rfl, ho, hb⟩ := hrel
    have HO := Lib.hid ho
    have HB := Lib.hid hb
    by_cases hlt : k < n
    · have i1 : (k : Int) < (n : Int) := by omega
      obtain ⟨a1, b1, -, -⟩ := (V1.out.keep hb).tells2
      clear ho hb
      go_upto_region 5 with fail
      go_wp2_with fail
      refine (HS0.out wo).mono ?_
      rintro e wa ⟨rfl, hba⟩
      obtain ⟨X0, hX0⟩ : ∃ X0, wa.alloc (.cells #[.int .i64 m, .int .i64 0] 158) = X0 := ⟨_, rfl⟩
      have v9 : VarC 158 X0 wa.heap.size #[.int .i64 m, .int .i64 0] := by rw [← hX0]; exact VarC.new _ _ _
      have hb0 : Below wo.heap.size wo X0 := by rw [← hX0]; exact below_alloc _ hba
      have hg9 : wo.heap.size ≤ wa.heap.size := hba.size
      have HX0 := Lib.hid hX0
      have V9 := Lib.hid v9
      have HB0 := Lib.hid hb0
      have HO0 := Lib.hid (HO.out.keep hb0)
      obtain ⟨g9, hg⟩ : ∃ g9, wa.heap.size = g9 := ⟨_, rfl⟩
      rw [hg] at V9 hg9
      clear v9 hb0 hX0 hba a1 b1
      go_upto_region 7 with fail
      rw [HX0.out]
      clear HX0 hg
      go_wp2
      go_loopw [10, 11, 12, 25] (fun s10 _ _ s25 wx => ∃ i : Nat, i ≤ k + 1 ∧ s25 = .int .i64 i ∧ s10 = .int .i64 (p ^ i : Nat) ∧ VarC 158 wx g9 #[.int .i64 m, .int .i64 (Nmr.hs p (fun i => Nmr.num p (Ser.co xs) i * Ser.co xs (k - i) ^ (p ^ i)) i % m)] ∧ OwnD wx w1.heap.size (.slice A1 (k + 1) c1) m (Nmr.numR m p (Ser.co xs) (k + 1)) ∧ Below wo.heap.size wo wx) (fun _ _ _ s25 _ => k + 2 - (intOf s25).toNat)
      case atStart => exact ⟨0, Nat.zero_le _, rfl, rfl, V9.out, HO0.out, HB0.out⟩
      case round =>
        clear V9 HO0 HB0
        obtain ⟨i, hi, rfl, rfl, v9, ho, hb⟩ := hrel
        have V9 := Lib.hid v9
        have HO1 := Lib.hid ho
        have HB1' := Lib.hid hb
        by_cases hil : i < k + 1
        · have i2 : (i : Int) < (k : Int) + 1 := by omega
          have hl1 := Nmr.numR_length m p (Ser.co xs) (k + 1)
          obtain ⟨gl, e, hgl, hcl⟩ := (ho.rd) (by intro h; rw [h] at hl1; simp at hl1)
          subst e
          obtain ⟨l1, l2⟩ := hcl i (by rw [hl1]; exact hil)
          rw [Nmr.numR_co hil] at l2
          obtain ⟨N, hNN⟩ : ∃ N, Nmr.num p (Ser.co xs) i % m = N := ⟨_, rfl⟩
          rw [hNN] at l2
          clear ho hcl hl1 v9 hb
          go_upto_region 10 with fail
          obtain ⟨r, hsub⟩ : ∃ r : Nat, (k : Int) - (i : Int) = (r : Int) := ⟨k - i, by omega⟩
          have hsn : k - i = r := by omega
          have hb2 := HB1'.out
          have v9 := V9.out.keep (below_one wr (.cells #[.int .i64 m, .int .i64 N] 158))
          have v12 := VarC.new 158 wr #[.int .i64 m, .int .i64 N]
          have hb3 := below_alloc (.cells #[.int .i64 m, .int .i64 N] 158) hb2
          have ho2 := HO1.out.keep (below_one wr (.cells #[.int .i64 m, .int .i64 N] 158))
          obtain ⟨Z, hZ⟩ : ∃ Z, wr.alloc (.cells #[.int .i64 m, .int .i64 N] 158) = Z := ⟨_, rfl⟩
          obtain ⟨g12, hg12⟩ : ∃ g12, wr.heap.size = g12 := ⟨_, rfl⟩
          rw [hZ] at v9 v12 hb3 ho2
          have h99 : g9 < wr.heap.size := V9.out.lt
          rw [hg12] at v12 h99
          have hbz : Below w1.heap.size w1 Z := below_step HB.out hb3
          obtain ⟨gp, e, hgp, hpc⟩ := (HR.out.below hbz) (by intro h; have := HN.out; rw [h] at this; simp at this; omega)
          subst e
          obtain ⟨p1', p2'⟩ := hpc r (by rw [HN.out]; omega)
          have hxr := HX.out r
          have hst := HST.out k i
          rw [hsn] at hst
          have hS := HMO.out (Nmr.hs p (fun i => Nmr.num p (Ser.co xs) i * Ser.co xs (k - i) ^ (p ^ i)) i)
          have hN1 := HMO.out (Nmr.num p (Ser.co xs) i)
          have hpi := HP.out i (by omega)
          obtain ⟨S, hS9⟩ : ∃ S, Nmr.hs p (fun i => Nmr.num p (Ser.co xs) i * Ser.co xs (k - i) ^ (p ^ i)) i % m = S := ⟨_, rfl⟩
          obtain ⟨S2, hS2⟩ : ∃ S2, Nmr.hs p (fun i => Nmr.num p (Ser.co xs) i * Ser.co xs (k - i) ^ (p ^ i)) (i + 1) % m = S2 := ⟨_, rfl⟩
          obtain ⟨V, hV⟩ : ∃ V, Ser.co xs r = V := ⟨_, rfl⟩
          obtain ⟨K, hK9⟩ : ∃ K, p ^ i = K := ⟨_, rfl⟩
          rw [hS9] at hS hst v9
          rw [hS2] at hst
          rw [hV] at hxr hst p2'
          rw [hK9] at hst hpi
          rw [hNN] at hst hN1
          rw [hK9, hZ, hg12]
          have HS2 := Lib.hid hS2
          have HK9 := Lib.hid hK9
          have HPWZ := Lib.hid (fun W0 => HPW.out V K W0 hxr (by omega) hpi.1)
          have HSCZ := Lib.hid (fun W0 => HSC.out S W0 hS)
          have HTIZ := Lib.hid (fun W0 => HTI.out N (V ^ K % m) W0 hN1 (HMO.out _))
          have HPLZ := Lib.hid (fun W0 => HPL.out (S * p % m) (N * (V ^ K % m) % m) W0 (HMO.out _) (HMO.out _))
          have HSTZ := Lib.hid (show (S * p + N * (V ^ K % m)) % m = S2 by rw [← hst, Int.emod_add_emod, Int.add_emod_emod])
          have HWR := Lib.hid (show IntKind.i64.wrap (r : Int) = r by rw [IntKind.wrap_i64]; omega)
          have hkp : 0 ≤ (K : Int) * (p : Int) ∧ (K : Int) * (p : Int) ≤ 2401 := by
            refine ⟨Int.mul_nonneg (by omega) (by omega), ?_⟩
            have := Int.mul_le_mul (show (K : Int) ≤ 343 by omega) (show (p : Int) ≤ 7 by omega) (by omega) (by omega)
            omega
          have HOZ := Lib.hid ho2
          have HBZ := Lib.hid hb3
          have V9Z := Lib.hid v9
          have HK : Hid (∀ W0, Below Z.heap.size Z W0 → (W0.cell? ⟨g9, 0, none⟩ = some (.int .i64 m) ∧ W0.cell? ⟨g9, 1, none⟩ = some (.int .i64 S)) ∧ (W0.cell? ⟨g12, 0, none⟩ = some (.int .i64 m) ∧ W0.cell? ⟨g12, 1, none⟩ = some (.int .i64 N)) ∧ (W0.cell? ⟨gp, r * 2, none⟩ = some (.int .i64 m) ∧ W0.cell? ⟨gp, r * 2 + 1, none⟩ = some (.int .i64 V))) :=
            Lib.hid (fun W0 h => by
              obtain ⟨x1, x2, -⟩ := (v9.keep h).tells2
              obtain ⟨y1, y2, -⟩ := (v12.keep h).tells2
              exact ⟨⟨x1, x2⟩, ⟨y1, y2⟩, (h.cell (p := ⟨gp, r * 2, none⟩) hgp).trans p1', (h.cell (p := ⟨gp, r * 2 + 1, none⟩) hgp).trans p2'⟩)
          have HSK0 := Lib.hid (HK.out _ (below_drew0 Z))
          have i3 : (r : Int) < (n : Int) := by omega
          have i4 : (0 : Int) ≤ (r : Int) := by omega
          clear hb2 v9 v12 hb3 ho2 hZ hg12 hbz hpc p1' p2' hst hS9 hS2 hV hK9 hNN l1 l2
          refine region_tilN (fun w' => (w'.cell? ⟨g9, 0, none⟩ = some (.int .i64 m) ∧ w'.cell? ⟨g9, 1, none⟩ = some (.int .i64 S)) ∧ (w'.cell? ⟨g12, 0, none⟩ = some (.int .i64 m) ∧ w'.cell? ⟨g12, 1, none⟩ = some (.int .i64 N)) ∧ (w'.cell? ⟨gp, r * 2, none⟩ = some (.int .i64 m) ∧ w'.cell? ⟨gp, r * 2 + 1, none⟩ = some (.int .i64 V))) 17 (by kernel_rfl) ?_
          refine tilN_take (i := 0) (dst := some 30) (.agg #[.int .i64 m, .int .i64 S]) rfl rfl (by kernel_rfl) (by kernel_rfl) (by kernel_rfl) (by kernel_rfl) (fun _ _ _ h => h) (Or.inl ⟨by rfl, ?_⟩) HSK0.out ?_
          · rintro w' ⟨⟨z1, z2⟩, ⟨z3, z4⟩, z5, z6⟩
            go_simp
          simp only [Act.put, List.setIfInBounds_toArray, List.set_cons_zero, List.set_cons_succ]
          refine tilN_take (i := 1) (dst := some 31) (.iface 158 (.agg #[.int .i64 m, .int .i64 S])) rfl rfl (by kernel_rfl) (by kernel_rfl) (by kernel_rfl) (by kernel_rfl) (fun _ _ _ h => h) (Or.inl ⟨by rfl, ?_⟩) HSK0.out ?_
          · rintro w' ⟨⟨z1, z2⟩, ⟨z3, z4⟩, z5, z6⟩
            go_simp
          simp only [Act.put, List.setIfInBounds_toArray, List.set_cons_zero, List.set_cons_succ]
          refine tilN_take (i := 2) (dst := some 32) (.int .i64 p) rfl rfl (by kernel_rfl) (by kernel_rfl) (by kernel_rfl) (by kernel_rfl) (fun _ _ _ h => h) (Or.inl ⟨by rfl, ?_⟩) HSK0.out ?_
          · rintro w' ⟨⟨z1, z2⟩, ⟨z3, z4⟩, z5, z6⟩
            go_simp
          simp only [Act.put, List.setIfInBounds_toArray, List.set_cons_zero, List.set_cons_succ]
          refine tilN_take (i := 5) (dst := some 35) (.agg #[.int .i64 m, .int .i64 N]) rfl rfl (by kernel_rfl) (by kernel_rfl) (by kernel_rfl) (by kernel_rfl) (fun _ _ _ h => h) (Or.inl ⟨by rfl, ?_⟩) HSK0.out ?_
          · rintro w' ⟨⟨z1, z2⟩, ⟨z3, z4⟩, z5, z6⟩
            go_simp
          simp only [Act.put, List.setIfInBounds_toArray, List.set_cons_zero, List.set_cons_succ]
          refine tilN_take (i := 6) (dst := some 36) (.iface 158 (.agg #[.int .i64 m, .int .i64 N])) rfl rfl (by kernel_rfl) (by kernel_rfl) (by kernel_rfl) (by kernel_rfl) (fun _ _ _ h => h) (Or.inl ⟨by rfl, ?_⟩) HSK0.out ?_
          · rintro w' ⟨⟨z1, z2⟩, ⟨z3, z4⟩, z5, z6⟩
            go_simp
          simp only [Act.put, List.setIfInBounds_toArray, List.set_cons_zero, List.set_cons_succ]
          refine tilN_take (i := 7) (dst := some 37) (.slice (some ⟨gp, 0, none⟩) n c) rfl rfl (by kernel_rfl) (by kernel_rfl) (by kernel_rfl) (by kernel_rfl) (fun _ _ _ h => h) (Or.inl ⟨by rfl, ?_⟩) HSK0.out ?_
          · rintro w' ⟨⟨z1, z2⟩, ⟨z3, z4⟩, z5, z6⟩
            go_simp
          simp only [Act.put, List.setIfInBounds_toArray, List.set_cons_zero, List.set_cons_succ]
          refine tilN_take (i := 8) (dst := some 38) (.int .i64 k) rfl rfl (by kernel_rfl) (by kernel_rfl) (by kernel_rfl) (by kernel_rfl) (fun _ _ _ h => h) (Or.inl ⟨by rfl, ?_⟩) HSK0.out ?_
          · rintro w' ⟨⟨z1, z2⟩, ⟨z3, z4⟩, z5, z6⟩
            go_simp
          simp only [Act.put, List.setIfInBounds_toArray, List.set_cons_zero, List.set_cons_succ]
          refine tilN_take (i := 9) (dst := some 39) (.int .i64 i) rfl rfl (by kernel_rfl) (by kernel_rfl) (by kernel_rfl) (by kernel_rfl) (fun _ _ _ h => h) (Or.inl ⟨by rfl, ?_⟩) HSK0.out ?_
          · rintro w' ⟨⟨z1, z2⟩, ⟨z3, z4⟩, z5, z6⟩
            go_simp
          simp only [Act.put, List.setIfInBounds_toArray, List.set_cons_zero, List.set_cons_succ]
          refine tilN_take (i := 10) (dst := some 40) (.int .i64 r) rfl rfl (by kernel_rfl) (by kernel_rfl) (by kernel_rfl) (by kernel_rfl) (fun _ _ _ h => h) (Or.inl ⟨by rfl, ?_⟩) HSK0.out ?_
          · rintro w' ⟨⟨z1, z2⟩, ⟨z3, z4⟩, z5, z6⟩
            go_simp
            exact HWR.out
          simp only [Act.put, List.setIfInBounds_toArray, List.set_cons_zero, List.set_cons_succ]
          refine tilN_take (i := 11) (dst := some 41) (.pointer (some ⟨gp, r * 2, none⟩)) rfl rfl (by kernel_rfl) (by kernel_rfl) (by kernel_rfl) (by kernel_rfl) (fun _ _ _ h => h) (Or.inl ⟨by rfl, ?_⟩) HSK0.out ?_
          · rintro w' ⟨⟨z1, z2⟩, ⟨z3, z4⟩, z5, z6⟩
            go_simp
          simp only [Act.put, List.setIfInBounds_toArray, List.set_cons_zero, List.set_cons_succ]
          refine tilN_take (i := 12) (dst := some 42) (.agg #[.int .i64 m, .int .i64 V]) rfl rfl (by kernel_rfl) (by kernel_rfl) (by kernel_rfl) (by kernel_rfl) (fun _ _ _ h => h) (Or.inl ⟨by rfl, ?_⟩) HSK0.out ?_
          · rintro w' ⟨⟨z1, z2⟩, ⟨z3, z4⟩, z5, z6⟩
            go_simp
          simp only [Act.put, List.setIfInBounds_toArray, List.set_cons_zero, List.set_cons_succ]
          refine tilN_take (i := 13) (dst := some 43) (.int .i64 K) rfl rfl (by kernel_rfl) (by kernel_rfl) (by kernel_rfl) (by kernel_rfl) (fun _ _ _ h => h) (Or.inl ⟨by rfl, ?_⟩) HSK0.out ?_
          · rintro w' ⟨⟨z1, z2⟩, ⟨z3, z4⟩, z5, z6⟩
            go_simp
          simp only [Act.put, List.setIfInBounds_toArray, List.set_cons_zero, List.set_cons_succ]
          refine tilN_one (i := 3) (by kernel_rfl) rfl (fun K hK => ?_)
          go_simp
          (with_reducible refine Calls.mono (HSCZ.out _) ?_; rintro e w5 ⟨rfl, hb5⟩; have b5 := below_step (below_drew0 Z) hb5)
          dsimp only
          refine hK.out _ _ (fun _ => HK.out _ b5) ?_
          clear hK K
          try simp only [Act.put, List.setIfInBounds_toArray, List.set_cons_zero, List.set_cons_succ]
          refine tilN_take (i := 4) (dst := some 34) (.iface 158 (.agg #[.int .i64 m, .int .i64 (S * p % m)])) rfl rfl (by kernel_rfl) (by kernel_rfl) (by kernel_rfl) (by kernel_rfl) (fun _ _ _ h => h) (Or.inl ⟨by rfl, ?_⟩) (HK.out _ b5) ?_
          · rintro w' ⟨⟨z1, z2⟩, ⟨z3, z4⟩, z5, z6⟩
            go_simp
          simp only [Act.put, List.setIfInBounds_toArray, List.set_cons_zero, List.set_cons_succ]
          refine tilN_one (i := 14) (by kernel_rfl) rfl (fun K hK => ?_)
          go_simp
          (with_reducible refine Calls.mono (HPWZ.out _) ?_; rintro e w6 ⟨rfl, hb6⟩; have b6 := below_step b5 hb6)
          dsimp only
          refine hK.out _ _ (fun _ => HK.out _ b6) ?_
          clear hK K
          try simp only [Act.put, List.setIfInBounds_toArray, List.set_cons_zero, List.set_cons_succ]
          refine tilN_one (i := 15) (by kernel_rfl) rfl (fun K hK => ?_)
          go_simp
          (with_reducible refine Calls.mono (HTIZ.out _) ?_; rintro e w7 ⟨rfl, hb7⟩; have b7 := below_step b6 hb7)
          dsimp only
          refine hK.out _ _ (fun _ => HK.out _ b7) ?_
          clear hK K
          try simp only [Act.put, List.setIfInBounds_toArray, List.set_cons_zero, List.set_cons_succ]
          refine tilN_one (i := 16) (by kernel_rfl) rfl (fun K hK => ?_)
          go_simp
          (with_reducible refine Calls.mono (HPLZ.out _) ?_; rintro e w8 ⟨rfl, hb8⟩; have b8 := below_step b7 hb8; have hv9 := V9Z.out.keep b8; obtain ⟨y0, y1, y2, y3⟩ := hv9.tells2)
          dsimp only
          refine hK.out _ _ (fun _ => HK.out _ b8) ?_
          clear hK K
          try simp only [Act.put, List.setIfInBounds_toArray, List.set_cons_zero, List.set_cons_succ]
          refine tilN_one (i := 17) (by kernel_rfl) rfl (fun K hK => ?_)
          go_simp
          refine hK.out _ _ (fun hlt => absurd hlt (by decide)) ?_
          clear hK K
          refine tilN_done (by kernel_rfl) ?_
          obtain ⟨Y, hY⟩ : ∃ Y, set2 w8 g9 (.int .i64 m) (.int .i64 S2) = Y := ⟨_, rfl⟩
          have nb : Below wo.heap.size wo Y := by rw [← hY]; exact below_set2 (below_step HBZ.out b8) hg9 _ _
          have n9 : VarC 158 Y g9 #[.int .i64 m, .int .i64 S2] := by rw [← hY]; exact (hv9.set 0 (.int .i64 m)).set 1 (.int .i64 S2)
          have HY := Lib.hid hY
          have NB := Lib.hid nb
          have N9 := Lib.hid n9
          unfold set2 at HY
          clear hY nb n9 hv9 y0 y1 y2 y3 hb8 hb7 hb6 hb5 b5 b6 b7 b8
          rw [HSTZ.out, HY.out]
          have HKP := Lib.hid (show (K : Int) * (p : Int) = ((p ^ (i + 1) : Nat) : Int) by rw [Nat.pow_succ, HK9.out, Int.natCast_mul])
          clear HSCZ HTIZ HPLZ HPWZ HSTZ HK HSK0 HWR V9Z HOZ HBZ
          go_wp2
          go_roundw
          case rel => exact ⟨i + 1, by omega, by go_num, by rw [HKP.out], by rw [HS2.out]; exact N9.out, HO.out.keep NB.out, NB.out⟩
          case measure => simp only [intOf]; omega
        · obtain rfl : i = k + 1 := by omega
          have i2 : ¬ (((k + 1 : Nat) : Int) < (k : Int) + 1) := by omega
          obtain ⟨y0, y1, -, -⟩ := v9.tells2
          rw [← Nmr.num_succ] at y1
          have hst := (Nmr.numR_succ m p (Ser.co xs) (k + 1)).symm
          have hlen := Nmr.numR_length m p (Ser.co xs) (k + 1)
          have hlen2 := Nmr.numR_length m p (Ser.co xs) (k + 1 + 1)
          obtain ⟨L1, hL1⟩ : ∃ L1, Nmr.numR m p (Ser.co xs) (k + 1) = L1 := ⟨_, rfl⟩
          obtain ⟨L2, hL2⟩ : ∃ L2, Nmr.numR m p (Ser.co xs) (k + 1 + 1) = L2 := ⟨_, rfl⟩
          obtain ⟨E, hE⟩ : ∃ E, Nmr.num p (Ser.co xs) (k + 1) % m = E := ⟨_, rfl⟩
          rw [hL1, hL2, hE] at hst
          rw [hL1] at hlen ho
          rw [hL2] at hlen2
          rw [hE] at y1
          have HL2 := Lib.hid hL2
          have HST2 := Lib.hid hst
          have HLEN := Lib.hid hlen
          have HLEN2 := Lib.hid hlen2
          have HO2 := Lib.hid ho
          have HB2 := Lib.hid (below_step HB.out hb)
          have hsz : w1.heap.size ≤ wr.heap.size := HB2.out.size
          clear v9 hL1 hL2 hE hst hlen hlen2 ho hb HX HR HSC HS0 HPW HTI HPL HMO HP HST
          go_wp2_with (at_builtin; refine wp_pushD _ _ _ (by rfl) (by rfl) Tryz.underlying156 w1.heap.size _ m _ (by rfl) HO2.out E (by rfl) (by rw [HLEN.out]; omega) hsz ?_; intro v' wz hoz hbz)
          rw [HST2.out] at hoz
          obtain ⟨A5, c5, rfl⟩ := hoz.form
          rw [HLEN2.out] at hoz ⊢
          have hbz2 := HB2.out.trans hbz
          go_wp2
          go_roundw
          case rel => exact ⟨k + 1, A5, c5, by omega, by go_num, rfl, by rw [HL2.out]; exact hoz, hbz2⟩
          case measure => simp only [intOf]; omega
    · obtain rfl : k = n := by omega
      have i1 : ¬ ((k : Int) < (k : Int)) := by omega
      have HF := Lib.hid (below_step HB1.out hb)
      clear ho hb
      go_wp2
      go_ret
      exact ⟨_, rfl, OwnD.more HO.out hzz, HF.out⟩
end Go.Proofs.YtfhdgcndiljjcabGreat

/- Contract of numeratorsModulo. -/
namespace Go.Proofs.YtfhdgcndiljjcabGreat
open Go.RowKit Go.WideShapes Go.ChangeShapes Go.ChangeAt
theorem co_modL (m : Int) (l : List Int) (i : Nat) : Ser.co (l.map (· % m)) i = Ser.co l i % m := by
  unfold Ser.co
  rw [List.getElem?_map]
  cases l[i]? with
  | none => show (0 : Int) = 0 % m; rw [Int.zero_emod]
  | some x => rfl
theorem numR_modL (m : Int) (p : Nat) (l : List Int) (n : Nat) : Nmr.numR m p (Ser.co (l.map (· % m))) n = Nmr.numR m p (Ser.co l) n := by
  unfold Nmr.numR
  refine List.map_congr_left (fun i _ => ?_)
  exact Nmr.num_cong (fun j => by rw [co_modL, Int.emod_emod]) i i (Nat.le_refl _)
theorem take_modL (m : Int) (l : List Int) (k : Nat) (hk : k < l.length) : (l.take k).map (· % m) ++ [Ser.co l k % m] = (l.take (k + 1)).map (· % m) := by
  rw [List.take_succ_eq_append_getElem hk, List.map_append, List.map_cons, List.map_nil]
  unfold Ser.co
  rw [List.getElem?_eq_getElem hk]; rfl
theorem take_numR (m : Int) (p : Nat) (v : Nat → Int) (k : Nat) : Nmr.numR m p v k ++ [Nmr.num p v k % m] = Nmr.numR m p v (k + 1) := (Nmr.numR_succ m p v k).symm
set_option maxHeartbeats 4000000 in
set_option maxRecDepth 100000 in
theorem numeratorsModulo_any (p : Nat) (m : Int) (A : Option Addr) (c : Nat) (l : List Int) (w : World) (h1 : 2 ≤ m) (h2 : m ≤ 100000000) (p1 : 1 ≤ p) (p7 : p ≤ 7) (hn : l.length ≤ 3) (hx : ∀ i, -1000000000 ≤ Ser.co l i ∧ Ser.co l i ≤ 1000000000) (hr : RI w A l) :
    Calls Tryz.prog 158 #[.int .i64 p, .int .i64 m, .slice A l.length c] w fun e w' => ∃ v, e = .returned v ∧ OwnI w' w.heap.size v (Nmr.numR m p (Ser.co l) (l.length + 1)) ∧ Below w.heap.size w w' := by
  have HR := Lib.hid hr
  have HX := Lib.hid hx
  obtain ⟨n, hN⟩ : ∃ n, l.length = n := ⟨_, rfl⟩
  have HN := Lib.hid hN
  have HRS := Lib.hid (fun x W0 (h : -1000000000 ≤ x ∧ x ≤ 1000000000) => residueOf_any m x W0 (by omega) h2 (by omega) (by omega))
  have HR1 := Lib.hid (fun W0 => residueOf_any m 1 W0 (by omega) h2 (by omega) (by omega))
  have HNM := Lib.hid (fun A1 c1 W0 (h : RD W0 A1 m (l.map (· % m))) => by
    have := numeratorsD_any p m A1 c1 (l.map (· % m)) W0 h1 h2 p1 p7 (by rw [List.length_map]; exact hn) (fun i => by rw [co_modL]; exact ⟨Int.emod_nonneg _ (by omega), Int.emod_lt_of_pos _ (by omega)⟩) h
    rw [List.length_map, numR_modL, hN] at this
    exact this)
  have HT := Lib.hid (fun k (hk : k < n) => take_modL m l k (by rw [hN]; exact hk))
  rw [hN] at hn ⊢
  clear hr hx hN
  go_enter Tryz.func158, Tryz.ntmps158
  go_wp2
  go_loopw [7, 9, 15] (fun s7 _ s15 wr => ∃ k : Nat, k ≤ n ∧ s15 = .int .i64 k ∧ OwnD wr w.heap.size s7 m ((l.take k).map (· % m)) ∧ Below w.heap.size w wr) (fun _ _ s15 _ => n + 1 - (intOf s15).toNat)
  case atStart => exact ⟨0, Nat.zero_le _, rfl, OwnD.nil _ _ _, Below.refl _ _⟩
  case round =>
    obtain ⟨k, hk, rfl, ho, hb⟩ := hrel
    by_cases hlt : k < n
    · have i1 : (k : Int) < (n : Int) := by omega
      have i2 : (0 : Int) ≤ (k : Int) := by omega
      obtain ⟨b, off, rfl, hbl, hc⟩ := (HR.out.below hb).at k (by rw [HN.out]; exact hlt)
      have hxk := HX.out k
      have hst := HT.out k hlt
      have hll : ((l.take k).map (· % m)).length = k := by rw [List.length_map, List.length_take, HN.out]; omega
      obtain ⟨X, hX⟩ : ∃ X, Ser.co l k = X := ⟨_, rfl⟩
      rw [hX] at hc hxk hst
      obtain ⟨L, hL⟩ : ∃ L, (l.take k).map (· % m) = L := ⟨_, rfl⟩
      rw [hL] at ho hll hst
      have HRX := Lib.hid (fun W0 => HRS.out X W0 hxk)
      have HO := Lib.hid ho
      have HB := Lib.hid hb
      have HST := Lib.hid hst
      have HLL := Lib.hid hll
      clear ho hb hst hll hX hL HR HX HN HRS HR1 HNM HT hxk
      go_wp2_with fail
      refine (HRX.out _).mono ?_
      rintro e w2 ⟨rfl, hb2⟩
      have HO2 := Lib.hid (HO.out.keep hb2)
      have HB2 := Lib.hid (below_step HB.out hb2)
      have hsz : w.heap.size ≤ w2.heap.size := HB2.out.size
      clear hb2
      go_wp2_with (at_builtin; refine wp_pushD _ _ _ (by rfl) (by rfl) Tryz.underlying156 w.heap.size _ m _ (by rfl) HO2.out (X % m) (by rfl) (by rw [HLL.out]; omega) hsz ?_; intro v' w3 ho3 hb3)
      rw [HST.out] at ho3
      have hB3 := HB2.out.trans hb3
      go_wp2
      go_roundw
      case rel => exact ⟨k + 1, by omega, by go_num, ho3, hB3⟩
      case measure => simp only [intOf]; omega
    · obtain rfl : k = n := by omega
      rw [List.take_of_length_le (by rw [HN.out]; omega)] at ho
      obtain ⟨A1, c1, hA1⟩ := ho.form
      subst hA1
      rw [List.length_map, HN.out] at ho ⊢
      have HD := Lib.hid ho
      have HB := Lib.hid hb
      obtain ⟨wo, hwo⟩ : ∃ wo, wo = wr := ⟨_, rfl⟩
      subst hwo
      clear ho hb HR HX HRS HT
      go_wp2_with fail
      refine (HR1.out _).mono ?_
      rintro e w2 ⟨rfl, hb2⟩
      have HD2 := Lib.hid ((HD.out.keep hb2).rd)
      have HB2 := Lib.hid (below_step HB.out hb2)
      clear hb2 HD HB HR1
      go_wp2_with fail
      refine (HNM.out _ _ _ HD2.out).mono ?_
      rintro e w3 ⟨v, rfl, ho, hb3⟩
      obtain ⟨A3, c3, hA3⟩ := ho.form
      subst hA3
      rw [Nmr.numR_length] at ho ⊢
      have HB3 := Lib.hid (below_step HB2.out hb3)
      have HD3 := Lib.hid (ho.rd)
      have hws : w.heap.size ≤ w3.heap.size := HB3.out.size
      clear ho hb3 HNM HD2 HB2
      go_wp2
      go_loopw [10, 12, 32] (fun s10 _ s32 wr => ∃ j : Nat, j ≤ k + 1 ∧ s32 = .int .i64 j ∧ OwnI wr w3.heap.size s10 (Nmr.numR m p (Ser.co l) j) ∧ Below w3.heap.size w3 wr) (fun _ _ s32 _ => k + 2 - (intOf s32).toNat)
      case atStart => exact ⟨0, Nat.zero_le _, rfl, OwnI.nil _ _, Below.refl _ _⟩
      case round =>
        obtain ⟨j, hj, rfl, ho, hb⟩ := hrel
        by_cases hlt : j < k + 1
        · have i1 : (j : Int) < (k : Int) + 1 := by omega
          have i2 : (0 : Int) ≤ (j : Int) := by omega
          have hl1 := Nmr.numR_length m p (Ser.co l) (k + 1)
          obtain ⟨gl, e, hgl, hcl⟩ := (HD3.out.below hb) (by intro h; rw [h] at hl1; simp at hl1)
          subst e
          obtain ⟨l1, l2⟩ := hcl j (by rw [hl1]; exact hlt)
          rw [Nmr.numR_co hlt] at l2
          have hst := take_numR m p (Ser.co l) j
          have hll := Nmr.numR_length m p (Ser.co l) j
          obtain ⟨X, hX⟩ : ∃ X, Nmr.num p (Ser.co l) j % m = X := ⟨_, rfl⟩
          rw [hX] at l2 hst
          obtain ⟨L, hL⟩ : ∃ L, Nmr.numR m p (Ser.co l) j = L := ⟨_, rfl⟩
          rw [hL] at ho hll hst
          have v12 := VarC.new 158 wr #[.int .i64 m, .int .i64 X]
          obtain ⟨Z, hZ⟩ : ∃ Z, wr.alloc (.cells #[.int .i64 m, .int .i64 X] 158) = Z := ⟨_, rfl⟩
          have hoz := ho.keep (below_one wr (.cells #[.int .i64 m, .int .i64 X] 158))
          have hbz := below_alloc (.cells #[.int .i64 m, .int .i64 X] 158) hb
          rw [hZ] at v12 hoz hbz
          obtain ⟨z1, z2, -, -⟩ := v12.tells2
          have HO := Lib.hid hoz
          have HB := Lib.hid hbz
          have HST := Lib.hid hst
          have HLL := Lib.hid hll
          have HZ := Lib.hid hZ
          have hsz : w3.heap.size ≤ Z.heap.size := hbz.size
          clear ho hb hst hll hX hL hZ hoz hbz v12 hcl hl1 HN
          go_upto_region 11 with fail
          rw [HZ.out]
          clear l1 l2
          go_wp2_with (at_builtin; refine wp_push _ _ _ (by rfl) (by rfl) Tryz.underlying26 w3.heap.size _ _ (by rfl) HO.out X (by rfl) (by rw [HLL.out]; omega) hsz ?_; intro v' w4 ho4 hb4)
          rw [HST.out] at ho4
          have hB4 := HB.out.trans hb4
          go_wp2
          go_roundw
          case rel => exact ⟨j + 1, by omega, by go_num, ho4, hB4⟩
          case measure => simp only [intOf]; omega
        · obtain rfl : j = k + 1 := by omega
          have i1 : ¬ (((k + 1 : Nat) : Int) < (k : Int) + 1) := by omega
          have HO := Lib.hid ho
          have HB := Lib.hid hb
          clear ho hb
          go_wp2
          go_ret
          exact ⟨_, rfl, OwnI.more HO.out hws, below_step HB3.out HB.out⟩
end Go.Proofs.YtfhdgcndiljjcabGreat

