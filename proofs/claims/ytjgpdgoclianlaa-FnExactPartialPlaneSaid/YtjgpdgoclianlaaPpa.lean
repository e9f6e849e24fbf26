/- Contracts of PartialPlane, of the program and of the model. -/
import Derived.Test.YtjgpdgoclianlaaGop
import Derived.Test.YtjgpdgoclianlaaRrw
import Derived.Test.YtjgpdgoclianlaaPtu
namespace Go.Proofs.Ytjgpdgoclianlaa
open Go.RowKit Go.WideShapes Go.ChangeShapes Go.ChangeAt

/-- the derivative by the first variable -/
def derF (t : List (List Int)) : Nat → Nat → Int := fun i j => ((i : Int) + 1) * Pl.pc t (i + 1) j
theorem derF_bd {m : Int} {D : Nat} {t : List (List Int)} (hs : Pl.Ok m (D + 1) t) (i j : Nat) (h : i ≤ D) : 0 ≤ derF t i j ∧ derF t i j ≤ 110000 := by
  unfold derF
  have h1 := hs.pc (i + 1) j
  have h2 := hs.d2
  have h3 := hs.m2
  refine ⟨Int.mul_nonneg (by omega) h1.1, ?_⟩
  have a := Int.mul_le_mul_of_nonneg_left (a := Pl.pc t (i + 1) j) (b := 10000) (c := (i : Int) + 1) (by omega) (by omega)
  omega
set_option maxHeartbeats 1000000 in
theorem derivedByXC_any (i j g : Nat) (m : Int) (D : Nat) (A : Option Addr) (c : Nat) (t : List (List Int)) (W : World) (hb : GBox W g m (D + 1) A t.length c) (hs : Pl.Ok m (D + 1) t) (hr : RP W A t) (hij : i + j ≤ D) :
    Calls Try.prog 126 #[.int .i64 i, .int .i64 j, .pointer (some ⟨g, 0, none⟩)] W fun e w' => e = .returned (.int .i64 (derF t i j)) ∧ Below W.heap.size W w' := by
  obtain ⟨b, off, rfl⟩ := hr.some (by rw [hs.len]; omega)
  obtain ⟨p1, p2, p3, L, N, hL, hN, x1, x2, x3⟩ := hb.num hs hr (i + 1) j (by omega)
  have hp := derF_bd hs i j (by omega)
  have HE := Lib.hid (show derF t i j = ((i : Int) + 1) * Pl.pc t (i + 1) j from rfl)
  obtain ⟨R, hR⟩ : ∃ R, derF t i j = R := ⟨_, rfl⟩
  rw [hR] at hp HE ⊢
  obtain ⟨X, hX⟩ : ∃ X, Pl.pc t (i + 1) j = X := ⟨_, rfl⟩
  rw [hX] at x3 HE
  have hd2 := hs.d2
  obtain ⟨q, hq⟩ : ∃ q, off + (i + 1) = q := ⟨_, rfl⟩
  rw [hq] at x2
  obtain ⟨r1, r2⟩ := hp
  have hprod : ((i : Int) + 1) * X = R := HE.out.symm
  have j1 : (0 : Int) ≤ (i : Int) + 1 := by omega
  have j2 : (i : Int) + 1 < (L : Int) := by omega
  have j3 : (0 : Int) ≤ (j : Int) := by omega
  have j4 : (j : Int) < (N : Int) := by omega
  have j5 : ((i : Int) + 1).toNat = i + 1 := by omega
  have j6 : IntKind.i64.wrap ((i : Int) + 1) = (i : Int) + 1 := by rw [IntKind.wrap_i64]; omega
  have j7 : IntKind.i64.wrap R = R := by rw [IntKind.wrap_i64]; omega
  clear hb hr hs hX hL hN hR HE
  go_enter Try.func126, Try.ntmps126
  go_wp2
  go_ret
  exact ⟨rfl, Below.refl _ _⟩
set_option maxHeartbeats 2000000 in
set_option maxRecDepth 100000 in
theorem derivedByX_any (m : Int) (d D : Nat) (A : Option Addr) (c : Nat) (t : List (List Int)) (w : World) (hdD : d = D + 1) (hs : Pl.Ok m d t) (hr : RP w A t) :
    Calls Try.prog 103 #[.agg #[.int .i64 m, .int .i64 d, .slice A t.length c]] w fun e w' => ∃ v, e = .returned (.agg #[.int .i64 m, .int .i64 D, v]) ∧ OwnR w' w.heap.size w'.heap.size v (Pl.tab m D (derF t)) ∧ Below w.heap.size w w' := by
  obtain ⟨W, hW, b1, v3, hwb⟩ := gpro1 w m d A t.length c
  have hsub : (d : Int) - 1 = (D : Int) := by omega
  have HS := Lib.hid (fun W0 (h : Below W.heap.size W W0) => filled_any m D 126 #[.pointer (some ⟨w.heap.size, 0, none⟩)] (derF t) W0 (by have := hs.m1; omega) hs.m2 (by have := hs.d2; omega)
    (fun i j hij => by subst hdD; have := derF_bd hs i j (by omega); omega) (enters_fn Try.func126 (of_decide_eq_true (by kernel_rfl)) rfl)
    (fun i j W1 hij hb => by subst hdD; exact derivedByXC_any i j _ m D A c t W1 ((b1.keep h).keep hb) hs (((hr.below hwb).below h).below hb) hij))
  have HB := Lib.hid hwb
  have HW := Lib.hid hW
  have V3 := Lib.hid v3
  have hd2 := hs.d2
  obtain ⟨T, hT⟩ : ∃ T, Pl.tab m D (derF t) = T := ⟨_, rfl⟩
  rw [hT] at HS ⊢
  obtain ⟨x1, x2, x3, x4⟩ := b1
  rw [← hW] at x1 x2 x3
  have hf0 := below_one W (.cells #[.int .i64 m, .int .i64 D] 64)
  obtain ⟨W1, hW1⟩ : ∃ W1, W.alloc (.cells #[.int .i64 m, .int .i64 D] 64) = W1 := ⟨_, rfl⟩
  rw [hW1] at hf0
  have HW1 := Lib.hid hW1
  have HF0 := Lib.hid hf0
  clear v3 hwb hW hr hs hT hdD hW1 hf0 x4
  go_enter Try.func103, Try.ntmps103
  go_wp2_with fail
  rw [HW.out, HW1.out]
  refine (HS.out _ HF0.out).mono ?_
  rintro e w2 ⟨v, rfl, ho, hb2⟩
  obtain ⟨A2, c2, rfl, -⟩ := ho.len
  have hb := below_step HF0.out hb2
  have hv := V3.out.keep hb
  obtain ⟨q0, q1, q2, q3, q4, q5⟩ := hv.tells3
  obtain ⟨f0, f1, f2, f3, f4⟩ := fin_grid (w := w) hv ho (by have := V3.out.lt; have := HF0.out.size; omega) (by omega) (Nat.le_refl _) (below_step HB.out hb) (.int .i64 m) (.int .i64 D) (.slice A2 T.length c2)
  have F3 := Lib.hid (f3.low (lo' := w.heap.size) (Nat.le_trans HB.out.size HF0.out.size))
  have F4 := Lib.hid f4
  unfold set3 at f0 f1 f2
  clear f3 f4 ho hv hb
  go_wp2
  exact bodyPost_ret (v := .agg #[.int .i64 m, .int .i64 D, .slice A2 T.length c2]) (by simp [results, Try.results103, go_sem, f0, f1, f2]) rfl ⟨_, rfl, F3.out, F4.out⟩
/-- the model of PartialPlane -/
def parT (m : Int) (D : Nat) (t : List (List Int)) (k : Int) : List (List Int) := Pl.tab m D (if k = 0 then derF t else fun i j => ((j : Int) + 1) * Pl.pc t i (j + 1))
def parP (m : Int) (t : List (List Int)) (k : Int) : Int × List (List Int) × Int :=
  if isP m t = true then (if inB k 0 1 = true then (if t.length = 2 then (0, [], 5) else (m, parT m (t.length - 2) t k, 0)) else (0, [], 2)) else (0, [], 1)
theorem parP_len (m : Int) (t : List (List Int)) (k : Int) : szT (parP m t k).2.1 ≤ 1048576 := by
  unfold parP
  by_cases h : isP m t = true
  · rw [if_pos h]
    obtain ⟨d, e, ok⟩ := plOk_of h
    by_cases hk : inB k 0 1 = true
    · rw [if_pos hk]
      by_cases h2 : t.length = 2
      · rw [if_pos h2]; exact Nat.zero_le _
      · rw [if_neg h2]; exact szT_ok (Pl.Ok.of_tab ok.m1 ok.m2 (by have := ok.d1; omega) (by have := ok.d2; omega) _)
    · rw [if_neg hk]; exact Nat.zero_le _
  · rw [if_neg h]; exact Nat.zero_le _
theorem parT_zero (m : Int) (D : Nat) (t : List (List Int)) : Pl.tab m D (derF t) = parT m D t 0 := by unfold parT; rw [if_pos rfl]
theorem par_turn (m : Int) (D d : Nat) (t : List (List Int)) (k : Int) (hd : d = D + 1) (hk : ¬ k = 0) :
    (Pl.tab m D fun i j => Pl.pc (Pl.tab m D (derF (Pl.tab m d fun i j => Pl.pc t j i))) j i) = parT m D t k := by
  subst hd
  unfold parT
  rw [if_neg hk]
  refine Pl.tab_congr (fun i j h => ?_)
  rw [Pl.pc_tab (by omega), Int.emod_emod]
  unfold derF
  rw [Pl.pc_tab (by omega)]
  exact Ser.mul_cong rfl (Int.emod_emod _ _)
set_option maxHeartbeats 4000000 in
set_option maxRecDepth 100000 in
theorem PartialPlane_any (m : Int) (A : Option Addr) (c : Nat) (t : List (List Int)) (k : Int) (w : World) (hz : szT t ≤ 1048576) (hr : RP w A t) :
    Calls Try.prog 51 #[.agg #[.int .i64 m, .slice A t.length c], .int .i64 k] w fun e w' => ∃ s, e = .returned (.tuple #[.agg #[.int .i64 (parP m t k).1, s], .int .i64 (parP m t k).2.2]) ∧ OwnR w' w.heap.size w'.heap.size s (parP m t k).2.1 ∧ Below w.heap.size w w' := by
  obtain ⟨W, hW, b1, v3, b4, hwb⟩ := pro1P w m A t.length c
  have B1 := Lib.hid b1
  have V3 := Lib.hid v3
  have HB := Lib.hid hwb
  have HW := Lib.hid hW
  have HC := Lib.hid (codeOfPlanes1_any (w.heap.size + 1 + 1) m A c t W hz (hr.below hwb) b4)
  have hfd := field_frame
  have hfd2 := fun (a b : Value) (W : World) => (show (Instr.field 64 (.agg #[a, b]) 1).run Try.prog W = .ok b W by kernel_rfl)
  by_cases h0 : isP m t = true
  · obtain ⟨d, e1, ok⟩ := plOk_of h0
    have hc := HC.out
    rw [codeP1_yes h0] at hc
    have HC0 := Lib.hid hc
    have HG := Lib.hid (fun W0 => gridOf_nat m A t.length c d W0 e1 (by have := ok.d2; omega))
    by_cases hk : inB k 0 1 = true
    · obtain ⟨k1, k2⟩ := (inB_iff _ _ _).1 hk
      have HI := Lib.hid (fun W0 => by have := isWithin_any k 0 1 W0; rw [hk] at this; exact this)
      by_cases hd1 : d = 1
      · have HA : Hid (parP m t k = (0, [], 5)) := Lib.hid (by unfold parP; rw [if_pos h0, if_pos hk, if_pos (by omega)])
        rw [HA.out]
        have hd1' : (d : Int) = 1 := by omega
        rw [hd1'] at HG
        clear b1 v3 b4 hwb hW hr hc HC h0 ok e1 hk hd1 hd1'
        go_enter Try.func51, Try.ntmps51
        go_wp2_with fail
        rw [HW.out]
        refine HC0.out.mono ?_
        rintro e w1 ⟨rfl, hb1⟩
        obtain ⟨x1, x2, x3⟩ := B1.out.keep hb1
        go_wp2_with fail
        refine (HI.out _).mono ?_
        rintro e w' ⟨rfl, rfl⟩
        go_wp2_with fail
        refine (HG.out _).mono ?_
        rintro e w2 ⟨rfl, hb2⟩
        have hv := V3.out.keep (below_step hb1 hb2)
        obtain ⟨q0, q1, q2, q3⟩ := hv.tells2
        obtain ⟨f0, f1, f2, f3⟩ := fin_plane (w := w) hv (OwnR.nil _ w.heap.size 0) (.inr (Nat.zero_le _)) (by omega) (Nat.zero_le _) (below_step HB.out (below_step hb1 hb2)) (.int .i64 0) (.slice none 0 0)
        have F2 := Lib.hid f2
        have F3 := Lib.hid f3
        clear f2 f3 hv
        go_wp2
        exact bodyPost_ret (v := .tuple #[.agg #[.int .i64 0, .slice none 0 0], .int .i64 (5)]) (by simp [results, Try.results51, go_sem, f0, f1]) rfl ⟨_, rfl, F2.out, F3.out⟩
      · obtain ⟨D, hD⟩ : ∃ D, d = D + 1 := ⟨d - 1, by have := ok.d1; omega⟩
        have HA : Hid (parP m t k = (m, parT m D t k, 0)) := Lib.hid (by unfold parP; rw [if_pos h0, if_pos hk, if_neg (by omega), show t.length - 2 = D by omega])
        rw [HA.out]
        have hd3 : ¬ (d : Int) = 1 := by omega
        obtain ⟨n1, n2⟩ : ((d : Int) == 1) = false ∧ ((d : Int) != 1) = true := ⟨by simpa using hd3, by simpa using hd3⟩
        have ok2 : ∀ f, Pl.Ok m d (Pl.tab m d f) := fun f => ok.tab f
        have ok3 : ∀ f, Pl.Ok m D (Pl.tab m D f) := fun f => Pl.Ok.of_tab ok.m1 ok.m2 (by omega) (by have := ok.d2; omega) f
        by_cases hk0 : k = 0
        · subst hk0
          have HP := Lib.hid (fun W0 (h : Below W.heap.size W W0) => by have := derivedByX_any m d D A c t W0 hD ok ((hr.below hwb).below h); rw [parT_zero] at this; exact this)
          obtain ⟨T, hT⟩ : ∃ T, parT m D t 0 = T := ⟨_, rfl⟩
          rw [hT] at HP ⊢
          clear b1 v3 b4 hwb hW hr hc HC h0 ok e1 hk hd1 hT hD ok2 ok3
          go_enter Try.func51, Try.ntmps51
          go_wp2_with fail
          rw [HW.out]
          refine HC0.out.mono ?_
          rintro e w1 ⟨rfl, hb1⟩
          obtain ⟨x1, x2, x3⟩ := B1.out.keep hb1
          go_wp2_with fail
          refine (HI.out _).mono ?_
          rintro e w' ⟨rfl, rfl⟩
          go_wp2_with fail
          refine (HG.out _).mono ?_
          rintro e w1b ⟨rfl, hb1b⟩
          obtain ⟨y1, y2, y3⟩ := B1.out.keep (below_step hb1 hb1b)
          go_wp2_with fail
          refine (HG.out _).mono ?_
          rintro e w2 ⟨rfl, hb2⟩
          go_wp2_with fail
          refine (HP.out _ (below_step (below_step hb1 hb1b) hb2)).mono ?_
          rintro e w3 ⟨s, rfl, ho, hb3⟩
          obtain ⟨A2, c2, rfl, -⟩ := ho.len
          go_wp2_with fail
          refine (plane_any _ _ _ _ _ _).mono ?_
          rintro e w4 ⟨rfl, hb4⟩
          have hb := below_step (below_step (below_step (below_step hb1 hb1b) hb2) hb3) hb4
          have hv := V3.out.keep hb
          obtain ⟨q0, q1, q2, q3⟩ := hv.tells2
          obtain ⟨f0, f1, f2, f3⟩ := fin_plane (w := w) hv (ho.keep hb4) (.inl (by have := V3.out.lt; have := (below_step (below_step hb1 hb1b) hb2).size; omega)) (by omega) hb4.size (below_step HB.out hb) (.int .i64 m) (.slice A2 T.length c2)
          have F2 := Lib.hid (f2.low (show w.heap.size ≤ w2.heap.size by have := V3.out.lt; have := (below_step (below_step hb1 hb1b) hb2).size; omega))
          have F3 := Lib.hid f3
          clear f2 f3 hv ho hb
          go_wp2
          exact bodyPost_ret (v := .tuple #[.agg #[.int .i64 m, .slice A2 T.length c2], .int .i64 0]) (by simp [results, Try.results51, go_sem, f0, f1]) rfl ⟨_, rfl, F2.out, F3.out⟩
        · obtain ⟨o1, o2⟩ := ne_facts hk0
          have HP1 := Lib.hid (fun W0 (h : Below W.heap.size W W0) => turned_any m d A c t W0 ok ((hr.below hwb).below h))
          have HP2 := Lib.hid (fun (W0 : World) (A0 : Option Addr) (c0 : Nat) (h : RP W0 A0 (Pl.tab m d fun i j => Pl.pc t j i)) => derivedByX_any m d D A0 c0 _ W0 hD (ok2 _) h)
          have HP3 := Lib.hid (fun (W0 : World) (A0 : Option Addr) (c0 : Nat) (h : RP W0 A0 (Pl.tab m D (derF (Pl.tab m d fun i j => Pl.pc t j i)))) => by have := turned_any m D A0 c0 _ W0 (ok3 _) h; rw [par_turn m D d t k hD hk0] at this; exact this)
          obtain ⟨T1, hT1⟩ : ∃ T1, (Pl.tab m d fun i j => Pl.pc t j i) = T1 := ⟨_, rfl⟩
          rw [hT1] at HP1 HP2 HP3
          obtain ⟨T2, hT2⟩ : ∃ T2, Pl.tab m D (derF T1) = T2 := ⟨_, rfl⟩
          rw [hT2] at HP2 HP3
          obtain ⟨T, hT⟩ : ∃ T, parT m D t k = T := ⟨_, rfl⟩
          rw [hT] at HP3 ⊢
          clear b1 v3 b4 hwb hW hr hc HC h0 ok e1 hk hd1 hT hD ok2 ok3 hT1 hT2
          go_enter Try.func51, Try.ntmps51
          go_wp2_with fail
          rw [HW.out]
          refine HC0.out.mono ?_
          rintro e w1 ⟨rfl, hb1⟩
          obtain ⟨x1, x2, x3⟩ := B1.out.keep hb1
          go_wp2_with fail
          refine (HI.out _).mono ?_
          rintro e w' ⟨rfl, rfl⟩
          go_wp2_with fail
          refine (HG.out _).mono ?_
          rintro e w1b ⟨rfl, hb1b⟩
          obtain ⟨y1, y2, y3⟩ := B1.out.keep (below_step hb1 hb1b)
          go_wp2_with fail
          refine (HG.out _).mono ?_
          rintro e w2a ⟨rfl, hb2a⟩
          go_wp2_with fail
          refine (HP1.out _ (below_step (below_step hb1 hb1b) hb2a)).mono ?_
          rintro e w2b ⟨s1, rfl, ho1, hb2b⟩
          obtain ⟨A4, c4, rfl, hp1⟩ := ho1.len
          have HR1 := Lib.hid hp1
          clear ho1 hp1
          go_wp2_with fail
          refine (HP2.out _ _ _ HR1.out).mono ?_
          rintro e w2 ⟨s2, rfl, ho2, hb2⟩
          obtain ⟨A5, c5, rfl, hp2⟩ := ho2.len
          have HR2 := Lib.hid hp2
          clear ho2 hp2
          go_wp2_with fail
          refine (HP3.out _ _ _ HR2.out).mono ?_
          rintro e w3 ⟨s, rfl, ho, hb3⟩
          obtain ⟨A2, c2, rfl, -⟩ := ho.len
          go_wp2_with fail
          refine (plane_any _ _ _ _ _ _).mono ?_
          rintro e w4 ⟨rfl, hb4⟩
          have hb := below_step (below_step (below_step (below_step (below_step (below_step hb1 hb1b) hb2a) hb2b) hb2) hb3) hb4
          have hv := V3.out.keep hb
          obtain ⟨q0, q1, q2, q3⟩ := hv.tells2
          obtain ⟨f0, f1, f2, f3⟩ := fin_plane (w := w) hv (ho.keep hb4) (.inl (by have := V3.out.lt; have := (below_step (below_step (below_step (below_step hb1 hb1b) hb2a) hb2b) hb2).size; omega)) (by omega) hb4.size (below_step HB.out hb) (.int .i64 m) (.slice A2 T.length c2)
          have F2 := Lib.hid (f2.low (show w.heap.size ≤ w2.heap.size by have := V3.out.lt; have := (below_step (below_step (below_step (below_step hb1 hb1b) hb2a) hb2b) hb2).size; omega))
          have F3 := Lib.hid f3
          clear f2 f3 hv ho hb
          go_wp2
          exact bodyPost_ret (v := .tuple #[.agg #[.int .i64 m, .slice A2 T.length c2], .int .i64 0]) (by simp [results, Try.results51, go_sem, f0, f1]) rfl ⟨_, rfl, F2.out, F3.out⟩
    · have HA : Hid (parP m t k = (0, [], 2)) := Lib.hid (by unfold parP; rw [if_pos h0, if_neg hk])
      rw [HA.out]
      have hk' : inB k 0 1 = false := by simpa using hk
      have HI := Lib.hid (fun W0 => by have := isWithin_any k 0 1 W0; rw [hk'] at this; exact this)
      clear b1 v3 b4 hwb hW hr hc HC h0 ok e1 hk hk'
      go_enter Try.func51, Try.ntmps51
      go_wp2_with fail
      rw [HW.out]
      refine HC0.out.mono ?_
      rintro e w2 ⟨rfl, hb1⟩
      go_wp2_with fail
      refine (HI.out _).mono ?_
      rintro e w' ⟨rfl, rfl⟩
      have hv := V3.out.keep (hb1)
      obtain ⟨q0, q1, q2, q3⟩ := hv.tells2
      obtain ⟨f0, f1, f2, f3⟩ := fin_plane (w := w) hv (OwnR.nil _ w.heap.size 0) (.inr (Nat.zero_le _)) (by omega) (Nat.zero_le _) (below_step HB.out (hb1)) (.int .i64 0) (.slice none 0 0)
      have F2 := Lib.hid f2
      have F3 := Lib.hid f3
      clear f2 f3 hv
      go_wp2
      exact bodyPost_ret (v := .tuple #[.agg #[.int .i64 0, .slice none 0 0], .int .i64 (2)]) (by simp [results, Try.results51, go_sem, f0, f1]) rfl ⟨_, rfl, F2.out, F3.out⟩
  · have h0' : isP m t = false := by simpa using h0
    have hc := HC.out
    rw [codeP1_no h0'] at hc
    have HC0 := Lib.hid hc
    have HA : Hid (parP m t k = (0, [], 1)) := Lib.hid (by unfold parP; rw [if_neg h0])
    rw [HA.out]
    clear b1 v3 b4 hwb hW hr hc HC h0 h0'
    go_enter Try.func51, Try.ntmps51
    go_wp2_with fail
    rw [HW.out]
    refine HC0.out.mono ?_
    rintro e w1 ⟨rfl, hb1⟩
    have hv := V3.out.keep (hb1)
    obtain ⟨q0, q1, q2, q3⟩ := hv.tells2
    obtain ⟨f0, f1, f2, f3⟩ := fin_plane (w := w) hv (OwnR.nil _ w.heap.size 0) (.inr (Nat.zero_le _)) (by omega) (Nat.zero_le _) (below_step HB.out (hb1)) (.int .i64 0) (.slice none 0 0)
    have F2 := Lib.hid f2
    have F3 := Lib.hid f3
    clear f2 f3 hv
    go_wp2
    exact bodyPost_ret (v := .tuple #[.agg #[.int .i64 0, .slice none 0 0], .int .i64 (1)]) (by simp [results, Try.results51, go_sem, f0, f1]) rfl ⟨_, rfl, F2.out, F3.out⟩
theorem part_row {m : Int} {d D : Nat} {t : List (List Int)} (hd : d = D + 1) (q : Nat) (h : q ≤ D) : Ser.cut m (D - q) (derF t q) = scaR m (d - (q + 1)) (Pl.rw' t (q + 1)) (((q : Int) + 1) % m) := by
  subst hd
  unfold scaR
  rw [show D + 1 - (q + 1) = D - q by omega]
  refine Ser.cut_congr (fun j _ => ?_)
  unfold derF Pl.pc
  rw [Int.mul_comm (Ser.co _ _)]
  exact (Ser.mul_cong (Int.emod_emod _ _) rfl).symm
set_option maxHeartbeats 2000000 in
set_option maxRecDepth 100000 in
theorem l03Partial_any (m : Int) (d D : Nat) (A : Option Addr) (c : Nat) (t : List (List Int)) (w : World) (hdD : d = D + 1) (hs : Pl.Ok m d t) (hr : RP w A t) :
    Calls Try.prog 102 #[.int .i64 m, .slice A t.length c] w fun e w' => ∃ v, e = .returned v ∧ OwnR w' w.heap.size w'.heap.size v (Pl.tab m D (derF t)) ∧ Below w.heap.size w w' := by
  have HR := Lib.hid hr
  have HS := Lib.hid hs
  have hl := hs.len
  have hd2 := hs.d2
  have m1 := hs.m1
  have m2 := hs.m2
  have hm0 : ¬ m = 0 := by omega
  obtain ⟨L, hL⟩ : ∃ L, t.length = L := ⟨_, rfl⟩
  have HL := Lib.hid (show L = D + 1 + 1 by omega)
  have HD := Lib.hid hdD
  have hLb : L ≤ 11 := by omega
  rw [hL]
  clear hr hs hL hl hdD
  go_enter Try.func102, Try.ntmps102
  go_wp2
  go_loopw [5, 6] (fun r i wr => ∃ q : Nat, q ≤ D + 1 ∧ i = .int .i64 ((q : Int) + 1) ∧ OwnR wr w.heap.size wr.heap.size r ((Pl.tab m D (derF t)).take q) ∧ Below w.heap.size w wr) (fun _ i _ => L - (intOf i).toNat)
  case atStart => exact ⟨0, Nat.zero_le _, rfl, by simpa using OwnR.none0 w, below_one _ _⟩
  case round =>
    obtain ⟨q, hq, rfl, hown, hbel⟩ := hrel
    have HB := Lib.hid hbel
    have HO := Lib.hid hown
    have hsz := hbel.size
    clear hown
    have hLd := HL.out
    by_cases hlt : q < D + 1
    · obtain ⟨b, off, A1, c1, rfl, hb, hc, -, hri⟩ := HR.out.at (q + 1) (by rw [HS.out.len, HD.out]; omega)
      have e1 := (hbel.cell (p := ⟨b, off + (q + 1), none⟩) hb).trans hc
      obtain ⟨K, hK⟩ : ∃ K, ((q : Int) + 1) % m = K := ⟨_, rfl⟩
      have hK0 := Int.emod_nonneg ((q : Int) + 1) hm0
      have hK1 := Int.emod_lt_of_pos ((q : Int) + 1) (show 0 < m by omega)
      rw [hK] at hK0 hK1
      have HA : Hid (∀ W : World, Below w.heap.size w W → Calls Try.prog 108 #[.int .i64 m, .int .i64 K, .slice A1 (Pl.rw' t (q + 1)).length c1] W fun e w' => ∃ v, e = .returned v ∧ OwnI w' W.heap.size v (scaR m (d - (q + 1)) (Pl.rw' t (q + 1)) K) ∧ Below W.heap.size W w') :=
        Lib.hid (fun W hW => l02ScaleR_any m (d - (q + 1)) K A1 c1 _ W (HS.out.rowOk (q + 1) (by rw [HD.out]; omega)) (hri.below hW) hK0 hK1)
      have hst : (Pl.tab m D (derF t)).take (q + 1) = (Pl.tab m D (derF t)).take q ++ [scaR m (d - (q + 1)) (Pl.rw' t (q + 1)) K] := by rw [Pl.tab_take_succ m D _ q (by omega), part_row HD.out q (by omega), hK]
      have HLEN := Lib.hid (show ((Pl.tab m D (derF t)).take q).length ≤ 1000000000000 by rw [List.length_take, Pl.tab_length]; omega)
      obtain ⟨N, hN⟩ : ∃ N, (Pl.rw' t (q + 1)).length = N := ⟨_, rfl⟩
      obtain ⟨row, hrow⟩ : ∃ row, scaR m (d - (q + 1)) (Pl.rw' t (q + 1)) K = row := ⟨_, rfl⟩
      rw [hrow] at HA hst
      rw [hN] at e1 hc HA
      obtain ⟨s, hs⟩ : ∃ s, off + (q + 1) = s := ⟨_, rfl⟩
      rw [hs] at e1 hc
      have HST := Lib.hid hst
      have C1 := Lib.hid hc
      have hrem : ((q : Int) + 1).tmod m = K := by rw [Int.tmod_eq_emod_of_nonneg (by omega), hK]
      have j0 : (0 : Int) ≤ (q : Int) + 1 := by omega
      have j1 : (q : Int) + 1 < (L : Int) := by omega
      have j2 : ((q : Int) + 1).toNat = q + 1 := by omega
      clear hst hN hrow hri hc hbel hLd
      go_wp2
      go_region_held3 (fun w' => w'.cell? ⟨b, s, none⟩ = some (.slice A1 N c1) ∧ ¬ m = 0) (first | exact ⟨e1, hm0⟩ | exact ⟨(hb5.cell (World.block_lt_of_cell? _ _ e1)).trans e1, hm0⟩ | exact ⟨(hB6.cell hb).trans C1.out, hm0⟩ | exact ⟨((below_one _ _).cell (World.block_lt_of_cell? _ _ (And.left (by assumption)))).trans (And.left (by assumption)), hm0⟩) (first
        | (go_at_call 108; refine (HA.out _ HB.out.drew).mono ?_; rintro e w5 ⟨u, rfl, hou, hb5⟩; obtain ⟨Au, cu, rfl, -⟩ := hou.form)
        | (refine step_pushU _ _ _ (by rfl) (by rfl) Try.underlying22 w.heap.size wr.heap.size _ _ (by rfl) (HO.out.keep ((below_step (below_drew0 wr) hb5).trans ((below_one w5 _).mono hb5.size))) (Nat.le_trans hb5.size (below_one w5 _).size) _ row ((hou.alloc _).more hsz) (fun g hg => (hou.lt g hg).1) w5.heap.size (by rfl) (by rw [World.cell?_alloc_at _ _ _ _ rfl]; rfl) HLEN.out (Nat.le_trans hsz (Nat.le_trans hb5.size (below_one w5 _).size)) ?_; intro v' w1 ho1 hpb; have hB6 : Below w.heap.size w w1 := ((HB.out.drew.trans (hb5.mono hsz)).trans ((below_one w5 (.cells #[.slice Au row.length cu] 45)).mono (Nat.le_trans hsz hb5.size))).trans hpb))
      all_goals
        have HB1 := Lib.hid hB6
        have HO1 := Lib.hid ho1
        clear hB6 ho1 hpb hou hb5
        go_wp2
        go_roundw
        case rel => exact ⟨q + 1, by omega, by first | rfl | (congr 1; push_cast; omega) | go_num, by rw [HST.out]; exact HO1.out, HB1.out⟩
        case measure => simp only [intOf]; omega
    · obtain rfl : q = D + 1 := by omega
      have ho := HO.out
      rw [Pl.tab_take_all] at ho
      have HF := Lib.hid ho
      have hend : ¬ (((D + 1 : Nat) : Int) + 1 < (L : Int)) := by omega
      clear ho hLd
      go_wp2
      go_ret
      exact ⟨_, rfl, HF.out, HB.out⟩
end Go.Proofs.Ytjgpdgoclianlaa
