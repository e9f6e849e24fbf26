/- Texts of contracts, joined. -/
import Derived.Test.YtpmbojbdppbkgaaMgaw
/- Contracts of LawOfCurve, of the program. -/
namespace Go.Proofs.Ytpmbojbdppbkgaa
open Go.RowKit Go.WideShapes Go.ChangeShapes Go.ChangeAt

theorem PS_two {T : TypeId} {W : World} {g : Nat} {m : Int} {d : Nat} {A : Option Addr} {c : Nat} {l : List Int} {A1 : Option Addr} {c1 : Nat} {R : List Int} (hv : VarC T W g #[.iface 88 (.agg #[.int .i64 m, .slice A l.length c]), .iface 92 (.agg #[.int .i64 m, .slice A1 R.length c1])])
    (ra : RI W A l) (rb : RI W A1 R) (s1 : SerOk m d l) (z1 : Ser.co l 0 = 0) (s2 : SerOk m d R) (z2 : Ser.co R 0 = 0) : PS W g m d [(true, A, c, l), (false, A1, c1, R)] := by
  refine ⟨hv.lt, fun k b A' c' l' hk => ?_⟩
  rcases k with _ | _ | k
  · simp at hk
    obtain ⟨rfl, rfl, rfl, rfl⟩ := hk
    exact ⟨hv.cell 0 _ rfl, ra, s1, z1⟩
  · simp at hk
    obtain ⟨rfl, rfl, rfl, rfl⟩ := hk
    exact ⟨hv.cell 1 _ rfl, rb, s2, z2⟩
  · simp at hk
theorem VarC.new1 (t : TypeId) (w : World) (o : Obj) (cs : Array Value) : VarC t ((w.alloc o).alloc (.cells cs t)) (w.heap.size + 1) cs := by
  have := VarC.new t (w.alloc o) cs
  simpa using this
theorem across2_any (m : Int) (d : Nat) (A : Option Addr) (c : Nat) (l : List Int) (A1 : Option Addr) (c1 : Nat) (R : List Int) (g : Nat) (w : World) (hs : SerOk m d l) (hz : Ser.co l 0 = 0) (hp : PS w g m d [(true, A, c, l), (false, A1, c1, R)]) :
    Calls Try.prog 98 #[.agg #[.int .i64 m, .int .i64 d], .slice (some ⟨g, 0, none⟩) 2 2] w fun e w' => ∃ v, e = .returned (.agg #[.int .i64 m, .int .i64 d, v]) ∧ OwnR w' w.heap.size w'.heap.size v (Pl.hor m d R (Pl.pc (Pl.tab m d (sumF l))) (d + 1)) ∧ Below w.heap.size w w' := by
  have h := additionAcross_any m d g _ w hs.m1 hs.m2 hs.d1 hs.d2 hp (by simp) (fun k A' c' l' hk => by
    rcases k with _ | _ | k
    · simp at hk
    · show Pl.pc (acrT m d [(true, A, c, l)]) 0 0 = 0
      rw [acr_log hs hz]
      exact sum_00 _ _ _
    · simp at hk)
  rw [acr_both hs hz] at h
  exact h
set_option maxHeartbeats 16000000 in
set_option maxRecDepth 100000 in
theorem LawOfCurve_any (m : Int) (A : Option Addr) (c : Nat) (l : List Int) (w : World) (hl : l.length ≤ 1048576) (hr : RI w A l) :
    Calls Try.prog 48 #[.agg #[.int .i64 m, .slice A l.length c]] w fun e w' => ∃ s, e = .returned (.tuple #[.agg #[.int .i64 (locM m l).1, s], .int .i64 (locM m l).2.2]) ∧ OwnR w' w.heap.size w'.heap.size s (locM m l).2.1 ∧ Below w.heap.size w w' := by
  obtain ⟨W, hW, b1, v3, hwb⟩ := spro1T w m A l.length c
  have B1 := Lib.hid b1
  have V3 := Lib.hid v3
  have HB := Lib.hid hwb
  have HW := Lib.hid hW
  have R1 := Lib.hid (hr.below hwb)
  have HC := Lib.hid (ReverseSeries_any m A c l W (by omega) R1.out)
  clear b1 v3 hwb hW hr
  have bad : ∀ C : Int, rvsM m l = (0, [], C) → locM m l = (0, [], C) → (C == 0) = false → Calls Try.prog 48 #[.agg #[.int .i64 m, .slice A l.length c]] w fun e w' => ∃ s, e = .returned (.tuple #[.agg #[.int .i64 (locM m l).1, s], .int .i64 (locM m l).2.2]) ∧ OwnR w' w.heap.size w'.heap.size s (locM m l).2.1 ∧ Below w.heap.size w w' := by
    intro C e1 e2 n1
    rw [e2]
    have hc := HC.out
    rw [e1] at hc
    have HC0 := Lib.hid hc
    have n2 : (C != 0) = true := by simp [bne, n1]
    clear hc HC e1 e2
    go_enter Try.func48, Try.ntmps48
    go_wp2_with fail
    rw [HW.out]
    refine HC0.out.mono ?_
    rintro e w1 ⟨s1, rfl, ho1, hb1⟩
    obtain ⟨A1, c1, rfl, -⟩ := ho1.form
    have hv := V3.out.keep (below_alloc (.cells #[.int .i64 0, .slice A1 0 c1] 28) hb1)
    obtain ⟨q0, q1, q2, q3⟩ := hv.tells2
    obtain ⟨f0, f1, f2, f3⟩ := fin_plane (w := w) hv (OwnR.nil _ w.heap.size 0) (.inr (Nat.zero_le _)) (by omega) (Nat.zero_le _) (below_step HB.out (below_alloc (.cells #[.int .i64 0, .slice A1 0 c1] 28) hb1)) (.int .i64 0) (.slice none 0 0)
    have F2 := Lib.hid f2
    have F3 := Lib.hid f3
    clear f2 f3 hv
    go_wp2
    exact bodyPost_ret (v := .tuple #[.agg #[.int .i64 0, .slice none 0 0], .int .i64 (C)]) (by simp [results, Try.results48, go_sem, f0, f1]) rfl ⟨_, rfl, F2.out, F3.out⟩
  by_cases h0 : isS m l = true
  · obtain ⟨d, e1, hs⟩ := serOk_of h0
    by_cases hk : Ser.co l 0 = 0 ∧ gcdI (Ser.co l 1) m = 1
    · have HA : Hid (locM m l = (m, lawT m d l, 0)) := Lib.hid (by unfold locM; rw [if_pos h0, if_pos hk, e1]; rfl)
      rw [HA.out]
      have hc := HC.out
      rw [rvs_rev hs hk.1, if_pos hk.2] at hc
      have hro := revL_ok hs
      have hrz := revL_zero m l
      have hm2 := hs.m2
      have hd2 := hs.d2
      have HF := Lib.hid (fun W0 => frameOfSeries_any m A l.length c d W0 hs.len (by have := hs.d2; omega))
      have HAC := Lib.hid (fun (A1 : Option Addr) (c1 g : Nat) (W0 : World) (hp : PS W0 g m d [(true, A, c, l), (false, A1, c1, revL m l)]) => across2_any m d A c l A1 c1 (revL m l) g W0 hs hk.1 hp)
      rw [show Pl.hor m d (revL m l) (Pl.pc (Pl.tab m d (sumF l))) (d + 1) = lawT m d l from rfl] at HAC
      have hlt : (lawT m d l).length = d + 1 := (lawT_ok hs).len
      have HP2 := Lib.hid (fun (T : TypeId) (W0 : World) (g : Nat) (A1 : Option Addr) (c1 : Nat) (hv : VarC T W0 g #[.iface 88 (.agg #[.int .i64 m, .slice A l.length c]), .iface 92 (.agg #[.int .i64 m, .slice A1 (revL m l).length c1])]) (ra : RI W0 A l) (rb : RI W0 A1 (revL m l)) => PS_two (d := d) hv ra rb hs hk.1 hro hrz)
      obtain ⟨R, hR⟩ : ∃ R, revL m l = R := ⟨_, rfl⟩
      obtain ⟨T, hT⟩ : ∃ T, lawT m d l = T := ⟨_, rfl⟩
      rw [hR] at HP2 hc
      rw [hR, hT] at HAC
      rw [hT] at hlt
      rw [hT]
      have HC0 := Lib.hid hc
      have HLT := Lib.hid hlt
      obtain ⟨N, hN⟩ : ∃ N, l.length = N := ⟨_, rfl⟩
      rw [hN] at HP2 HW B1 HF HC0
      rw [hN]
      clear hc HC bad e1 h0 hk hro hrz hR hT hlt hN hl
      go_enter Try.func48, Try.ntmps48
      go_wp2_with fail
      rw [HW.out]
      refine HC0.out.mono ?_
      rintro e w1 ⟨s1, rfl, ho1, hb1⟩
      obtain ⟨A1, c1, rfl, -⟩ := ho1.form
      have hro := (ho1.keep (below_one w1 (.cells #[.int .i64 m, .slice A1 R.length c1] 28))).ri
      have hbx := Box.newT 28 w1 m A1 R.length c1
      have hb2 := below_alloc (.cells #[.int .i64 m, .slice A1 R.length c1] 28) hb1
      obtain ⟨w2, hw2⟩ : ∃ w2, w1.alloc (.cells #[.int .i64 m, .slice A1 R.length c1] 28) = w2 := ⟨_, rfl⟩
      rw [hw2] at hro hbx hb2
      have RB := Lib.hid hro
      have HW2 := Lib.hid hw2
      have HB2 := Lib.hid hb2
      have Y1 := Lib.hid (B1.out.keep hb2)
      have Y2 := Lib.hid hbx
      have RA2 := Lib.hid (R1.out.below hb2)
      clear hro hbx hb2 hw2 ho1 hb1
      go_upto_region 4 with fail
      rw [HW2.out]
      clear HW2
      go_cut [6] (fun s6 wx => ∃ g A1 c1 lo hi, s6 = .pointer (some ⟨g, 0, none⟩) ∧ VarC 66 wx g #[.int .i64 m, .int .i64 d, .slice A1 T.length c1] ∧ OwnR wx lo hi (.slice A1 T.length c1) T ∧ (g < lo ∨ hi ≤ g) ∧ w2.heap.size ≤ lo ∧ hi ≤ wx.heap.size ∧ Below w2.heap.size w2 wx ∧ w2.heap.size ≤ g)
      case first =>
        go_region_held3 (fun w' => (w'.cell? ⟨w.heap.size, 0, none⟩ = some (.int .i64 m) ∧ w'.cell? ⟨w.heap.size, 1, none⟩ = some (.slice A N c)) ∧ (w'.cell? ⟨w1.heap.size, 0, none⟩ = some (.int .i64 m) ∧ w'.cell? ⟨w1.heap.size, 1, none⟩ = some (.slice A1 R.length c1)) ∧ Below w2.heap.size w2 w') (first | exact box2_in Y1.out Y2.out (reg_finG hwg hgc hle hv hog hbel m d).2.2.2.2.2.1 | exact box2_in Y1.out Y2.out (below_drew0 _) | with_reducible exact box2_in Y1.out Y2.out hbel | with_reducible exact box2_in Y1.out Y2.out hka | exact box2_alloc Y1.out Y2.out (by assumption) | exact box2_in Y1.out Y2.out (below_alloc _ hbel) | exact (by assumption)) (first
          | (go_at_call 107; with_reducible refine Calls.mono (HF.out _) ?_; rintro e wa ⟨rfl, hba⟩; obtain ⟨hka, hla⟩ := reg_end2 (by assumption) hba)
          | (go_at_call 98; with_reducible refine Calls.mono (HAC.out A1 c1 _ _ (by first
              | with_reducible exact HP2.out _ _ _ A1 c1 (VarC.new _ wa _) (RA2.out.below (trd (by assumption))) (RB.out.below (trd (by assumption)))
              | with_reducible exact HP2.out _ _ _ A1 c1 ((VarC.new _ wa _).keep (below_one _ _)) (RA2.out.below (trd (by assumption))) (RB.out.below (trd (by assumption)))
              | with_reducible exact HP2.out _ _ _ A1 c1 (VarC.new1 _ wa _ _) (RA2.out.below (trd (by assumption))) (RB.out.below (trd (by assumption)))
              | with_reducible exact HP2.out _ _ _ A1 c1 ((VarC.new _ w2 _).drew.keep hba) (RA2.out.below (trd (by assumption))) (RB.out.below (trd (by assumption)))
              | with_reducible exact HP2.out _ _ _ A1 c1 (((VarC.new _ w2 _).drew.keep hba).keep (below_one _ _)) (RA2.out.below (trd (by assumption))) (RB.out.below (trd (by assumption)))
              | with_reducible exact HP2.out _ _ _ A1 c1 ((((VarC.new _ w2 _).keep (below_one _ _)).drew).keep hba) (RA2.out.below (trd (by assumption))) (RB.out.below (trd (by assumption)))
              | with_reducible exact HP2.out _ _ _ A1 c1 ((VarC.new1 _ w2 _ _).drew.keep hba) (RA2.out.below (trd (by assumption))) (RB.out.below (trd (by assumption))))) ?_; rintro e wd ⟨sg, rfl, hog, hbd⟩; obtain ⟨Ag, cg, rfl, -⟩ := hog.len; obtain ⟨hbel, hle⟩ := reg_end2 (by assumption) hbd; first | (with_reducible refine use_it (varC_keep ((((VarC.new 66 w2 _).keep (below_one _ _)).drew).keep hba) hbd) ?_; rintro ⟨hv, hgc⟩; have hwg := varC_at (k := w2.heap.size) hv (Nat.le_refl _); obtain ⟨q0, q1, q2, q3, q4, q5⟩ := hv.tells3) | (with_reducible refine use_it (varC_keep (((VarC.new 66 w2 _).drew.keep hba).keep (below_one _ _)) hbd) ?_; rintro ⟨hv, hgc⟩; have hwg := varC_at (k := w2.heap.size) hv (Nat.le_refl _); obtain ⟨q0, q1, q2, q3, q4, q5⟩ := hv.tells3) | (with_reducible refine use_it (varC_keep ((VarC.new1 66 w2 _ _).drew.keep hba) hbd) ?_; rintro ⟨hv, hgc⟩; have hwg := varC_at (k := w2.heap.size) hv (Nat.le_succ _); obtain ⟨q0, q1, q2, q3, q4, q5⟩ := hv.tells3) | (with_reducible refine use_it (varC_keep ((VarC.new 66 wa _).keep (below_one _ _)) hbd) ?_; rintro ⟨hv, hgc⟩; have hwg := varC_at (k := w2.heap.size) hv (hka.size); obtain ⟨q0, q1, q2, q3, q4, q5⟩ := hv.tells3) | (with_reducible refine use_it (varC_keep (VarC.new1 66 wa _ _) hbd) ?_; rintro ⟨hv, hgc⟩; have hwg := varC_at (k := w2.heap.size) hv (Nat.le_trans hka.size (Nat.le_succ _)); obtain ⟨q0, q1, q2, q3, q4, q5⟩ := hv.tells3) | (with_reducible refine use_it (varC_keep (VarC.new 66 wa _) hbd) ?_; rintro ⟨hv, hgc⟩; have hwg := varC_at (k := w2.heap.size) hv (hka.size); obtain ⟨q0, q1, q2, q3, q4, q5⟩ := hv.tells3) | skip))
        all_goals
          go_wp2_with fail
          go_meet
          case rel => first | exact ⟨_, _, _, _, _, rfl, reg_finG hwg hgc hle hv hog hbel m d⟩ | exact ⟨_, _, _, _, _, rfl, reg_newG hle hog hbel m d _⟩
      case rest =>
        obtain ⟨w3, hwc⟩ : ∃ w9, w9 = wc := ⟨_, rfl⟩
        subst hwc
        obtain ⟨g7, A7, c7, lo7, hi7, rfl, v7, o7, hg7, hl7, hh7, hb7, hgw⟩ := hcut
        have V7 := Lib.hid v7
        have O7 := Lib.hid o7
        have B7 := Lib.hid hb7
        obtain ⟨x1, x2, x3, -⟩ := v7.tells3
        clear v7 o7 hb7 HF HAC HP2 RB RA2 hg7
        go_wp2_with fail
        refine (plane_any _ _ _ _ _ _).mono ?_
        rintro e w4 ⟨rfl, hb4⟩
        have hb := below_step (below_step HB2.out B7.out) hb4
        have hv := V3.out.keep hb
        obtain ⟨q0, q1, q2, q3⟩ := hv.tells2
        obtain ⟨f0, f1, f2, f3⟩ := fin_plane (w := w) hv (O7.out.keep (hb4.mono hh7)) (.inl (by have := V3.out.lt; have := HB2.out.size; omega)) (by omega) (Nat.le_trans hh7 hb4.size) (below_step HB.out hb) (.int .i64 m) (.slice A7 T.length c7)
        have F2 := Lib.hid (f2.low (show w.heap.size ≤ lo7 by have := V3.out.lt; have := HB2.out.size; omega))
        have F3 := Lib.hid f3
        clear f2 f3 hv hb hb4
        go_wp2
        exact bodyPost_ret (v := .tuple #[.agg #[.int .i64 m, .slice A7 T.length c7], .int .i64 0]) (by simp [results, Try.results48, go_sem, f0, f1]) rfl ⟨_, rfl, F2.out, F3.out⟩
    · exact bad 5 (by unfold rvsM; rw [if_pos h0, if_neg hk]) (by unfold locM; rw [if_pos h0, if_neg hk]) rfl
  · exact bad 1 (by unfold rvsM; rw [if_neg h0]) (by unfold locM; rw [if_neg h0]) rfl
end Go.Proofs.Ytpmbojbdppbkgaa

