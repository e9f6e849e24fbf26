/- Texts of contracts, joined. -/
import Derived.Test.YtlpfifdocgljnaaMgaq
import Derived.Test.YtlpfifdocgljnaaMgan
import Derived.Deep.QuietTactic
import Derived.BigQuiet
import Derived.Test.YtlpfifdocgljnaaMgaj
import Derived.Test.YtlpfifdocgljnaaMgac
import Derived.Test.YtlpfifdocgljnaaMgad
/- Contracts of LawOfCurve, of the program. -/
namespace Go.Proofs.Ytlpfifdocgljnaa
open Go.RowKit Go.WideShapes Go.ChangeShapes Go.ChangeAt

theorem PS_two {T : TypeId} {W : World} {g : Nat} {m : Int} {d : Nat} {A : Option Addr} {c : Nat} {l : List Int} {A1 : Option Addr} {c1 : Nat} {R : List Int} (hv : VarC T W g #[.iface 63 (.agg #[.int .i64 m, .slice A l.length c]), .iface 90 (.agg #[.int .i64 m, .slice A1 R.length c1])])
    (ra : RI W A l) (rb : RI W A1 R) (s1 : SerOk m d l) (z1 : Ser.co l 0 = 0) (s2 : SerOk m d R) (z2 : Ser.co R 0 = 0) : PS W g m d [(true, A, c, l), (false, A1, c1, R)] := by
  refine ⟨hv.lt, fun k b A' c' l' hk => ?_⟩
  rcases k with _ | _ | k
  · simp at hk
    obtain ⟨rfl, rfl, rfl, rfl⟩ := hk
    exact ⟨hv.cell 0 _ rfl, ra, s1, z1⟩
  · simp at hk
    obtain ⟨rfl, rfl, rfl, rfl⟩ := hk
    exact ⟨hv.cell 1 _ rfl, rb, s2, z2⟩
  · simp at hk
theorem VarC.new1 (t : TypeId) (w : World) (o : Obj) (cs : Array Value) : VarC t ((w.alloc o).alloc (.cells cs t)) (w.heap.size + 1) cs := by
  have := VarC.new t (w.alloc o) cs
  simpa using this
theorem across2_any (m : Int) (d : Nat) (A : Option Addr) (c : Nat) (l : List Int) (A1 : Option Addr) (c1 : Nat) (R : List Int) (g : Nat) (w : World) (hs : SerOk m d l) (hz : Ser.co l 0 = 0) (hp : PS w g m d [(true, A, c, l), (false, A1, c1, R)]) :
    Calls Try.prog 34 #[.agg #[.int .i64 m, .int .i64 d], .slice (some ⟨g, 0, none⟩) 2 2] w fun e w' => ∃ v, e = .returned (.agg #[.int .i64 m, .int .i64 d, v]) ∧ OwnR w' w.heap.size w'.heap.size v (Pl.hor m d R (Pl.pc (Pl.tab m d (sumF l))) (d + 1)) ∧ Below w.heap.size w w' := by
  have h := additionAcross_any m d g _ w hs.m1 hs.m2 hs.d1 hs.d2 hp (by simp) (fun k A' c' l' hk => by
    rcases k with _ | _ | k
    · simp at hk
    · show Pl.pc (acrT m d [(true, A, c, l)]) 0 0 = 0
      rw [acr_log hs hz]
      exact sum_00 _ _ _
    · simp at hk)
  rw [acr_both hs hz] at h
  exact h
set_option maxHeartbeats 16000000 in
set_option maxRecDepth 100000 in
theorem LawOfCurve_any (m : Int) (A : Option Addr) (c : Nat) (l : List Int) (w : World) (hl : l.length ≤ 1048576) (hr : RI w A l) :
    Calls Try.prog 46 #[.agg #[.int .i64 m, .slice A l.length c]] w fun e w' => ∃ s, e = .returned (.tuple #[.agg #[.int .i64 (locM m l).1, s], .int .i64 (locM m l).2.2]) ∧ OwnR w' w.heap.size w'.heap.size s (locM m l).2.1 ∧ Below w.heap.size w w' := by
  obtain ⟨W, hW, b1, v3, hwb⟩ := spro1T w m A l.length c
  have B1 := Lib.hid b1
  have V3 := Lib.hid v3
  have HB := Lib.hid hwb
  have HW := Lib.hid hW
  have R1 := Lib.hid (hr.below hwb)
  have HC := Lib.hid (ReverseSeries_any m A c l W (by omega) R1.out)
  clear b1 v3 hwb hW hr
  have bad : ∀ C : Int, rvsM m l = (0, [], C) → locM m l = (0, [], C) → (C == 0) = false → Calls Try.prog 46 #[.agg #[.int .i64 m, .slice A l.length c]] w fun e w' => ∃ s, e = .returned (.tuple #[.agg #[.int .i64 (locM m l).1, s], .int .i64 (locM m l).2.2]) ∧ OwnR w' w.heap.size w'.heap.size s (locM m l).2.1 ∧ Below w.heap.size w w' := by
    intro C e1 e2 n1
    rw [e2]
    have hc := HC.out
    rw [e1] at hc
    have HC0 := Lib.hid hc
    have n2 : (C != 0) = true := by simp [bne, n1]
    clear hc HC e1 e2
    go_enter Try.func46, Try.ntmps46
    go_wp2_with fail
    rw [HW.out]
    refine HC0.out.mono ?_
    rintro e w1 ⟨s1, rfl, ho1, hb1⟩
    obtain ⟨A1, c1, rfl, -⟩ := ho1.form
    have hv := V3.out.keep (below_alloc (.cells #[.int .i64 0, .slice A1 0 c1] 34) hb1)
    obtain ⟨q0, q1, q2, q3⟩ := hv.tells2
    obtain ⟨f0, f1, f2, f3⟩ := fin_plane (w := w) hv (OwnR.nil _ w.heap.size 0) (.inr (Nat.zero_le _)) (by omega) (Nat.zero_le _) (below_step HB.out (below_alloc (.cells #[.int .i64 0, .slice A1 0 c1] 34) hb1)) (.int .i64 0) (.slice none 0 0)
    have F2 := Lib.hid f2
    have F3 := Lib.hid f3
    clear f2 f3 hv
    go_wp2
    exact bodyPost_ret (v := .tuple #[.agg #[.int .i64 0, .slice none 0 0], .int .i64 (C)]) (by simp [results, Try.results46, go_sem, f0, f1]) rfl ⟨_, rfl, F2.out, F3.out⟩
  by_cases h0 : isS m l = true
  · obtain ⟨d, e1, hs⟩ := serOk_of h0
    by_cases hk : Ser.co l 0 = 0 ∧ gcdI (Ser.co l 1) m = 1
    · have HA : Hid (locM m l = (m, lawT m d l, 0)) := Lib.hid (by unfold locM; rw [if_pos h0, if_pos hk, e1]; rfl)
      rw [HA.out]
      have hc := HC.out
      rw [rvs_rev hs hk.1, if_pos hk.2] at hc
      have hro := revL_ok hs
      have hrz := revL_zero m l
      have hm2 := hs.m2
      have hd2 := hs.d2
      have HF := Lib.hid (fun W0 => frameOfSeries_any m A l.length c d W0 hs.len (by have := hs.d2; omega))
      have HAC := Lib.hid (fun (A1 : Option Addr) (c1 g : Nat) (W0 : World) (hp : PS W0 g m d [(true, A, c, l), (false, A1, c1, revL m l)]) => across2_any m d A c l A1 c1 (revL m l) g W0 hs hk.1 hp)
      rw [show Pl.hor m d (revL m l) (Pl.pc (Pl.tab m d (sumF l))) (d + 1) = lawT m d l from rfl] at HAC
      have hlt : (lawT m d l).length = d + 1 := (lawT_ok hs).len
      have HP2 := Lib.hid (fun (T : TypeId) (W0 : World) (g : Nat) (A1 : Option Addr) (c1 : Nat) (hv : VarC T W0 g #[.iface 63 (.agg #[.int .i64 m, .slice A l.length c]), .iface 90 (.agg #[.int .i64 m, .slice A1 (revL m l).length c1])]) (ra : RI W0 A l) (rb : RI W0 A1 (revL m l)) => PS_two (d := d) hv ra rb hs hk.1 hro hrz)
      obtain ⟨R, hR⟩ : ∃ R, revL m l = R := ⟨_, rfl⟩
      obtain ⟨T, hT⟩ : ∃ T, lawT m d l = T := ⟨_, rfl⟩
      rw [hR] at HP2 hc
      rw [hR, hT] at HAC
      rw [hT] at hlt
      rw [hT]
      have HC0 := Lib.hid hc
      have HLT := Lib.hid hlt
      obtain ⟨N, hN⟩ : ∃ N, l.length = N := ⟨_, rfl⟩
      rw [hN] at HP2 HW B1 HF HC0
      rw [hN]
      clear hc HC bad e1 h0 hk hro hrz hR hT hlt hN hl
      go_enter Try.func46, Try.ntmps46
      go_wp2_with fail
      rw [HW.out]
      refine HC0.out.mono ?_
      rintro e w1 ⟨s1, rfl, ho1, hb1⟩
      obtain ⟨A1, c1, rfl, -⟩ := ho1.form
      have hro := (ho1.keep (below_one w1 (.cells #[.int .i64 m, .slice A1 R.length c1] 34))).ri
      have hbx := Box.newT 34 w1 m A1 R.length c1
      have hb2 := below_alloc (.cells #[.int .i64 m, .slice A1 R.length c1] 34) hb1
      obtain ⟨w2, hw2⟩ : ∃ w2, w1.alloc (.cells #[.int .i64 m, .slice A1 R.length c1] 34) = w2 := ⟨_, rfl⟩
      rw [hw2] at hro hbx hb2
      have RB := Lib.hid hro
      have HW2 := Lib.hid hw2
      have HB2 := Lib.hid hb2
      have Y1 := Lib.hid (B1.out.keep hb2)
      have Y2 := Lib.hid hbx
      have RA2 := Lib.hid (R1.out.below hb2)
      clear hro hbx hb2 hw2 ho1 hb1
      go_upto_region 4 with fail
      rw [HW2.out]
      clear HW2
      go_cut [6] (fun s6 wx => ∃ g A1 c1 lo hi, s6 = .pointer (some ⟨g, 0, none⟩) ∧ VarC 59 wx g #[.int .i64 m, .int .i64 d, .slice A1 T.length c1] ∧ OwnR wx lo hi (.slice A1 T.length c1) T ∧ (g < lo ∨ hi ≤ g) ∧ w2.heap.size ≤ lo ∧ hi ≤ wx.heap.size ∧ Below w2.heap.size w2 wx ∧ w2.heap.size ≤ g)
      case first =>
        go_region_held3 (fun w' => (w'.cell? ⟨w.heap.size, 0, none⟩ = some (.int .i64 m) ∧ w'.cell? ⟨w.heap.size, 1, none⟩ = some (.slice A N c)) ∧ (w'.cell? ⟨w1.heap.size, 0, none⟩ = some (.int .i64 m) ∧ w'.cell? ⟨w1.heap.size, 1, none⟩ = some (.slice A1 R.length c1)) ∧ Below w2.heap.size w2 w') (first | exact box2_in Y1.out Y2.out (reg_finG hwg hgc hle hv hog hbel m d).2.2.2.2.2.1 | exact box2_in Y1.out Y2.out (below_drew0 _) | with_reducible exact box2_in Y1.out Y2.out hbel | with_reducible exact box2_in Y1.out Y2.out hka | exact box2_alloc Y1.out Y2.out (by assumption) | exact box2_in Y1.out Y2.out (below_alloc _ hbel) | exact (by assumption)) (first
          | (go_at_call 81; with_reducible refine Calls.mono (HF.out _) ?_; rintro e wa ⟨rfl, hba⟩; obtain ⟨hka, hla⟩ := reg_end2 (by assumption) hba)
          | (go_at_call 34; with_reducible refine Calls.mono (HAC.out A1 c1 _ _ (by first
              | with_reducible exact HP2.out _ _ _ A1 c1 (VarC.new _ wa _) (RA2.out.below (trd (by assumption))) (RB.out.below (trd (by assumption)))
              | with_reducible exact HP2.out _ _ _ A1 c1 ((VarC.new _ wa _).keep (below_one _ _)) (RA2.out.below (trd (by assumption))) (RB.out.below (trd (by assumption)))
              | with_reducible exact HP2.out _ _ _ A1 c1 (VarC.new1 _ wa _ _) (RA2.out.below (trd (by assumption))) (RB.out.below (trd (by assumption)))
              | with_reducible exact HP2.out _ _ _ A1 c1 ((VarC.new _ w2 _).drew.keep hba) (RA2.out.below (trd (by assumption))) (RB.out.below (trd (by assumption)))
              | with_reducible exact HP2.out _ _ _ A1 c1 (((VarC.new _ w2 _).drew.keep hba).keep (below_one _ _)) (RA2.out.below (trd (by assumption))) (RB.out.below (trd (by assumption)))
              | with_reducible exact HP2.out _ _ _ A1 c1 ((((VarC.new _ w2 _).keep (below_one _ _)).drew).keep hba) (RA2.out.below (trd (by assumption))) (RB.out.below (trd (by assumption)))
              | with_reducible exact HP2.out _ _ _ A1 c1 ((VarC.new1 _ w2 _ _).drew.keep hba) (RA2.out.below (trd (by assumption))) (RB.out.below (trd (by assumption))))) ?_; rintro e wd ⟨sg, rfl, hog, hbd⟩; obtain ⟨Ag, cg, rfl, -⟩ := hog.len; obtain ⟨hbel, hle⟩ := reg_end2 (by assumption) hbd; first | (with_reducible refine use_it (varC_keep ((((VarC.new 59 w2 _).keep (below_one _ _)).drew).keep hba) hbd) ?_; rintro ⟨hv, hgc⟩; have hwg := varC_at (k := w2.heap.size) hv (Nat.le_refl _); obtain ⟨q0, q1, q2, q3, q4, q5⟩ := hv.tells3) | (with_reducible refine use_it (varC_keep (((VarC.new 59 w2 _).drew.keep hba).keep (below_one _ _)) hbd) ?_; rintro ⟨hv, hgc⟩; have hwg := varC_at (k := w2.heap.size) hv (Nat.le_refl _); obtain ⟨q0, q1, q2, q3, q4, q5⟩ := hv.tells3) | (with_reducible refine use_it (varC_keep ((VarC.new1 59 w2 _ _).drew.keep hba) hbd) ?_; rintro ⟨hv, hgc⟩; have hwg := varC_at (k := w2.heap.size) hv (Nat.le_succ _); obtain ⟨q0, q1, q2, q3, q4, q5⟩ := hv.tells3) | (with_reducible refine use_it (varC_keep ((VarC.new 59 wa _).keep (below_one _ _)) hbd) ?_; rintro ⟨hv, hgc⟩; have hwg := varC_at (k := w2.heap.size) hv (hka.size); obtain ⟨q0, q1, q2, q3, q4, q5⟩ := hv.tells3) | (with_reducible refine use_it (varC_keep (VarC.new1 59 wa _ _) hbd) ?_; rintro ⟨hv, hgc⟩; have hwg := varC_at (k := w2.heap.size) hv (Nat.le_trans hka.size (Nat.le_succ _)); obtain ⟨q0, q1, q2, q3, q4, q5⟩ := hv.tells3) | (with_reducible refine use_it (varC_keep (VarC.new 59 wa _) hbd) ?_; rintro ⟨hv, hgc⟩; have hwg := varC_at (k := w2.heap.size) hv (hka.size); obtain ⟨q0, q1, q2, q3, q4, q5⟩ := hv.tells3) | skip))
        all_goals
          go_wp2_with fail
          go_meet
          case rel => first | exact ⟨_, _, _, _, _, rfl, reg_finG hwg hgc hle hv hog hbel m d⟩ | exact ⟨_, _, _, _, _, rfl, reg_newG hle hog hbel m d _⟩
      case rest =>
        obtain ⟨w3, hwc⟩ : ∃ w9, w9 = wc := ⟨_, rfl⟩
        subst hwc
        obtain ⟨g7, A7, c7, lo7, hi7, rfl, v7, o7, hg7, hl7, hh7, hb7, hgw⟩ := hcut
        have V7 := Lib.hid v7
        have O7 := Lib.hid o7
        have B7 := Lib.hid hb7
        obtain ⟨x1, x2, x3, -⟩ := v7.tells3
        clear v7 o7 hb7 HF HAC HP2 RB RA2 hg7
        go_wp2_with fail
        refine (plane_any _ _ _ _ _ _).mono ?_
        rintro e w4 ⟨rfl, hb4⟩
        have hb := below_step (below_step HB2.out B7.out) hb4
        have hv := V3.out.keep hb
        obtain ⟨q0, q1, q2, q3⟩ := hv.tells2
        obtain ⟨f0, f1, f2, f3⟩ := fin_plane (w := w) hv (O7.out.keep (hb4.mono hh7)) (.inl (by have := V3.out.lt; have := HB2.out.size; omega)) (by omega) (Nat.le_trans hh7 hb4.size) (below_step HB.out hb) (.int .i64 m) (.slice A7 T.length c7)
        have F2 := Lib.hid (f2.low (show w.heap.size ≤ lo7 by have := V3.out.lt; have := HB2.out.size; omega))
        have F3 := Lib.hid f3
        clear f2 f3 hv hb hb4
        go_wp2
        exact bodyPost_ret (v := .tuple #[.agg #[.int .i64 m, .slice A7 T.length c7], .int .i64 0]) (by simp [results, Try.results46, go_sem, f0, f1]) rfl ⟨_, rfl, F2.out, F3.out⟩
    · exact bad 5 (by unfold rvsM; rw [if_pos h0, if_neg hk]) (by unfold locM; rw [if_pos h0, if_neg hk]) rfl
  · exact bad 1 (by unfold rvsM; rw [if_neg h0]) (by unfold locM; rw [if_neg h0]) rfl
end Go.Proofs.Ytlpfifdocgljnaa

/- Contracts of LawOfDifferential, of the program. -/
namespace Go.Proofs.Ytlpfifdocgljnaa
open Go.RowKit Go.WideShapes Go.ChangeShapes Go.ChangeAt

/-- the model of LawOfDifferential -/
def lodM (m : Int) (l : List Int) : Int × List (List Int) × Int :=
  if isS m l = true then (if (l.length ≤ 10 ∧ allU m l.length = true) ∧ gcdI (Ser.co l 0) m = 1 then (m, lawT m l.length (insL m l), 0) else (0, [], 5)) else (0, [], 1)
theorem ins_ok {m : Int} {d : Nat} {l : List Int} (hs : SerOk m d l) (h : l.length ≤ 10) : SerOk m l.length (insL m l) :=
  ⟨hs.m1, hs.m2, by have := hs.len; omega, h, Ser.cut_length _ _ _, Ser.cut_red (by have := hs.m1; omega) _ _⟩
theorem ins_zero (m : Int) (l : List Int) : Ser.co (insL m l) 0 = 0 := by
  unfold insL
  rw [Ser.co_cut (Nat.zero_le _)]
  simp [insF]
theorem ins_one {m : Int} {d : Nat} {l : List Int} (hs : SerOk m d l) : Ser.co (insL m l) 1 = Ser.co l 0 := by
  unfold insL
  rw [Ser.co_cut (by rw [hs.len]; omega)]
  unfold insF
  rw [if_neg (by omega), Nat.sub_self, inv1_one hs.m1, Int.mul_one]
  exact Int.emod_eq_of_lt (hs.red 0).1 (hs.red 0).2
theorem lod_loc {m : Int} {d : Nat} {l : List Int} (hs : SerOk m d l) (h : l.length ≤ 10 ∧ allU m l.length = true) : locM m (insL m l) = lodM m l := by
  have h2 := ins_ok hs h.1
  unfold locM lodM
  rw [if_pos h2.isS, if_pos hs.isS, ins_zero, ins_one hs]
  have e : (insL m l).length - 1 = l.length := by have := h2.len; omega
  by_cases hg : gcdI (Ser.co l 0) m = 1
  · rw [if_pos ⟨rfl, hg⟩, if_pos ⟨h, hg⟩, e]
  · rw [if_neg (fun x => hg x.2), if_neg (fun x => hg x.2)]
theorem lodM_len (m : Int) (l : List Int) : szT (lodM m l).2.1 ≤ 1048576 := by
  unfold lodM
  by_cases h : isS m l = true
  · rw [if_pos h]
    obtain ⟨d, e, s⟩ := serOk_of h
    by_cases hk : (l.length ≤ 10 ∧ allU m l.length = true) ∧ gcdI (Ser.co l 0) m = 1
    · rw [if_pos hk]; exact szT_ok (lawT_ok (ins_ok s hk.1.1))
    · rw [if_neg hk]; exact Nat.zero_le _
  · rw [if_neg h]; exact Nat.zero_le _
set_option maxHeartbeats 8000000 in
set_option maxRecDepth 100000 in
theorem LawOfDifferential_any (m : Int) (A : Option Addr) (c : Nat) (l : List Int) (w : World) (hl : l.length ≤ 1048576) (hr : RI w A l) :
    Calls Try.prog 16 #[.agg #[.int .i64 m, .slice A l.length c]] w fun e w' => ∃ s, e = .returned (.tuple #[.agg #[.int .i64 (lodM m l).1, s], .int .i64 (lodM m l).2.2]) ∧ OwnR w' w.heap.size w'.heap.size s (lodM m l).2.1 ∧ Below w.heap.size w w' := by
  obtain ⟨W, hW, b1, v3, hwb⟩ := spro1T w m A l.length c
  have B1 := Lib.hid b1
  have V3 := Lib.hid v3
  have HB := Lib.hid hwb
  have HW := Lib.hid hW
  have HC := Lib.hid (IntegrateSeries_any m A c l W (by omega) (hr.below hwb))
  clear b1 v3 hwb hW
  have bad : ∀ C : Int, insM m l = (0, [], C) → lodM m l = (0, [], C) → (C == 0) = false → Calls Try.prog 16 #[.agg #[.int .i64 m, .slice A l.length c]] w fun e w' => ∃ s, e = .returned (.tuple #[.agg #[.int .i64 (lodM m l).1, s], .int .i64 (lodM m l).2.2]) ∧ OwnR w' w.heap.size w'.heap.size s (lodM m l).2.1 ∧ Below w.heap.size w w' := by
    intro C e1 e2 n1
    rw [e2]
    have hc := HC.out
    rw [e1] at hc
    have HC0 := Lib.hid hc
    have n2 : (C != 0) = true := by simp [bne, n1]
    clear hc HC e1 e2
    go_enter Try.func16, Try.ntmps16
    go_wp2_with fail
    rw [HW.out]
    refine HC0.out.mono ?_
    rintro e w1 ⟨s1, rfl, ho1, hb1⟩
    obtain ⟨A1, c1, rfl, -⟩ := ho1.form
    have hv := V3.out.keep (below_alloc (.cells #[.int .i64 0, .slice A1 0 c1] 34) hb1)
    obtain ⟨q0, q1, q2, q3⟩ := hv.tells2
    obtain ⟨f0, f1, f2, f3⟩ := fin_plane (w := w) hv (OwnR.nil _ w.heap.size 0) (.inr (Nat.zero_le _)) (by omega) (Nat.zero_le _) (below_step HB.out (below_alloc (.cells #[.int .i64 0, .slice A1 0 c1] 34) hb1)) (.int .i64 0) (.slice none 0 0)
    have F2 := Lib.hid f2
    have F3 := Lib.hid f3
    clear f2 f3 hv
    go_wp2
    exact bodyPost_ret (v := .tuple #[.agg #[.int .i64 0, .slice none 0 0], .int .i64 (C)]) (by simp [results, Try.results16, go_sem, f0, f1]) rfl ⟨_, rfl, F2.out, F3.out⟩
  by_cases h0 : isS m l = true
  · obtain ⟨d, e1, hs⟩ := serOk_of h0
    by_cases hk : l.length ≤ 10 ∧ allU m l.length = true
    · have hc := HC.out
      rw [show insM m l = (m, insL m l, 0) by unfold insM; rw [if_pos h0, if_pos hk]] at hc
      rw [← lod_loc hs hk]
      have HLL := Lib.hid (fun W0 A1 c1 (h : RI W0 A1 (insL m l)) => LawOfCurve_any m A1 c1 (insL m l) W0 (by rw [(ins_ok hs hk.1).len]; omega) h)
      obtain ⟨R, hR⟩ : ∃ R, insL m l = R := ⟨_, rfl⟩
      rw [hR] at HLL hc ⊢
      obtain ⟨M, T, C, hT⟩ : ∃ M T C, locM m R = (M, T, C) := ⟨_, _, _, rfl⟩
      rw [hT] at HLL ⊢
      have HC0 := Lib.hid hc
      clear hc HC bad e1 h0 hk hs hR hT hl hr
      go_enter Try.func16, Try.ntmps16
      go_wp2_with fail
      rw [HW.out]
      refine HC0.out.mono ?_
      rintro e w1 ⟨s1, rfl, ho1, hb1⟩
      obtain ⟨A1, c1, rfl, -⟩ := ho1.form
      have hro := (ho1.keep (below_one w1 (.cells #[.int .i64 m, .slice A1 R.length c1] 34))).ri
      have hb2 := below_alloc (.cells #[.int .i64 m, .slice A1 R.length c1] 34) hb1
      have RB := Lib.hid hro
      have HB2 := Lib.hid hb2
      clear hro hb2 ho1 hb1
      go_wp2_with fail
      refine (HLL.out _ _ _ RB.out).mono ?_
      rintro e w3 ⟨s3, rfl, ho3, hb3⟩
      obtain ⟨A3, c3, rfl, -⟩ := ho3.len
      have hb := below_step HB2.out hb3
      have hv := V3.out.keep hb
      obtain ⟨q0, q1, q2, q3⟩ := hv.tells2
      obtain ⟨f0, f1, f2, f3⟩ := fin_plane (w := w) hv ho3 (.inl (by have := V3.out.lt; have := HB2.out.size; omega)) (by omega) (Nat.le_refl _) (below_step HB.out hb) (.int .i64 M) (.slice A3 T.length c3)
      have F2 := Lib.hid (f2.low (show w.heap.size ≤ _ by have := V3.out.lt; have := HB2.out.size; omega))
      have F3 := Lib.hid f3
      clear f2 f3 hv hb hb3 ho3
      go_wp2
      exact bodyPost_ret (v := .tuple #[.agg #[.int .i64 M, .slice A3 T.length c3], .int .i64 C]) (by simp [results, Try.results16, go_sem, f0, f1]) rfl ⟨_, rfl, F2.out, F3.out⟩
    · exact bad 5 (by unfold insM; rw [if_pos h0, if_neg hk]) (by unfold lodM; rw [if_pos h0, if_neg (fun h => hk h.1)]) rfl
  · exact bad 1 (by unfold insM; rw [if_neg h0]) (by unfold lodM; rw [if_neg h0]) rfl
end Go.Proofs.Ytlpfifdocgljnaa

/- Contract of LawOfDifferential, of the model. -/
namespace Go.Proofs.Ytlpfifdocgljnaa
open Go.RowKit Go.WideShapes Go.ChangeShapes Go.ChangeAt

set_option maxHeartbeats 16000000 in
set_option maxRecDepth 100000 in
theorem sLawOfDifferential_any (m : Int) (A : Option Addr) (c : Nat) (l : List Int) (w : World) (hl : l.length ≤ 1048576) (hr : RI w A l) :
    Calls Try.prog 15 #[.agg #[.int .i64 m, .slice A l.length c]] w fun e w' => ∃ s, e = .returned (.tuple #[.agg #[.int .i64 (lodM m l).1, s], .int .i64 (lodM m l).2.2]) ∧ OwnR w' w.heap.size w'.heap.size s (lodM m l).2.1 ∧ Below w.heap.size w w' := by
  obtain ⟨W, hW, b1, v3, hwb⟩ := spro1T w m A l.length c
  have B1 := Lib.hid b1
  have V3 := Lib.hid v3
  have HB := Lib.hid hwb
  have HW := Lib.hid hW
  have R1 := Lib.hid (hr.below hwb)
  have HC := Lib.hid (l02Is_any m A c l W (by omega) R1.out)
  clear b1 v3 hwb hW hr
  by_cases h0 : isS m l = true
  · obtain ⟨d, e1, s1⟩ := serOk_of h0
    have hc := HC.out
    rw [h0] at hc
    have HC0 := Lib.hid hc
    have m1 := s1.m1
    have m2 := s1.m2
    have hd1 := s1.d1
    have hd2 := s1.d2
    obtain ⟨b, off, rfl, hb, hcl⟩ := R1.out.at 0 (by omega)
    have hcl0 : W.cell? ⟨b, off, none⟩ = some (.int .i64 (Ser.co l 0)) := hcl
    obtain ⟨X, hX⟩ : ∃ X, Ser.co l 0 = X := ⟨_, rfl⟩
    obtain ⟨r1, r2⟩ := s1.red 0
    rw [hX] at hcl0 r1 r2
    have HU := Lib.hid (fun W0 => l01Unit_any m X W0 r1 r2 m2)
    have HIT := Lib.hid (fun W0 => l02Integers_any m l.length W0 m1 m2 (by omega))
    clear hc HC hcl
    by_cases hg : gcdI X m = 1
    · have HI := Lib.hid (fun W0 => by have := HU.out W0; rw [show (gcdI X m == 1) = true by rw [hg]; rfl] at this; exact this)
      by_cases h10 : l.length ≤ 10
      · by_cases hall : allU m l.length = true
        · have HA : Hid (lodM m l = (m, lawT m l.length (insL m l), 0)) := Lib.hid (by unfold lodM; rw [if_pos h0, hX, if_pos ⟨⟨h10, hall⟩, hg⟩])
          rw [HA.out]
          rw [hall] at HIT
          have HS := Lib.hid (fun W0 (h0 : Below W.heap.size W W0) => l02Integrate_any m d (some ⟨b, off, none⟩) c l W0 s1 (R1.out.below h0) hall)
          have HP := Lib.hid (fun W0 A2 c2 (h : RI W0 A2 (insL m l)) => l05Law_any m l.length A2 c2 (insL m l) W0 (ins_ok s1 h10) (ins_zero m l) h)
          obtain ⟨R, hR⟩ : ∃ R, insL m l = R := ⟨_, rfl⟩
          rw [hR] at HS HP ⊢
          obtain ⟨T, hT⟩ : ∃ T, lawT m l.length R = T := ⟨_, rfl⟩
          rw [hT] at HP ⊢
          obtain ⟨N, hN⟩ : ∃ N, l.length = N := ⟨_, rfl⟩
          rw [hN] at B1 HC0 HIT HS HW h10 ⊢
          have z0 : (0 : Int) < (N : Int) := by omega
          have z1 : 0 < N := by omega
          have z2 : decide ((10 : Int) < (N : Int)) = false := decide_eq_false (by omega)
          clear e1 s1 hR hT hN h0 hX hg HU hall
          go_enter Try.func15, Try.ntmps15
          go_wp2_with fail
          rw [HW.out]
          refine HC0.out.mono ?_
          rintro e w0 ⟨rfl, hb0⟩
          obtain ⟨x1, x2, x3⟩ := B1.out.keep hb0
          have x4 := (hb0.cell (p := ⟨b, off, none⟩) hb).trans hcl0
          have x5 := Nat.lt_of_lt_of_le hb hb0.size
          go_wp2
          go_quiet (first | (go_at_call 40; exact Calls.quiet_of_same ((HI.out _).mono fun _ _ h => ⟨h.1, h.2.symm⟩)) | (go_at_call 41; exact Calls.quiet_of_same ((HIT.out _).mono fun _ _ h => ⟨h.1, h.2.symm⟩)))
          all_goals
            have hb2 := below_drewN hb0 nq
            clear x1 x2 x3 x4 x5 hb0
            obtain ⟨w1, hw0⟩ : ∃ w9, w9 = w0.drewN nq := ⟨_, rfl⟩
            rw [← hw0] at hb2 ⊢
            clear hw0
            obtain ⟨x1, x2, x3⟩ := B1.out.keep hb2
            go_wp2
            go_region_held3 (fun w' => w'.cell? ⟨w.heap.size, 0, none⟩ = some (.int .i64 m) ∧ w'.cell? ⟨w.heap.size, 1, none⟩ = some (.slice (some ⟨b, off, none⟩) N c) ∧ w.heap.size < w'.heap.size) (first | exact ⟨x1, x2, x3⟩ | exact box_store (by omega) (by assumption) | exact box_call hb5 (by assumption) | exact box_call hb4 (by assumption) | exact box_call hb3 (by assumption)) (first
              | (go_at_call 44; refine (HS.out _ (below_step hb2 (below_drew0 _))).mono ?_; rintro e3 w3 ⟨s, rfl, ho3, hb3⟩; obtain ⟨A3, c3, rfl, _⟩ := ho3.form)
              | (go_at_call 43; refine (HP.out _ _ _ ho3.ri).mono ?_; rintro e4 w4 ⟨s, rfl, ho4, hb4⟩; obtain ⟨A4, c4, rfl, _⟩ := ho4.len)
              | (go_at_call 42; refine (l03Make_any _ _ _ _ _).mono ?_; rintro e5 w5 ⟨rfl, hb5⟩; have hv := V3.out.keep (below_step (below_step (below_step (below_step hb2 (below_drew0 _)) hb3) hb4) hb5); obtain ⟨q0, q1, q2, q3⟩ := hv.tells2))
            all_goals
              have hw3 := below_step (below_step (below_step hb2 (below_drew0 _)) hb3) hb4
              have hz1 := (below_step (below_step hb2 (below_drew0 _)) hb3).size
              have hz2 := V3.out.lt
              obtain ⟨f0, f1, f2, f3⟩ := fin_plane (w := w) hv (ho4.keep hb5) (.inl (by omega)) (by omega) hb5.size (below_step HB.out (below_step hw3 hb5)) (.int .i64 m) (.slice A4 T.length c4)
              have F2 := Lib.hid (f2.low (lo' := w.heap.size) (by omega))
              have F3 := Lib.hid f3
              clear f2 f3 ho3 ho4 hb2 hb3 hb4 hb5 hv hw3
              go_wp2
              exact bodyPost_ret (v := .tuple #[.agg #[.int .i64 m, .slice A4 T.length c4], .int .i64 0]) (by simp [results, Try.results15, go_sem, f0, f1]) rfl ⟨_, rfl, F2.out, F3.out⟩
        · have HA : Hid (lodM m l = (0, [], 5)) := Lib.hid (by unfold lodM; rw [if_pos h0, if_neg (fun h => hall h.1.2)])
          rw [HA.out]
          rw [show allU m l.length = false by simpa using hall] at HIT
          obtain ⟨N, hN⟩ : ∃ N, l.length = N := ⟨_, rfl⟩
          rw [hN] at B1 HC0 HIT HW h10 ⊢
          have z0 : (0 : Int) < (N : Int) := by omega
          have z1 : 0 < N := by omega
          have z2 : decide ((10 : Int) < (N : Int)) = false := decide_eq_false (by omega)
          clear e1 s1 hN h0 hX hg HU hall
          go_enter Try.func15, Try.ntmps15
          go_wp2_with fail
          rw [HW.out]
          refine HC0.out.mono ?_
          rintro e w0 ⟨rfl, hb0⟩
          obtain ⟨x1, x2, x3⟩ := B1.out.keep hb0
          have x4 := (hb0.cell (p := ⟨b, off, none⟩) hb).trans hcl0
          have x5 := Nat.lt_of_lt_of_le hb hb0.size
          go_wp2
          go_quiet (first | (go_at_call 40; exact Calls.quiet_of_same ((HI.out _).mono fun _ _ h => ⟨h.1, h.2.symm⟩)) | (go_at_call 41; exact Calls.quiet_of_same ((HIT.out _).mono fun _ _ h => ⟨h.1, h.2.symm⟩)))
          all_goals
            have hb2 := below_drewN hb0 nq
            clear x1 x2 x3 x4 x5
            have hv := V3.out.keep (hb2)
            obtain ⟨q0, q1, q2, q3⟩ := hv.tells2
            obtain ⟨f0, f1, f2, f3⟩ := fin_plane (w := w) hv (OwnR.nil _ w.heap.size 0) (.inr (Nat.zero_le _)) (by omega) (Nat.zero_le _) (below_step HB.out (hb2)) (.int .i64 0) (.slice none 0 0)
            have F2 := Lib.hid f2
            have F3 := Lib.hid f3
            clear f2 f3 hv
            go_wp2
            exact bodyPost_ret (v := .tuple #[.agg #[.int .i64 0, .slice none 0 0], .int .i64 (5)]) (by simp [results, Try.results15, go_sem, f0, f1]) rfl ⟨_, rfl, F2.out, F3.out⟩
      · have HA : Hid (lodM m l = (0, [], 5)) := Lib.hid (by unfold lodM; rw [if_pos h0, if_neg (fun h => h10 h.1.1)])
        rw [HA.out]
        obtain ⟨N, hN⟩ : ∃ N, l.length = N := ⟨_, rfl⟩
        rw [hN] at B1 HC0 HW h10 ⊢
        have z0 : (0 : Int) < (N : Int) := by omega
        have z1 : 0 < N := by omega
        have z2 : decide ((10 : Int) < (N : Int)) = true := decide_eq_true (by omega)
        clear e1 s1 hN h0 hX hg HU HIT
        go_enter Try.func15, Try.ntmps15
        go_wp2_with fail
        rw [HW.out]
        refine HC0.out.mono ?_
        rintro e w0 ⟨rfl, hb0⟩
        obtain ⟨x1, x2, x3⟩ := B1.out.keep hb0
        have x4 := (hb0.cell (p := ⟨b, off, none⟩) hb).trans hcl0
        have x5 := Nat.lt_of_lt_of_le hb hb0.size
        go_wp2
        go_quiet ((go_at_call 40; exact Calls.quiet_of_same ((HI.out _).mono fun _ _ h => ⟨h.1, h.2.symm⟩)))
        all_goals
          have hb2 := below_drewN hb0 nq
          clear x1 x2 x3 x4 x5
          have hv := V3.out.keep (hb2)
          obtain ⟨q0, q1, q2, q3⟩ := hv.tells2
          obtain ⟨f0, f1, f2, f3⟩ := fin_plane (w := w) hv (OwnR.nil _ w.heap.size 0) (.inr (Nat.zero_le _)) (by omega) (Nat.zero_le _) (below_step HB.out (hb2)) (.int .i64 0) (.slice none 0 0)
          have F2 := Lib.hid f2
          have F3 := Lib.hid f3
          clear f2 f3 hv
          go_wp2
          exact bodyPost_ret (v := .tuple #[.agg #[.int .i64 0, .slice none 0 0], .int .i64 (5)]) (by simp [results, Try.results15, go_sem, f0, f1]) rfl ⟨_, rfl, F2.out, F3.out⟩
    · have HA : Hid (lodM m l = (0, [], 5)) := Lib.hid (by unfold lodM; rw [if_pos h0, hX, if_neg (fun h => hg h.2)])
      rw [HA.out]
      have HI := Lib.hid (fun W0 => by have := HU.out W0; rw [show (gcdI X m == 1) = false by simpa using hg] at this; exact this)
      have z0 : (0 : Int) < (l.length : Int) := by omega
      have z1 : 0 < l.length := by omega
      clear e1 s1 h0 hX hg HU HIT
      go_enter Try.func15, Try.ntmps15
      go_wp2_with fail
      rw [HW.out]
      refine HC0.out.mono ?_
      rintro e w0 ⟨rfl, hb0⟩
      obtain ⟨x1, x2, x3⟩ := B1.out.keep hb0
      have x4 := (hb0.cell (p := ⟨b, off, none⟩) hb).trans hcl0
      have x5 := Nat.lt_of_lt_of_le hb hb0.size
      go_wp2
      go_quiet ((go_at_call 40; exact Calls.quiet_of_same ((HI.out _).mono fun _ _ h => ⟨h.1, h.2.symm⟩)))
      all_goals
        have hb2 := below_drewN hb0 nq
        clear x1 x2 x3 x4 x5
        have hv := V3.out.keep (hb2)
        obtain ⟨q0, q1, q2, q3⟩ := hv.tells2
        obtain ⟨f0, f1, f2, f3⟩ := fin_plane (w := w) hv (OwnR.nil _ w.heap.size 0) (.inr (Nat.zero_le _)) (by omega) (Nat.zero_le _) (below_step HB.out (hb2)) (.int .i64 0) (.slice none 0 0)
        have F2 := Lib.hid f2
        have F3 := Lib.hid f3
        clear f2 f3 hv
        go_wp2
        exact bodyPost_ret (v := .tuple #[.agg #[.int .i64 0, .slice none 0 0], .int .i64 (5)]) (by simp [results, Try.results15, go_sem, f0, f1]) rfl ⟨_, rfl, F2.out, F3.out⟩
  · have h0' : isS m l = false := by simpa using h0
    have HA : Hid (lodM m l = (0, [], 1)) := Lib.hid (by unfold lodM; rw [if_neg h0])
    rw [HA.out]
    have hc := HC.out
    rw [h0'] at hc
    have HC0 := Lib.hid hc
    clear hc HC h0
    go_enter Try.func15, Try.ntmps15
    go_wp2_with fail
    rw [HW.out]
    refine HC0.out.mono ?_
    rintro e w1 ⟨rfl, hb1⟩
    have hv := V3.out.keep (hb1)
    obtain ⟨q0, q1, q2, q3⟩ := hv.tells2
    obtain ⟨f0, f1, f2, f3⟩ := fin_plane (w := w) hv (OwnR.nil _ w.heap.size 0) (.inr (Nat.zero_le _)) (by omega) (Nat.zero_le _) (below_step HB.out (hb1)) (.int .i64 0) (.slice none 0 0)
    have F2 := Lib.hid f2
    have F3 := Lib.hid f3
    clear f2 f3 hv
    go_wp2
    exact bodyPost_ret (v := .tuple #[.agg #[.int .i64 0, .slice none 0 0], .int .i64 (1)]) (by simp [results, Try.results15, go_sem, f0, f1]) rfl ⟨_, rfl, F2.out, F3.out⟩
end Go.Proofs.Ytlpfifdocgljnaa

/- Contracts of IsLogarithm, of the program and of the model. -/
namespace Go.Proofs.Ytlpfifdocgljnaa
open Go.RowKit Go.WideShapes Go.ChangeShapes Go.ChangeAt

/-- the model of IsLogarithm -/
def ilgB (m : Int) (d : Nat) (t : List (List Int)) (l : List Int) : Bool := decide (Pl.hor m d l (Pl.pc t) (d + 1) = Pl.tab m d (sumF l))
def ilgM (m : Int) (t : List (List Int)) (m1 : Int) (l : List Int) : Bool × Int :=
  if codeS1 m t m1 l = 0 then (decide (Ser.co l 1 = 1) && ilgB m (t.length - 1) t l, 0) else (false, codeS1 m t m1 l)
theorem PS_one {T : TypeId} {W : World} {g : Nat} {m : Int} {d : Nat} {A : Option Addr} {c : Nat} {l : List Int} (hv : VarC T W g #[.iface 63 (.agg #[.int .i64 m, .slice A l.length c])])
    (ra : RI W A l) (s1 : SerOk m d l) (z1 : Ser.co l 0 = 0) : PS W g m d [(true, A, c, l)] := by
  refine ⟨hv.lt, fun k b A' c' l' hk => ?_⟩
  rcases k with _ | k
  · simp at hk
    obtain ⟨rfl, rfl, rfl, rfl⟩ := hk
    exact ⟨hv.cell 0 _ rfl, ra, s1, z1⟩
  · simp at hk
theorem across1_any (m : Int) (d : Nat) (A : Option Addr) (c : Nat) (l : List Int) (g : Nat) (w : World) (hs : SerOk m d l) (hz : Ser.co l 0 = 0) (hp : PS w g m d [(true, A, c, l)]) :
    Calls Try.prog 34 #[.agg #[.int .i64 m, .int .i64 d], .slice (some ⟨g, 0, none⟩) 1 1] w fun e w' => ∃ v, e = .returned (.agg #[.int .i64 m, .int .i64 d, v]) ∧ OwnR w' w.heap.size w'.heap.size v (Pl.tab m d (sumF l)) ∧ Below w.heap.size w w' := by
  have h := additionAcross_any m d g _ w hs.m1 hs.m2 hs.d1 hs.d2 hp (by simp) (fun k A' c' l' hk => by
    rcases k with _ | k
    · simp at hk
    · simp at hk)
  rw [acr_log hs hz] at h
  exact h
set_option maxHeartbeats 16000000 in
set_option maxRecDepth 100000 in
theorem IsLogarithm_any (m : Int) (A : Option Addr) (c : Nat) (t : List (List Int)) (m1 : Int) (A1 : Option Addr) (c1 : Nat) (l : List Int) (w : World) (hz : szT t ≤ 1048576) (hl : l.length ≤ 1048576) (hr : RP w A t) (hr1 : RI w A1 l) :
    Calls Try.prog 12 #[.agg #[.int .i64 m, .slice A t.length c], .agg #[.int .i64 m1, .slice A1 l.length c1]] w fun e w' => e = .returned (.tuple #[.bool (ilgM m t m1 l).1, .int .i64 (ilgM m t m1 l).2]) ∧ Below w.heap.size w w' := by
  obtain ⟨W, hW, b1, b2, hwb⟩ := startB2 32 34 w m A t.length c m1 A1 l.length c1
  have B1 := Lib.hid b1
  have B2 := Lib.hid b2
  have HB := Lib.hid hwb
  have HW := Lib.hid hW
  have hs2 : W.heap.size = w.heap.size + 1 + 1 := by rw [← hW]; simp
  have hc : Calls Try.prog 32 #[.agg #[.int .i64 m, .slice A t.length c], .slice (some ⟨w.heap.size + 1 + 1, 0, none⟩) 1 1] (W.alloc (.cells #[.int .i64 m1, .slice A1 l.length c1] 34)) fun e w' => e = .returned (.int .i64 (codeS1 m t m1 l)) ∧ Below (W.alloc (.cells #[.int .i64 m1, .slice A1 l.length c1] 34)).heap.size (W.alloc (.cells #[.int .i64 m1, .slice A1 l.length c1] 34)) w' :=
    codeLw_any (w.heap.size + 1 + 1) m A c t [(m1, A1, c1, l)] (W.alloc (.cells #[.int .i64 m1, .slice A1 l.length c1] 34)) hz ((hr.below hwb).below (below_one _ _)) (SL.one (by have := Box.newT 34 W m1 A1 l.length c1; rwa [hs2] at this) ((hr1.below hwb).below (below_one _ _)) hl) (by simp)
  by_cases h0 : codeS1 m t m1 l = 0
  · rw [h0] at hc
    have HC0 := Lib.hid hc
    obtain ⟨hL0, rfl, d, e1, f1, ok, hf, s1, z1⟩ := codeS1_ok h0
    have hd1 := ok.d1
    have hd2 := ok.d2
    have HG := Lib.hid (fun W0 => gridOf_nat m1 A t.length c d W0 e1 (by omega))
    have HAC := Lib.hid (fun g W0 (hp : PS W0 g m1 d [(true, A1, c1, l)]) => across1_any m1 d A1 c1 l g W0 s1 z1 hp)
    have HP1 := Lib.hid (fun (T : TypeId) (W0 : World) (g : Nat) (hv : VarC T W0 g #[.iface 63 (.agg #[.int .i64 m1, .slice A1 l.length c1])]) (h : Below W.heap.size W W0) => PS_one (d := d) hv ((hr1.below hwb).below h) s1 z1)
    have HAP := Lib.hid (fun W0 (h : Below W.heap.size W W0) => appliedTo_any m1 d A1 c1 l A c t W0 s1 ok ((Pl.norm_law hf ok).x 0 (Nat.zero_le _)) ((hr1.below hwb).below h) ((hr.below hwb).below h))
    have HE := Lib.hid (fun W0 A2 c2 A3 c3 (h2 : RP W0 A2 (Pl.hor m1 d l (Pl.pc t) (d + 1))) (h3 : RP W0 A3 (Pl.tab m1 d (sumF l))) => isSame_any m1 d A2 c2 (Pl.hor m1 d l (Pl.pc t) (d + 1)) A3 c3 (Pl.tab m1 d (sumF l)) W0 (Pl.hor_ok ok.m1 ok.m2 ok.d1 ok.d2 _ _ _) (sum_ok s1) h2 h3)
    obtain ⟨R, hR⟩ : ∃ R, ilgB m1 d t l = R := ⟨_, rfl⟩
    rw [show decide (Pl.hor m1 d l (Pl.pc t) (d + 1) = Pl.tab m1 d (sumF l)) = R from hR] at HE
    have hA : ilgM m1 t m1 l = (decide (Ser.co l 1 = 1) && R, 0) := by unfold ilgM; rw [if_pos h0, e1, show d + 1 - 1 = d from rfl, hR]
    obtain ⟨b, off, rfl, hbb, hcl⟩ := (hr1.below hwb).at 1 (by omega)
    obtain ⟨X, hX⟩ : ∃ X, Ser.co l 1 = X := ⟨_, rfl⟩
    rw [hX] at hcl hA
    have HA := Lib.hid hA
    rw [HA.out]
    obtain ⟨T1, hT1⟩ : ∃ T, Pl.hor m1 d l (Pl.pc t) (d + 1) = T := ⟨_, rfl⟩
    obtain ⟨T2, hT2⟩ : ∃ T, Pl.tab m1 d (sumF l) = T := ⟨_, rfl⟩
    rw [hT1] at HAP HE
    rw [hT2] at HAC HE
    obtain ⟨L, hL⟩ : ∃ L, t.length = L := ⟨_, rfl⟩
    obtain ⟨n1, hn1⟩ : ∃ L, l.length = L := ⟨_, rfl⟩
    rw [hL] at HC0 HG HAP HW B1 ⊢
    rw [hn1] at HC0 HP1 HAP HW B2 f1 ⊢
    have z0 : (1 : Int) < (n1 : Int) := by omega
    have z2 : 1 < n1 := by omega
    have HBB := Lib.hid hbb
    have HCL := Lib.hid hcl
    have hfd := field_frame
    clear hs2 b1 b2 hwb hW hr hr1 hc h0 hA hf ok s1 z1 e1 f1 hz hl hR hL hn1 hT1 hT2 hL0 hX hbb hcl
    go_enter Try.func12, Try.ntmps12
    go_wp2_with fail
    rw [HW.out]
    refine HC0.out.mono ?_
    rintro e w2 ⟨rfl, hb2⟩
    have hbw := below_step (below_one W (.cells #[.int .i64 m1, .slice (some ⟨b, off, none⟩) n1 c1] 34)) hb2
    have HB2 := Lib.hid hbw
    have Y1 := Lib.hid (B1.out.keep hbw)
    have Y2 := Lib.hid (B2.out.keep hbw)
    clear hb2 hbw
    go_upto_region 4 with fail
    go_cut [7] (fun s7 wx => ∃ g A1 c1 lo hi, s7 = .pointer (some ⟨g, 0, none⟩) ∧ VarC 59 wx g #[.int .i64 m1, .int .i64 d, .slice A1 T2.length c1] ∧ OwnR wx lo hi (.slice A1 T2.length c1) T2 ∧ (g < lo ∨ hi ≤ g) ∧ w2.heap.size ≤ lo ∧ hi ≤ wx.heap.size ∧ Below w2.heap.size w2 wx ∧ w2.heap.size ≤ g)
    case first =>
      go_region_held3 (fun w' => (w'.cell? ⟨w.heap.size, 0, none⟩ = some (.int .i64 m1) ∧ w'.cell? ⟨w.heap.size, 1, none⟩ = some (.slice A L c)) ∧ (w'.cell? ⟨w.heap.size + 1, 0, none⟩ = some (.int .i64 m1) ∧ w'.cell? ⟨w.heap.size + 1, 1, none⟩ = some (.slice (some ⟨b, off, none⟩) n1 c1)) ∧ Below w2.heap.size w2 w') (first | exact box2_in Y1.out Y2.out (reg_finG hwg hgc hle hv hog hbel m1 d).2.2.2.2.2.1 | exact box2_in Y1.out Y2.out (below_drew0 _) | with_reducible exact box2_in Y1.out Y2.out hbel | with_reducible exact box2_in Y1.out Y2.out hka | exact box2_alloc Y1.out Y2.out (by assumption) | exact box2_in Y1.out Y2.out (below_alloc _ hbel) | exact (by assumption)) (first
        | (go_at_call 33; with_reducible refine Calls.mono (HG.out _) ?_; rintro e wa ⟨rfl, hba⟩; obtain ⟨hka, hla⟩ := reg_end2 (by assumption) hba)
        | (go_at_call 34; with_reducible refine Calls.mono (HAC.out _ _ (by first
            | with_reducible exact HP1.out _ _ _ (VarC.new _ wa _) (below_step HB2.out (trd (by assumption)))
            | with_reducible exact HP1.out _ _ _ ((VarC.new _ wa _).keep (below_one _ _)) (below_step HB2.out (trd (by assumption)))
            | with_reducible exact HP1.out _ _ _ (VarC.new1 _ wa _ _) (below_step HB2.out (trd (by assumption)))
            | with_reducible exact HP1.out _ _ _ ((VarC.new _ w2 _).drew.keep hba) (below_step HB2.out (trd (by assumption)))
            | with_reducible exact HP1.out _ _ _ (((VarC.new _ w2 _).drew.keep hba).keep (below_one _ _)) (below_step HB2.out (trd (by assumption)))
            | with_reducible exact HP1.out _ _ _ ((((VarC.new _ w2 _).keep (below_one _ _)).drew).keep hba) (below_step HB2.out (trd (by assumption)))
            | with_reducible exact HP1.out _ _ _ ((VarC.new1 _ w2 _ _).drew.keep hba) (below_step HB2.out (trd (by assumption))))) ?_; rintro e wd ⟨sg, rfl, hog, hbd⟩; obtain ⟨Ag, cg, rfl, -⟩ := hog.len; obtain ⟨hbel, hle⟩ := reg_end2 (by assumption) hbd; first | (with_reducible refine use_it (varC_keep ((((VarC.new 59 w2 _).keep (below_one _ _)).drew).keep hba) hbd) ?_; rintro ⟨hv, hgc⟩; have hwg := varC_at (k := w2.heap.size) hv (Nat.le_refl _); obtain ⟨q0, q1, q2, q3, q4, q5⟩ := hv.tells3) | (with_reducible refine use_it (varC_keep (((VarC.new 59 w2 _).drew.keep hba).keep (below_one _ _)) hbd) ?_; rintro ⟨hv, hgc⟩; have hwg := varC_at (k := w2.heap.size) hv (Nat.le_refl _); obtain ⟨q0, q1, q2, q3, q4, q5⟩ := hv.tells3) | (with_reducible refine use_it (varC_keep ((VarC.new1 59 w2 _ _).drew.keep hba) hbd) ?_; rintro ⟨hv, hgc⟩; have hwg := varC_at (k := w2.heap.size) hv (Nat.le_succ _); obtain ⟨q0, q1, q2, q3, q4, q5⟩ := hv.tells3) | (with_reducible refine use_it (varC_keep ((VarC.new 59 wa _).keep (below_one _ _)) hbd) ?_; rintro ⟨hv, hgc⟩; have hwg := varC_at (k := w2.heap.size) hv (hka.size); obtain ⟨q0, q1, q2, q3, q4, q5⟩ := hv.tells3) | (with_reducible refine use_it (varC_keep (VarC.new1 59 wa _ _) hbd) ?_; rintro ⟨hv, hgc⟩; have hwg := varC_at (k := w2.heap.size) hv (Nat.le_trans hka.size (Nat.le_succ _)); obtain ⟨q0, q1, q2, q3, q4, q5⟩ := hv.tells3) | (with_reducible refine use_it (varC_keep (VarC.new 59 wa _) hbd) ?_; rintro ⟨hv, hgc⟩; have hwg := varC_at (k := w2.heap.size) hv (hka.size); obtain ⟨q0, q1, q2, q3, q4, q5⟩ := hv.tells3) | skip))
      all_goals
        go_wp2_with fail
        go_meet
        case rel => first | exact ⟨_, _, _, _, _, rfl, reg_finG hwg hgc hle hv hog hbel m1 d⟩ | exact ⟨_, _, _, _, _, rfl, reg_newG hle hog hbel m1 d _⟩
    case rest =>
      obtain ⟨w3, hwc⟩ : ∃ w9, w9 = wc := ⟨_, rfl⟩
      subst hwc
      obtain ⟨g7, A7, c7, lo7, hi7, rfl, v7, o7, -, hl7, hh7, hb7, hgw⟩ := hcut
      have V7 := Lib.hid v7
      have RT := Lib.hid o7.rp
      have B7 := Lib.hid (below_step HB2.out hb7)
      have hsz := v7.lt
      have HF := Lib.hid (fun w' (h : Below w3.heap.size w3 w') => (⟨⟨⟨(B1.out.keep (below_step B7.out h)).1, (B1.out.keep (below_step B7.out h)).2.1⟩, (B2.out.keep (below_step B7.out h)).1, (B2.out.keep (below_step B7.out h)).2.1⟩,
        ⟨(v7.keep h).cell 0 _ rfl, (v7.keep h).cell 1 _ rfl, (v7.keep h).cell 2 _ rfl⟩, ((below_step B7.out h).cell (p := ⟨b, off + 1, none⟩) HBB.out).trans HCL.out⟩ :
        ((w'.cell? ⟨w.heap.size, 0, none⟩ = some (.int .i64 m1) ∧ w'.cell? ⟨w.heap.size, 1, none⟩ = some (.slice A L c)) ∧ w'.cell? ⟨w.heap.size + 1, 0, none⟩ = some (.int .i64 m1) ∧ w'.cell? ⟨w.heap.size + 1, 1, none⟩ = some (.slice (some ⟨b, off, none⟩) n1 c1)) ∧
        (w'.cell? ⟨g7, 0, none⟩ = some (.int .i64 m1) ∧ w'.cell? ⟨g7, 1, none⟩ = some (.int .i64 d) ∧ w'.cell? ⟨g7, 2, none⟩ = some (.slice A7 T2.length c7)) ∧ w'.cell? ⟨b, off + 1, none⟩ = some (.int .i64 X)))
      clear v7 o7 hb7 HAC HP1 hl7 hh7 hgw Y1 Y2
      by_cases hx : X = 1
      · subst hx
        have X0 := Lib.hid (keepW HF.out (below_drew0 w3))
        go_wp2
        go_region_held3 (fun w' => (((w'.cell? ⟨w.heap.size, 0, none⟩ = some (.int .i64 m1) ∧ w'.cell? ⟨w.heap.size, 1, none⟩ = some (.slice A L c)) ∧ w'.cell? ⟨w.heap.size + 1, 0, none⟩ = some (.int .i64 m1) ∧ w'.cell? ⟨w.heap.size + 1, 1, none⟩ = some (.slice (some ⟨b, off, none⟩) n1 c1)) ∧
          (w'.cell? ⟨g7, 0, none⟩ = some (.int .i64 m1) ∧ w'.cell? ⟨g7, 1, none⟩ = some (.int .i64 d) ∧ w'.cell? ⟨g7, 2, none⟩ = some (.slice A7 T2.length c7)) ∧ w'.cell? ⟨b, off + 1, none⟩ = some (.int .i64 1)) ∧ Below w3.heap.size w3 w') (first | exact X0.out | exact keepS HF.out (Nat.le_refl _) (by assumption) hb6 | exact keepS HF.out (Nat.le_refl _) (by assumption) hb5 | exact keepS HF.out (Nat.le_refl _) (by assumption) hb4) (first
          | (go_at_call 33; with_reducible refine Calls.mono (HG.out _) ?_; rintro e w4 ⟨rfl, hb4⟩)
          | (go_at_call 35; with_reducible refine Calls.mono (HAP.out _ (below_step B7.out (below_step (below_drew0 _) hb4))) ?_; rintro e w5 ⟨s5, rfl, ho5, hb5⟩; obtain ⟨A5, c5, rfl, -⟩ := ho5.len)
          | (go_at_call 36; with_reducible refine Calls.mono (HE.out _ _ _ _ _ ho5.rp (RT.out.below (below_step (below_step (below_drew0 _) hb4) hb5))) ?_; rintro e w6 ⟨rfl, hb6⟩))
        all_goals
          have HB9 := Lib.hid (below_step HB.out (below_step B7.out (below_step (below_step (below_step (below_drew0 w3) hb4) hb5) hb6)))
          clear ho5 hb4 hb5 hb6
          go_wp2
          go_ret2
          exact ⟨by simp, HB9.out⟩
      · obtain ⟨k1, k2⟩ : (X == 1) = false ∧ (X != 1) = true := ⟨by simpa using hx, by simpa using hx⟩
        obtain ⟨⟨⟨x1, x2⟩, y1, y2⟩, ⟨u1, u2, u3⟩, y3⟩ := HF.out _ (Below.refl _ _)
        have hxd : decide (X = 1) = false := by simpa using hx
        have HXD := Lib.hid hxd
        clear hxd
        go_wp2
        go_quiet (fail)
        go_wp2
        go_ret2
        exact ⟨by rw [HXD.out]; rfl, below_drewN (below_step HB.out B7.out) _⟩
  · have HA : Hid (ilgM m t m1 l = (false, codeS1 m t m1 l)) := Lib.hid (by unfold ilgM; rw [if_neg h0])
    rw [HA.out]
    obtain ⟨k1, k2⟩ := ne_facts h0
    obtain ⟨C, hC⟩ : ∃ C, codeS1 m t m1 l = C := ⟨_, rfl⟩
    rw [hC] at hc k1 k2 ⊢
    have HC0 := Lib.hid hc
    clear hs2 b1 b2 hwb hW hr hr1 hc h0 hC hz hl
    go_enter Try.func12, Try.ntmps12
    go_wp2_with fail
    rw [HW.out]
    refine HC0.out.mono ?_
    rintro e w2 ⟨rfl, hb2⟩
    have HB9 := Lib.hid (below_step HB.out (below_step (below_one W (.cells #[.int .i64 m1, .slice A1 l.length c1] 34)) hb2))
    clear hb2
    go_wp2
    go_ret2
    exact ⟨rfl, HB9.out⟩
end Go.Proofs.Ytlpfifdocgljnaa

/- Contracts of the model's comparison of lists and of tables. -/
namespace Go.Proofs.Ytlpfifdocgljnaa
open Go.RowKit Go.WideShapes Go.ChangeShapes Go.ChangeAt

set_option maxHeartbeats 1000000 in
theorem l01Same_q (A B : Option Addr) (c d : Nat) (l r : List Int) (w : World) (hl : l.length ≤ 10485760) (hr : r.length ≤ 10485760) (ha : RI w A l) (hb : RI w B r) :
    Calls Try.prog 60 #[.slice A l.length c, .slice B r.length d] w fun e w' => e = .returned (.bool (decide (l = r))) ∧ ∃ n, w' = w.drewN n := by
  obtain ⟨R, hR⟩ : ∃ R, decide (l = r) = R := ⟨_, rfl⟩
  rw [hR]
  by_cases hlen : r.length = l.length
  · have HY := Lib.hid (fun (h : ∀ j : Nat, j < l.length → l[j]?.getD 0 = r[j]?.getD 0) => hR.symm.trans (decide_eq_true (List.ext_getElem? (fun i => by
      by_cases hi : i < l.length
      · have := h i hi
        rw [List.getElem?_eq_getElem hi, List.getElem?_eq_getElem (by omega)] at this ⊢
        exact congrArg some this
      · rw [List.getElem?_eq_none (by omega), List.getElem?_eq_none (by omega)]))))
    have HN := Lib.hid (fun (j : Nat) (h : ¬ l[j]?.getD 0 = r[j]?.getD 0) => hR.symm.trans (decide_eq_false (fun he => h (congrArg (fun (u : List Int) => u[j]?.getD 0) he))))
    obtain ⟨N, hN⟩ : ∃ N, l.length = N := ⟨_, rfl⟩
    have HLL := Lib.hid hlen
    rw [hlen]
    rw [hN] at HY hl ⊢
    have HLN := Lib.hid hN
    clear hR hlen hN
    go_enter Try.func60, Try.ntmps60
    go_wp2
    go_loopw [5] (fun i wr => ∃ j n : Nat, j ≤ N ∧ i = .int .i64 j ∧ wr = w.drewN n ∧ ∀ q : Nat, q < j → l[q]?.getD 0 = r[q]?.getD 0) (fun i _ => N - (intOf i).toNat)
    case atStart => exact ⟨0, 0, Nat.zero_le _, rfl, rfl, fun q h => absurd h (Nat.not_lt_zero _)⟩
    case round =>
      obtain ⟨j, n, hj, rfl, hw, hall⟩ := hrel
      have HW := Lib.hid hw
      have HA := Lib.hid hall
      have hcell : ∀ p : Addr, wr.cell? p = w.cell? p := by intro p; rw [hw]; rfl
      clear hw hall
      by_cases hlt : j < N
      · have hN := HLN.out
        have hlen := HLL.out
        obtain ⟨b, off, rfl, hb1, hc1⟩ := ha (by rintro rfl; simp at hN; omega)
        obtain ⟨b', off', rfl, hb2, hc2⟩ := hb (by rintro rfl; simp at hlen; omega)
        have h1 := (hcell ⟨b, off + j, none⟩).trans (hc1 j (by omega))
        have h2 := (hcell ⟨b', off' + j, none⟩).trans (hc2 j (by omega))
        have hne := HN.out j
        obtain ⟨X, hX⟩ : ∃ x, l[j]?.getD 0 = x := ⟨_, rfl⟩
        obtain ⟨Y, hY⟩ : ∃ x, r[j]?.getD 0 = x := ⟨_, rfl⟩
        rw [hX] at h1 hne
        rw [hY] at h2 hne
        have j1 : (0 : Int) ≤ (j : Int) := by omega
        have j2 : (j : Int) < (N : Int) := by omega
        clear hc1 hc2 ha hb hcell hN hlen
        by_cases hxy : X = Y
        · subst hxy
          have HX := Lib.hid (hX.trans hY.symm)
          clear hX hY hne
          go_wp2
          go_quiet (fail)
          go_wp2
          go_roundw
          case rel => exact ⟨j + 1, n + nq, by omega, by go_num, by rw [HW.out, World.drewN_drewN], fun q hq => (Nat.lt_succ_iff_lt_or_eq.1 hq).elim (HA.out q) (fun h => h ▸ HX.out)⟩
          case measure => simp only [intOf]; omega
        · have HRF := Lib.hid (hne hxy)
          obtain ⟨n1, n2⟩ : (X == Y) = false ∧ (X != Y) = true := ⟨by simpa using hxy, by simpa using hxy⟩
          clear hX hY hne
          go_wp2
          go_quiet (fail)
          go_wp2
          go_ret
          exact ⟨ret_bool HRF.out.symm, n + nq, by rw [HW.out, World.drewN_drewN]⟩
      · obtain rfl : j = N := by omega
        have HRT := Lib.hid (HY.out HA.out)
        clear hcell
        go_wp2
        go_ret
        exact ⟨ret_bool HRT.out.symm, n, HW.out⟩
  · have hRf : R = false := by rw [← hR]; exact decide_eq_false (fun he => hlen (by rw [he]))
    have HRF := Lib.hid hRf
    have hlen2 : ¬ (l.length : Int) = (r.length : Int) := by omega
    obtain ⟨n1, n2⟩ : ((l.length : Int) == (r.length : Int)) = false ∧ ((l.length : Int) != (r.length : Int)) = true := ⟨by simpa using hlen2, by simpa using hlen2⟩
    obtain ⟨N, hN⟩ : ∃ N, l.length = N := ⟨_, rfl⟩
    obtain ⟨M, hM⟩ : ∃ M, r.length = M := ⟨_, rfl⟩
    rw [hN, hM] at n1 n2 hlen2
    rw [hN] at hl ⊢
    rw [hM] at hr ⊢
    clear hR hRf hlen hN hM ha hb
    go_enter Try.func60, Try.ntmps60
    go_wp2
    go_ret
    exact ⟨ret_bool HRF.out.symm, 0, rfl⟩
/-- rows of a table where they lie -/
def RowsAt (w : World) (A : Option Addr) (t : List (List Int)) : Prop := ∀ k, k < t.length → ∃ b off A' c', A = some ⟨b, off, none⟩ ∧ b < w.heap.size ∧ w.cell? ⟨b, off + k, none⟩ = some (.slice A' (Pl.rw' t k).length c') ∧ RI w A' (Pl.rw' t k)
theorem RP.rowsAt {w : World} {A : Option Addr} {t : List (List Int)} (h : RP w A t) : RowsAt w A t := by
  intro k hk
  obtain ⟨b, off, A', c', rfl, h1, h2, _, h3⟩ := h.at k hk
  exact ⟨b, off, A', c', rfl, h1, h2, h3⟩
set_option maxHeartbeats 1000000 in
theorem l01Same2_any (A B : Option Addr) (c d : Nat) (t u : List (List Int)) (w : World) (hlen : u.length = t.length) (hl : t.length ≤ 1000) (h1 : ∀ k, (Pl.rw' t k).length ≤ 10485760) (h2 : ∀ k, (Pl.rw' u k).length ≤ 10485760) (ha : RP w A t) (hb : RP w B u) :
    Calls Try.prog 27 #[.slice A t.length c, .slice B u.length d] w fun e w' => e = .returned (.bool (decide (t = u))) ∧ Below w.heap.size w w' := by
  have HA1 := Lib.hid ha.rowsAt
  have HB1 := Lib.hid hb.rowsAt
  obtain ⟨R, hR⟩ : ∃ R, decide (t = u) = R := ⟨_, rfl⟩
  rw [hR]
  have HY := Lib.hid (fun (h : ∀ j, j < t.length → Pl.rw' t j = Pl.rw' u j) => hR.symm.trans (decide_eq_true (List.ext_getElem? (fun i => by
    by_cases hi : i < t.length
    · have := h i hi
      unfold Pl.rw' at this
      rw [List.getElem?_eq_getElem hi, List.getElem?_eq_getElem (by omega)] at this ⊢
      exact congrArg some this
    · rw [List.getElem?_eq_none (by omega), List.getElem?_eq_none (by omega)]))))
  have HN := Lib.hid (fun j (h : ¬ Pl.rw' t j = Pl.rw' u j) => hR.symm.trans (decide_eq_false (fun he => h (congrArg (fun u => Pl.rw' u j) he))))
  have H1 := Lib.hid h1
  have H2 := Lib.hid h2
  obtain ⟨N, hN⟩ : ∃ N, t.length = N := ⟨_, rfl⟩
  have HLL := Lib.hid hlen
  rw [hlen]
  rw [hN] at HY hl ⊢
  have HLN := Lib.hid hN
  clear hR hlen hN ha hb h1 h2
  go_enter Try.func27, Try.ntmps27
  go_wp2
  go_loopw [5] (fun i wr => ∃ j : Nat, j ≤ N ∧ i = .int .i64 j ∧ Below w.heap.size w wr ∧ ∀ q, q < j → Pl.rw' t q = Pl.rw' u q) (fun i _ => N - (intOf i).toNat)
  case atStart => exact ⟨0, Nat.zero_le _, rfl, Below.refl _ _, fun q h => absurd h (Nat.not_lt_zero _)⟩
  case round =>
    obtain ⟨j, hj, rfl, hbel, hall⟩ := hrel
    have HB := Lib.hid hbel
    have HA := Lib.hid hall
    clear hbel hall
    by_cases hlt : j < N
    · have hN := HLN.out
      have hlen := HLL.out
      obtain ⟨b, off, A1, c1, rfl, g1, k1, r1⟩ := HA1.out j (by omega)
      obtain ⟨b', off', A2, c2, rfl, g2, k2, r2⟩ := HB1.out j (by omega)
      have e1 := (HB.out.cell (p := ⟨b, off + j, none⟩) g1).trans k1
      have e2 := (HB.out.cell (p := ⟨b', off' + j, none⟩) g2).trans k2
      have hne := HN.out j
      have b1 := H1.out j
      have b2 := H2.out j
      obtain ⟨X, hX⟩ : ∃ x, Pl.rw' t j = x := ⟨_, rfl⟩
      obtain ⟨Y, hY⟩ : ∃ x, Pl.rw' u j = x := ⟨_, rfl⟩
      rw [hX] at e1 hne b1 r1
      rw [hY] at e2 hne b2 r2
      have R1 := Lib.hid (r1.below HB.out)
      have R2 := Lib.hid (r2.below HB.out)
      have j1 : (0 : Int) ≤ (j : Int) := by omega
      have j2 : (j : Int) < (N : Int) := by omega
      by_cases hxy : X = Y
      · have HX := Lib.hid (hX.trans (hxy.trans hY.symm))
        have HQ := Lib.hid (fun n => by have := l01Same_q A1 A2 c1 c2 X Y (wr.drewN n) b1 b2 R1.out R2.out; rw [decide_eq_true hxy] at this; exact this)
        clear hX hY hne k1 k2 r1 r2 hN hlen hxy b1 b2
        obtain ⟨n1, hn1⟩ : ∃ n, X.length = n := ⟨_, rfl⟩
        obtain ⟨n2, hn2⟩ : ∃ n, Y.length = n := ⟨_, rfl⟩
        rw [hn1] at e1 HQ
        rw [hn2] at e2 HQ
        clear hn1 hn2
        go_wp2
        go_quiet ((go_at_call 60; exact Calls.quiet_of (HQ.out _)))
        go_wp2
        go_roundw
        case rel => exact ⟨j + 1, by omega, by go_num, below_drewN HB.out _, fun q hq => (Nat.lt_succ_iff_lt_or_eq.1 hq).elim (HA.out q) (fun h => h ▸ HX.out)⟩
        case measure => simp only [intOf]; omega
      · have HRF := Lib.hid (hne hxy)
        have HQ := Lib.hid (fun n => by have := l01Same_q A1 A2 c1 c2 X Y (wr.drewN n) b1 b2 R1.out R2.out; rw [decide_eq_false hxy] at this; exact this)
        clear hX hY hne k1 k2 r1 r2 hN hlen hxy b1 b2
        obtain ⟨n1, hn1⟩ : ∃ n, X.length = n := ⟨_, rfl⟩
        obtain ⟨n2, hn2⟩ : ∃ n, Y.length = n := ⟨_, rfl⟩
        rw [hn1] at e1 HQ
        rw [hn2] at e2 HQ
        clear hn1 hn2
        go_wp2
        go_quiet ((go_at_call 60; exact Calls.quiet_of (HQ.out _)))
        go_wp2
        go_ret
        exact ⟨ret_bool HRF.out.symm, below_drewN HB.out _⟩
    · obtain rfl : j = N := by omega
      have HRT := Lib.hid (HY.out HA.out)
      go_wp2
      go_ret
      exact ⟨ret_bool HRT.out.symm, HB.out⟩
end Go.Proofs.Ytlpfifdocgljnaa

/- Contract of IsLogarithm, of the model. -/
namespace Go.Proofs.Ytlpfifdocgljnaa
open Go.RowKit Go.WideShapes Go.ChangeShapes Go.ChangeAt

set_option maxHeartbeats 16000000 in
set_option maxRecDepth 100000 in
theorem sIsLogarithm_any (m : Int) (A : Option Addr) (c : Nat) (t : List (List Int)) (m1 : Int) (A1 : Option Addr) (c1 : Nat) (l : List Int) (w : World) (hz : szT t ≤ 1048576) (hl : l.length ≤ 1048576) (hr : RP w A t) (hr1 : RI w A1 l) :
    Calls Try.prog 9 #[.agg #[.int .i64 m, .slice A t.length c], .agg #[.int .i64 m1, .slice A1 l.length c1]] w fun e w' => e = .returned (.tuple #[.bool (ilgM m t m1 l).1, .int .i64 (ilgM m t m1 l).2]) ∧ Below w.heap.size w w' := by
  obtain ⟨W, hW, b1, b2, hwb⟩ := startB2 32 34 w m A t.length c m1 A1 l.length c1
  have B1 := Lib.hid b1
  have B2 := Lib.hid b2
  have HB := Lib.hid hwb
  have HW := Lib.hid hW
  have hs2 : W.heap.size = w.heap.size + 1 + 1 := by rw [← hW]; simp
  have hc : Calls Try.prog 26 #[.agg #[.int .i64 m, .slice A t.length c], .slice (some ⟨w.heap.size + 1 + 1, 0, none⟩) 1 1] (W.alloc (.cells #[.int .i64 m1, .slice A1 l.length c1] 34)) fun e w' => e = .returned (.int .i64 (codeS1 m t m1 l)) ∧ Below (W.alloc (.cells #[.int .i64 m1, .slice A1 l.length c1] 34)).heap.size (W.alloc (.cells #[.int .i64 m1, .slice A1 l.length c1] 34)) w' :=
    l04Code_any (w.heap.size + 1 + 1) m A c t [(m1, A1, c1, l)] (W.alloc (.cells #[.int .i64 m1, .slice A1 l.length c1] 34)) hz ((hr.below hwb).below (below_one _ _)) (SL.one (by have := Box.newT 34 W m1 A1 l.length c1; rwa [hs2] at this) ((hr1.below hwb).below (below_one _ _)) hl) (by simp)
  by_cases h0 : codeS1 m t m1 l = 0
  · rw [h0] at hc
    have HC0 := Lib.hid hc
    obtain ⟨hL0, rfl, d, e1, f1, ok, hf, s1, z1⟩ := codeS1_ok h0
    have hd1 := ok.d1
    have hd2 := ok.d2
    have HAP := Lib.hid (fun W0 (h : Below W.heap.size W W0) => l03After_any m1 d A1 c1 l A c t W0 s1 ok ((hr1.below hwb).below h) ((hr.below hwb).below h))
    have HSM := Lib.hid (fun W0 (h : Below W.heap.size W W0) => l05Sum_any m1 d A1 c1 l W0 s1 ((hr1.below hwb).below h))
    have hrow : ∀ (f : Nat → Nat → Int) (k : Nat), (Pl.rw' (Pl.tab m1 d f) k).length ≤ 10485760 := fun f k => by
      by_cases hk : k ≤ d
      · rw [Pl.tab_row _ _ _ _ hk, Ser.cut_length]; omega
      · rw [Pl.rw_over (by rw [Pl.tab_length]; omega)]; exact Nat.zero_le _
    have HE := Lib.hid (fun W0 A2 c2 A3 c3 (h2 : RP W0 A2 (Pl.hor m1 d l (Pl.pc t) (d + 1))) (h3 : RP W0 A3 (Pl.tab m1 d (sumF l))) => l01Same2_any A2 A3 c2 c3 (Pl.hor m1 d l (Pl.pc t) (d + 1)) (Pl.tab m1 d (sumF l)) W0 (by rw [Pl.hor_length]; exact Pl.tab_length _ _ _) (by rw [Pl.hor_length]; omega) (fun k => hrow _ k) (fun k => hrow _ k) h2 h3)
    obtain ⟨R, hR⟩ : ∃ R, ilgB m1 d t l = R := ⟨_, rfl⟩
    rw [show decide (Pl.hor m1 d l (Pl.pc t) (d + 1) = Pl.tab m1 d (sumF l)) = R from hR] at HE
    have hA : ilgM m1 t m1 l = (decide (Ser.co l 1 = 1) && R, 0) := by unfold ilgM; rw [if_pos h0, e1, show d + 1 - 1 = d from rfl, hR]
    obtain ⟨b, off, rfl, hbb, hcl⟩ := (hr1.below hwb).at 1 (by omega)
    obtain ⟨X, hX⟩ : ∃ X, Ser.co l 1 = X := ⟨_, rfl⟩
    rw [hX] at hcl hA
    have HA := Lib.hid hA
    rw [HA.out]
    obtain ⟨T1, hT1⟩ : ∃ T, Pl.hor m1 d l (Pl.pc t) (d + 1) = T := ⟨_, rfl⟩
    obtain ⟨T2, hT2⟩ : ∃ T, Pl.tab m1 d (sumF l) = T := ⟨_, rfl⟩
    rw [hT1] at HAP HE
    rw [hT2] at HSM HE
    obtain ⟨L, hL⟩ : ∃ L, t.length = L := ⟨_, rfl⟩
    obtain ⟨n1, hn1⟩ : ∃ L, l.length = L := ⟨_, rfl⟩
    rw [hL] at HC0 HAP HW B1 ⊢
    rw [hn1] at HC0 HSM HAP HW B2 f1 ⊢
    have z0 : (1 : Int) < (n1 : Int) := by omega
    have z2 : 1 < n1 := by omega
    have HBB := Lib.hid hbb
    have HCL := Lib.hid hcl
    clear hs2 b1 b2 hwb hW hr hr1 hc h0 hA hf ok s1 z1 e1 f1 hz hl hR hL hn1 hT1 hT2 hL0 hX hbb hcl hrow
    go_enter Try.func9, Try.ntmps9
    go_wp2_with fail
    rw [HW.out]
    refine HC0.out.mono ?_
    rintro e w3 ⟨rfl, hb2⟩
    have B7 := Lib.hid (below_step (below_one W (.cells #[.int .i64 m1, .slice (some ⟨b, off, none⟩) n1 c1] 34)) hb2)
    have HF := Lib.hid (fun w' (h : Below w3.heap.size w3 w') => (⟨⟨⟨(B1.out.keep (below_step B7.out h)).1, (B1.out.keep (below_step B7.out h)).2.1⟩, (B2.out.keep (below_step B7.out h)).1, (B2.out.keep (below_step B7.out h)).2.1⟩,
      ((below_step B7.out h).cell (p := ⟨b, off + 1, none⟩) HBB.out).trans HCL.out⟩ :
      ((w'.cell? ⟨w.heap.size, 0, none⟩ = some (.int .i64 m1) ∧ w'.cell? ⟨w.heap.size, 1, none⟩ = some (.slice A L c)) ∧ w'.cell? ⟨w.heap.size + 1, 0, none⟩ = some (.int .i64 m1) ∧ w'.cell? ⟨w.heap.size + 1, 1, none⟩ = some (.slice (some ⟨b, off, none⟩) n1 c1)) ∧
      w'.cell? ⟨b, off + 1, none⟩ = some (.int .i64 X)))
    clear hb2
    by_cases hx : X = 1
    · subst hx
      have X0 := Lib.hid (keepW HF.out (below_drew0 w3))
      go_wp2
      go_region_held3 (fun w' => (((w'.cell? ⟨w.heap.size, 0, none⟩ = some (.int .i64 m1) ∧ w'.cell? ⟨w.heap.size, 1, none⟩ = some (.slice A L c)) ∧ w'.cell? ⟨w.heap.size + 1, 0, none⟩ = some (.int .i64 m1) ∧ w'.cell? ⟨w.heap.size + 1, 1, none⟩ = some (.slice (some ⟨b, off, none⟩) n1 c1)) ∧
        w'.cell? ⟨b, off + 1, none⟩ = some (.int .i64 1)) ∧ Below w3.heap.size w3 w') (first | exact X0.out | exact keepS HF.out (Nat.le_refl _) (by assumption) hb6 | exact keepS HF.out (Nat.le_refl _) (by assumption) hb5 | exact keepS HF.out (Nat.le_refl _) (by assumption) hb4) (first
        | (go_at_call 28; with_reducible refine Calls.mono (HAP.out _ (below_step B7.out (below_drew0 _))) ?_; rintro e w4 ⟨s4, rfl, ho4, hb4⟩; obtain ⟨A4, c4, rfl, -⟩ := ho4.len)
        | (go_at_call 29; with_reducible refine Calls.mono (HSM.out _ (below_step B7.out (below_step (below_drew0 _) hb4))) ?_; rintro e w5 ⟨s5, rfl, ho5, hb5⟩; obtain ⟨A5, c5, rfl, -⟩ := ho5.len)
        | (go_at_call 27; with_reducible refine Calls.mono (HE.out _ _ _ _ _ (ho4.keep hb5).rp ho5.rp) ?_; rintro e w6 ⟨rfl, hb6⟩))
      all_goals
        have HB9 := Lib.hid (below_step HB.out (below_step B7.out (below_step (below_step (below_step (below_drew0 w3) hb4) hb5) hb6)))
        clear ho4 ho5 hb4 hb5 hb6
        go_wp2
        go_ret2
        exact ⟨by simp, HB9.out⟩
    · obtain ⟨k1, k2⟩ : (X == 1) = false ∧ (X != 1) = true := ⟨by simpa using hx, by simpa using hx⟩
      obtain ⟨⟨⟨x1, x2⟩, y1, y2⟩, y3⟩ := HF.out _ (Below.refl _ _)
      have hxd : decide (X = 1) = false := by simpa using hx
      have HXD := Lib.hid hxd
      clear hxd
      go_wp2
      go_quiet (fail)
      go_wp2
      go_ret2
      exact ⟨by rw [HXD.out]; rfl, below_drewN (below_step HB.out B7.out) _⟩
  · have HA : Hid (ilgM m t m1 l = (false, codeS1 m t m1 l)) := Lib.hid (by unfold ilgM; rw [if_neg h0])
    rw [HA.out]
    obtain ⟨k1, k2⟩ := ne_facts h0
    obtain ⟨C, hC⟩ : ∃ C, codeS1 m t m1 l = C := ⟨_, rfl⟩
    rw [hC] at hc k1 k2 ⊢
    have HC0 := Lib.hid hc
    clear hs2 b1 b2 hwb hW hr hr1 hc h0 hC hz hl
    go_enter Try.func9, Try.ntmps9
    go_wp2_with fail
    rw [HW.out]
    refine HC0.out.mono ?_
    rintro e w2 ⟨rfl, hb2⟩
    have HB9 := Lib.hid (below_step HB.out (below_step (below_one W (.cells #[.int .i64 m1, .slice A1 l.length c1] 34)) hb2))
    clear hb2
    go_wp2
    go_ret2
    exact ⟨rfl, HB9.out⟩
end Go.Proofs.Ytlpfifdocgljnaa

