/- Texts of contracts, joined. -/
import Derived.Test.YtpmbojbdppbkgaaMgam
import Derived.Test.YtpmbojbdppbkgaaMgan
import Derived.Test.YtpmbojbdppbkgaaMgas
import Derived.Test.YtpmbojbdppbkgaaMgah
import Derived.Test.YtpmbojbdppbkgaaMgal
import Derived.Test.YtpmbojbdppbkgaaMgab
/- Contracts of MultipleByLogarithm, of the program and of the model. -/
namespace Go.Proofs.Ytpmbojbdppbkgaa
open Go.RowKit Go.WideShapes Go.ChangeShapes Go.ChangeAt

/-- the model of MultipleByLogarithm -/
def mblL (m : Int) (d : Nat) (t : List (List Int)) (k : Int) : List Int := Ser.cmpL m d (exqL m t) (scaL m d (logL m t) k)
def mulBL (m : Int) (t : List (List Int)) (k : Int) : Int × List Int × Int :=
  if isL m t = true then (if inB k (-1000000) 1000000 = true then (if allU m (t.length - 1) = true then (m, mblL m (t.length - 1) t k, 0) else (0, [], 5)) else (0, [], 2)) else (0, [], 1)
theorem mulBL_len (m : Int) (t : List (List Int)) (k : Int) : (mulBL m t k).2.1.length ≤ 1048576 := by
  unfold mulBL
  by_cases h : isL m t = true
  · rw [if_pos h]
    obtain ⟨-, d, e, ok, -⟩ := isL_of h
    have := ok.d2
    by_cases h2 : inB k (-1000000) 1000000 = true
    · rw [if_pos h2]
      by_cases h3 : allU m (t.length - 1) = true
      · rw [if_pos h3]
        dsimp only
        unfold mblL
        rw [Ser.cmpL_length]; omega
      · rw [if_neg h3]; exact Nat.zero_le _
    · rw [if_neg h2]; exact Nat.zero_le _
  · rw [if_neg h]; exact Nat.zero_le _
theorem scaL_ok {m : Int} {d : Nat} {l : List Int} (hs : SerOk m d l) (k : Int) : SerOk m d (scaL m d l k) := hs.cut _
theorem scaL_zero {m : Int} {d : Nat} {l : List Int} (h : Ser.co l 0 = 0) (k : Int) : Ser.co (scaL m d l k) 0 = 0 := by
  unfold scaL
  rw [Ser.co_cut (Nat.zero_le _), h, Int.zero_mul, Int.zero_emod]
theorem scaL_mod (m : Int) (d : Nat) (l : List Int) (k : Int) : scaL m d l (k % m) = scaL m d l k := by
  unfold scaL
  refine Ser.cut_congr (fun n _ => ?_)
  exact Ser.mul_cong rfl (Int.emod_emod _ _)
theorem mod_fix (m n : Int) (hm : 0 < m) : ∃ T, n.tmod m = T ∧ -m < T ∧ T < m ∧ (T + m) % m = n % m := by
  by_cases hn : 0 ≤ n
  · have h1 := Int.emod_nonneg n (show m ≠ 0 by omega)
    have h2 := Int.emod_lt_of_pos n hm
    exact ⟨n % m, Int.tmod_eq_emod_of_nonneg hn, by omega, h2, by rw [Int.add_emod_right, Int.emod_emod]⟩
  · obtain ⟨r, a1, a2, a3, a4, a5⟩ := rem_neg m n hm (by omega)
    exact ⟨-r, a3, by omega, by omega, by rw [Int.add_emod_right]; exact a5⟩
theorem field_exp (a b : Value) (W : World) : (Instr.field 92 (.agg #[a, b]) 0).run Try.prog W = .ok (.agg #[a, b]) W := by kernel_rfl
set_option maxHeartbeats 8000000 in
set_option maxRecDepth 100000 in
theorem MultipleByLogarithm_any (m : Int) (A : Option Addr) (c : Nat) (t : List (List Int)) (k : Int) (w : World) (hz : szT t ≤ 1048576) (hr : RP w A t) :
    Calls Try.prog 53 #[.agg #[.int .i64 m, .slice A t.length c], .int .i64 k] w fun e w' => ∃ s, e = .returned (.tuple #[.agg #[.int .i64 (mulBL m t k).1, s], .int .i64 (mulBL m t k).2.2]) ∧ OwnI w' w.heap.size s (mulBL m t k).2.1 ∧ Below w.heap.size w w' := by
  obtain ⟨W, hW, b1, v3, b4, hwb⟩ := pro1S w m A t.length c
  have B1 := Lib.hid b1
  have V3 := Lib.hid v3
  have HB := Lib.hid hwb
  have HW := Lib.hid hW
  have hc := codeL1_any (w.heap.size + 1 + 1) m A c t W hz (hr.below hwb) b4
  unfold codeL1 at hc
  have HWI := Lib.hid (fun W0 => isWithin_any k (-1000000) 1000000 W0)
  by_cases h0 : isL m t = true
  · rw [if_pos h0] at hc
    have HC0 := Lib.hid hc
    obtain ⟨-, d, e1, ok, hf⟩ := isL_of h0
    have hd2 := ok.d2
    by_cases hin : inB k (-1000000) 1000000 = true
    · rw [hin] at HWI
      obtain ⟨k1, k2⟩ := (inB_iff _ _ _).1 hin
      have HG := Lib.hid (fun W0 => lawOf_nat m A t.length c d W0 e1 (by omega))
      have HI := Lib.hid (fun W0 (h : Below W.heap.size W W0) => logarithm_any m d A c t W0 ok ((hr.below hwb).below h))
      by_cases hu : allU m (t.length - 1) = true
      · have HA : Hid (mulBL m t k = (m, mblL m d t k, 0)) := Lib.hid (by unfold mulBL; rw [if_pos h0, if_pos hin, if_pos hu, e1]; rfl)
        rw [HA.out]
        rw [show lgM m t = (m, logL m t, 0) by unfold lgM; rw [if_pos hu]] at HI
        have HRV := Lib.hid (fun W0 A0 c0 (h : RI W0 A0 (logL m t)) => by
          have := reversion_any m d A0 c0 (logL m t) W0 (logL_ok ok) h
          rw [exq_lag ok] at this
          exact this)
        have HSC := Lib.hid (fun W0 A0 c0 (h : RI W0 A0 (logL m t)) => scaledB_any m d A0 c0 (logL m t) k W0 (logL_ok ok) h k1 k2)
        have HCP := Lib.hid (fun W0 A0 c0 A1 c1 (h : RI W0 A0 (exqL m t)) (h1 : RI W0 A1 (scaL m d (logL m t) k)) => composed_any m d A0 c0 (exqL m t) m A1 c1 (scaL m d (logL m t) k) W0 (exqL_ok ok) (scaL_ok (logL_ok ok) k) h h1)
        obtain ⟨R, hR⟩ : ∃ R, mblL m d t k = R := ⟨_, rfl⟩
        rw [show Ser.cmpL m d (exqL m t) (scaL m d (logL m t) k) = R from hR] at HCP
        rw [hR]
        obtain ⟨U, hU⟩ : ∃ U, scaL m d (logL m t) k = U := ⟨_, rfl⟩
        rw [hU] at HSC HCP
        obtain ⟨T, hT⟩ : ∃ T, logL m t = T := ⟨_, rfl⟩
        obtain ⟨V, hV⟩ : ∃ V, exqL m t = V := ⟨_, rfl⟩
        rw [hT] at HI HRV HSC
        rw [hV] at HRV HCP
        obtain ⟨L, hL⟩ : ∃ L, t.length = L := ⟨_, rfl⟩
        rw [hL] at HG HI HW B1 ⊢
        clear b1 v3 b4 hwb hW hr hc h0 ok hf e1 hz hT hR hL hu HA hin hU hV k1 k2
        have hfd := field_exp
        go_enter Try.func53, Try.ntmps53
        go_wp2_with fail
        rw [HW.out]
        refine HC0.out.mono ?_
        rintro e w1 ⟨rfl, hb1⟩
        obtain ⟨x1, x2, x3⟩ := B1.out.keep hb1
        go_wp2_with fail
        refine (HWI.out _).mono ?_
        rintro e w' ⟨rfl, rfl⟩
        go_wp2_with fail
        refine (HG.out _).mono ?_
        rintro e w2 ⟨rfl, hb2⟩
        clear x1 x2 x3
        have hb12 := below_step hb1 hb2
        go_wp2_with fail
        refine (HI.out _ hb12).mono ?_
        rintro e w3 ⟨s, rfl, ho, hb3⟩
        obtain ⟨A2, c2, rfl, -⟩ := ho.form
        have hb13 := below_step hb12 hb3
        obtain ⟨w4, hw4⟩ : ∃ w4, w3.alloc (.cells #[.int .i64 m, .slice A2 T.length c2] 88) = w4 := ⟨_, rfl⟩
        have hb4 : Below W.heap.size W w4 := by rw [← hw4]; exact below_alloc _ hb13
        have hr4 : RI w4 A2 T := by rw [← hw4]; exact (ho.keep (below_one _ _)).ri
        have hbx : Box w4 w3.heap.size m A2 T.length c2 := by rw [← hw4]; exact Box.newT _ _ _ _ _ _
        have HW4 := Lib.hid hw4
        have HB4 := Lib.hid hb4
        have HR4 := Lib.hid hr4
        have hge : W.heap.size ≤ w3.heap.size := hb13.size
        have hlt4 := hbx.2.2
        have X0 := Lib.hid (box_call (below_drew0 w4) hbx)
        obtain ⟨g0, g1, -⟩ := hbx
        rw [← hw4] at g0 g1
        have hsz := V3.out.lt
        clear ho hb1 hb2 hb3 hb12 hb13 hw4 hb4 hr4
        go_wp2
        rw [HW4.out]
        clear g0 g1
        go_region_held3 (fun w' => w'.cell? ⟨w3.heap.size, 0, none⟩ = some (.int .i64 m) ∧ w'.cell? ⟨w3.heap.size, 1, none⟩ = some (.slice A2 T.length c2) ∧ w3.heap.size < w'.heap.size) (first | exact X0.out | exact box_store (by omega) (by assumption) | exact box_call hb7 (by assumption) | exact box_call hb6 (by assumption) | exact box_call hb5 (by assumption)) (first
          | (go_at_call 93; with_reducible refine Calls.mono (HRV.out _ _ _ (HR4.out.below (below_drew0 _))) ?_; rintro e w5 ⟨s5, rfl, ho5, hb5⟩; obtain ⟨A5, c5, rfl, -⟩ := ho5.form)
          | (go_at_call 116; with_reducible refine Calls.mono (HSC.out _ _ _ (HR4.out.below (below_step (below_drew0 _) hb5))) ?_; rintro e w6 ⟨s6, rfl, ho6, hb6⟩; obtain ⟨A6, c6, rfl, -⟩ := ho6.form)
          | (go_at_call 115; with_reducible refine Calls.mono (HCP.out _ _ _ _ _ (ho5.keep hb6).ri ho6.ri) ?_; rintro e w7 ⟨s7, rfl, ho7, hb7⟩; obtain ⟨A7, c7, rfl, -⟩ := ho7.form; have hv := V3.out.keep (below_step HB4.out (below_step (below_step (below_step (below_drew0 _) hb5) hb6) hb7)); obtain ⟨q0, q1, q2, q3⟩ := hv.tells2))
        all_goals
          have hw7 := below_step HB4.out (below_step (below_step (below_step (below_drew0 _) hb5) hb6) hb7)
          have hz1 := (below_step HB4.out (below_step (below_step (below_drew0 _) hb5) hb6)).size
          obtain ⟨f0, f1, f2, f3⟩ := fin_serC (w := w) hv ho7 (by omega) (by omega) (below_step HB.out hw7) (.int .i64 m) (.slice A7 R.length c7)
          have F2 := Lib.hid (OwnI.more (b' := w.heap.size) f2 (by omega))
          have F3 := Lib.hid f3
          clear f2 f3 hv hw7 ho5 ho6 ho7 hb5 hb6 hb7
          go_wp2
          exact bodyPost_ret (v := .tuple #[.agg #[.int .i64 m, .slice A7 R.length c7], .int .i64 0]) (by simp [results, Try.results53, go_sem, f0, f1]) rfl ⟨_, rfl, F2.out, F3.out⟩
      · have HA : Hid (mulBL m t k = (0, [], 5)) := Lib.hid (by unfold mulBL; rw [if_pos h0, if_pos hin, if_neg hu])
        rw [HA.out]
        rw [show lgM m t = (0, [], 5) by unfold lgM; rw [if_neg hu]] at HI
        obtain ⟨L, hL⟩ : ∃ L, t.length = L := ⟨_, rfl⟩
        rw [hL] at HG HI HW B1 ⊢
        clear b1 v3 b4 hwb hW hr hc h0 ok hf e1 hz hL hu HA hin k1 k2
        go_enter Try.func53, Try.ntmps53
        go_wp2_with fail
        rw [HW.out]
        refine HC0.out.mono ?_
        rintro e w1 ⟨rfl, hb1⟩
        obtain ⟨x1, x2, x3⟩ := B1.out.keep hb1
        go_wp2_with fail
        refine (HWI.out _).mono ?_
        rintro e w' ⟨rfl, rfl⟩
        go_wp2_with fail
        refine (HG.out _).mono ?_
        rintro e w2 ⟨rfl, hb2⟩
        clear x1 x2 x3
        have hb12 := below_step hb1 hb2
        go_wp2_with fail
        refine (HI.out _ hb12).mono ?_
        rintro e w3 ⟨s, rfl, ho, hb3⟩
        obtain ⟨A2, c2, rfl, -⟩ := ho.form
        have hb13 := below_alloc (.cells #[.int .i64 0, .slice A2 0 c2] 88) (below_step hb12 hb3)
        clear ho hb1 hb2 hb3 hb12
        have hv := V3.out.keep (hb13)
        obtain ⟨q0, q1, q2, q3⟩ := hv.tells2
        obtain ⟨f0, f1, f2, f3⟩ := fin_serC (w := w) hv (OwnI.nil _ (w.heap.size + 1 + 1)) (by omega) (by omega) (below_step HB.out (hb13)) (.int .i64 0) (.slice none 0 0)
        have F2 := Lib.hid (OwnI.more (b' := w.heap.size) f2 (by omega))
        have F3 := Lib.hid f3
        clear f2 f3 hv
        go_wp2
        exact bodyPost_ret (v := .tuple #[.agg #[.int .i64 0, .slice none 0 0], .int .i64 (5)]) (by simp [results, Try.results53, go_sem, f0, f1]) rfl ⟨_, rfl, F2.out, F3.out⟩
    · have HA : Hid (mulBL m t k = (0, [], 2)) := Lib.hid (by unfold mulBL; rw [if_pos h0, if_neg hin])
      rw [HA.out]
      rw [show inB k (-1000000) 1000000 = false by simpa using hin] at HWI
      clear b1 v3 b4 hwb hW hr hc h0 ok hf e1 hz HA hin
      go_enter Try.func53, Try.ntmps53
      go_wp2_with fail
      rw [HW.out]
      refine HC0.out.mono ?_
      rintro e w1 ⟨rfl, hb1⟩
      go_wp2_with fail
      refine (HWI.out _).mono ?_
      rintro e w' ⟨rfl, rfl⟩
      have hv := V3.out.keep (hb1)
      obtain ⟨q0, q1, q2, q3⟩ := hv.tells2
      obtain ⟨f0, f1, f2, f3⟩ := fin_serC (w := w) hv (OwnI.nil _ (w.heap.size + 1 + 1)) (by omega) (by omega) (below_step HB.out (hb1)) (.int .i64 0) (.slice none 0 0)
      have F2 := Lib.hid (OwnI.more (b' := w.heap.size) f2 (by omega))
      have F3 := Lib.hid f3
      clear f2 f3 hv
      go_wp2
      exact bodyPost_ret (v := .tuple #[.agg #[.int .i64 0, .slice none 0 0], .int .i64 (2)]) (by simp [results, Try.results53, go_sem, f0, f1]) rfl ⟨_, rfl, F2.out, F3.out⟩
  · rw [if_neg h0] at hc
    have HC0 := Lib.hid hc
    have HA : Hid (mulBL m t k = (0, [], 1)) := Lib.hid (by unfold mulBL; rw [if_neg h0])
    rw [HA.out]
    clear b1 v3 b4 hwb hW hr hc h0 hz
    go_enter Try.func53, Try.ntmps53
    go_wp2_with fail
    rw [HW.out]
    refine HC0.out.mono ?_
    rintro e w1 ⟨rfl, hb1⟩
    have hv := V3.out.keep (hb1)
    obtain ⟨q0, q1, q2, q3⟩ := hv.tells2
    obtain ⟨f0, f1, f2, f3⟩ := fin_serC (w := w) hv (OwnI.nil _ (w.heap.size + 1 + 1)) (by omega) (by omega) (below_step HB.out (hb1)) (.int .i64 0) (.slice none 0 0)
    have F2 := Lib.hid (OwnI.more (b' := w.heap.size) f2 (by omega))
    have F3 := Lib.hid f3
    clear f2 f3 hv
    go_wp2
    exact bodyPost_ret (v := .tuple #[.agg #[.int .i64 0, .slice none 0 0], .int .i64 (1)]) (by simp [results, Try.results53, go_sem, f0, f1]) rfl ⟨_, rfl, F2.out, F3.out⟩
end Go.Proofs.Ytpmbojbdppbkgaa

/- Contract of MultipleByLogarithm, of the model. -/
namespace Go.Proofs.Ytpmbojbdppbkgaa
open Go.RowKit Go.WideShapes Go.ChangeShapes Go.ChangeAt

set_option maxHeartbeats 16000000 in
set_option maxRecDepth 100000 in
theorem sMultipleByLogarithm_any (m : Int) (A : Option Addr) (c : Nat) (t : List (List Int)) (k : Int) (w : World) (hz : szT t ≤ 1048576) (hr : RP w A t) :
    Calls Try.prog 52 #[.agg #[.int .i64 m, .slice A t.length c], .int .i64 k] w fun e w' => ∃ s, e = .returned (.tuple #[.agg #[.int .i64 (mulBL m t k).1, s], .int .i64 (mulBL m t k).2.2]) ∧ OwnI w' w.heap.size s (mulBL m t k).2.1 ∧ Below w.heap.size w w' := by
  obtain ⟨W, hW, b1, v3, hwb⟩ := spro1S w m A t.length c
  have B1 := Lib.hid b1
  have V3 := Lib.hid v3
  have HB := Lib.hid hwb
  have HW := Lib.hid hW
  have hc := l04Is_any m A c t W hz (hr.below hwb)
  have HWI := Lib.hid (fun W0 => l01In_any k (-1000000) 1000000 W0)
  by_cases h0 : isL m t = true
  · rw [h0] at hc
    obtain ⟨-, d, e1, ok, hf⟩ := isL_of h0
    have hd2 := ok.d2
    have hd1 := ok.d1
    have m1 := ok.m1
    have m2 := ok.m2
    by_cases hin : inB k (-1000000) 1000000 = true
    · rw [hin] at HWI
      obtain ⟨k1, k2⟩ := (inB_iff _ _ _).1 hin
      have HIN := Lib.hid (fun W0 => l02Integers_any m d W0 m1 m2 (by omega))
      obtain ⟨D, hD⟩ : ∃ D : Int, D = (d : Int) := ⟨_, rfl⟩
      rw [← hD] at HIN
      by_cases hu : allU m (t.length - 1) = true
      · have hu2 : allU m d = true := by rwa [e1] at hu
        rw [hu2] at HIN
        have HA : Hid (mulBL m t k = (m, mblL m d t k, 0)) := Lib.hid (by unfold mulBL; rw [if_pos h0, if_pos hin, if_pos hu, e1]; rfl)
        rw [HA.out]
        have HLG := Lib.hid (fun W0 (h : Below W.heap.size W W0) => l05Logarithm_any m d A c t W0 ok hf hu2 ((hr.below hwb).below h))
        have HRV := Lib.hid (fun W0 A0 c0 (h : RI W0 A0 (logL m t)) => by
          have := l02Reverse_any m d A0 c0 (logL m t) W0 (logL_ok ok) h (logL_zero m t)
          rw [logL_one ok.m1, eg_one ok.m1, show Ser.revC m 1 (Ser.co (logL m t)) (d - 1) = exqL m t by unfold exqL; rw [e1]; rfl, ← hD] at this
          exact this)
        obtain ⟨T0, q1, q2, q3, q4⟩ := mod_fix m k (by omega)
        have r1 := Int.emod_nonneg k (show m ≠ 0 by omega)
        have r2 := Int.emod_lt_of_pos k (show 0 < m by omega)
        have HSC := Lib.hid (fun W0 A0 c0 (h : RI W0 A0 (logL m t)) => by
          have := l02Scale_any m d (k % m) A0 c0 (logL m t) W0 (logL_ok ok) h r1 r2
          rw [scaL_mod] at this
          exact this)
        obtain ⟨K0, hK0⟩ : ∃ K0, k % m = K0 := ⟨_, rfl⟩
        rw [hK0] at HSC q4 r1 r2
        have HCP := Lib.hid (fun W0 A0 c0 A1 c1 (h : RI W0 A0 (exqL m t)) (h1 : RI W0 A1 (scaL m d (logL m t) k)) => by
          have := l02Compose_any m d A0 c0 (exqL m t) A1 c1 (scaL m d (logL m t) k) W0 m1 m2 (by omega) (by rw [exqL_length ok]; omega) (by rw [exqL_length ok]; omega) (by rw [(scaL_ok (logL_ok ok) k).len]; omega) (exqL_ok ok).red (scaL_ok (logL_ok ok) k).red (scaL_zero (logL_zero m t) k) h h1
          rw [← hD] at this
          exact this)
        obtain ⟨R, hR⟩ : ∃ R, mblL m d t k = R := ⟨_, rfl⟩
        rw [show Ser.horC m d (Ser.co (exqL m t)) (Ser.co (scaL m d (logL m t) k)) (d + 1) = R from hR] at HCP
        rw [hR]
        obtain ⟨U, hU⟩ : ∃ U, scaL m d (logL m t) k = U := ⟨_, rfl⟩
        rw [hU] at HSC HCP
        obtain ⟨T, hT⟩ : ∃ T, logL m t = T := ⟨_, rfl⟩
        obtain ⟨V, hV⟩ : ∃ V, exqL m t = V := ⟨_, rfl⟩
        rw [hT] at HLG HRV HSC
        rw [hV] at HRV HCP
        obtain ⟨L, hL⟩ : ∃ L, t.length = L := ⟨_, rfl⟩
        rw [hL] at hc HLG HW B1 ⊢
        have hLb : L ≤ 11 := by omega
        have w9 : IntKind.i64.wrap ((L : Int) - 1) = D := by rw [IntKind.wrap_i64]; omega
        have w9b : (L : Int) - 1 = D := by omega
        have hm0 : ¬ m = 0 := by omega
        have w10 : IntKind.i64.wrap (T0 + m) = T0 + m := by rw [IntKind.wrap_i64]; omega
        have w11 : (T0 + m).tmod m = K0 := by rw [Int.tmod_eq_emod_of_nonneg (by omega)]; exact q4
        have w12 : IntKind.i64.wrap T0 = T0 := by rw [IntKind.wrap_i64]; omega
        have w13 : IntKind.i64.wrap K0 = K0 := by rw [IntKind.wrap_i64]; omega
        have HC0 := Lib.hid hc
        have Q1 := Lib.hid q1
        have W10 := Lib.hid w10
        have W11 := Lib.hid w11
        have W12 := Lib.hid w12
        have W13 := Lib.hid w13
        have W9 := Lib.hid w9
        have W9b := Lib.hid w9b
        have hsz := V3.out.lt
        clear b1 v3 hwb hW hr hc h0 ok hf e1 hz hT hR hL HA hin hu hu2 hU hV hD q1 q4 hK0 w10 w11 w12 w13 w9 w9b
        have w9 := W9.out
        have w9b := W9b.out
        go_enter Try.func52, Try.ntmps52
        go_wp2_with fail
        rw [HW.out]
        refine HC0.out.mono ?_
        rintro e w1 ⟨rfl, hb1⟩
        obtain ⟨x1, x2, x3⟩ := B1.out.keep hb1
        go_wp2_with fail
        refine (HWI.out _).mono ?_
        rintro e w' ⟨rfl, rfl⟩
        go_wp2_with fail
        refine (HIN.out _).mono ?_
        rintro e w' ⟨rfl, rfl⟩
        go_wp2
        clear w9b
        go_region_held3 (fun w' => w'.cell? ⟨w.heap.size, 0, none⟩ = some (.int .i64 m) ∧ w'.cell? ⟨w.heap.size, 1, none⟩ = some (.slice A L c) ∧ w.heap.size < w'.heap.size) (first | exact ⟨x1, x2, x3⟩ | exact box_call (by assumption) (by assumption)) (first
          | (go_at_call 89; with_reducible refine Calls.mono (HLG.out _ (below_step hb1 (below_drew0 _))) ?_; rintro e2 w2 ⟨s2, rfl, ho2, hb2⟩; obtain ⟨A2, c2, rfl, -⟩ := ho2.form))
        all_goals
          have hb12 := below_step (below_step hb1 (below_drew0 _)) hb2
          have HR2 := Lib.hid ho2.ri
          have hz2 := (below_step hb1 (below_drew0 _)).size
          have HB12 := Lib.hid hb12
          have hbx := B1.out.keep hb12
          have X1 := Lib.hid (And.intro (box_call (below_drew0 w2) hbx) hm0)
          clear x1 x2 x3 ho2 hb1 hb2 hb12 hbx w9
          have q1 := Q1.out
          have w10 := W10.out
          have w11 := W11.out
          have w12 := W12.out
          go_wp2
          go_region_held3 (fun w' => (w'.cell? ⟨w.heap.size, 0, none⟩ = some (.int .i64 m) ∧ w'.cell? ⟨w.heap.size, 1, none⟩ = some (.slice A L c) ∧ w.heap.size < w'.heap.size) ∧ ¬ m = 0) (first | exact X1.out | exact ⟨box_call (by assumption) X1.out.1, hm0⟩) (first
            | (go_at_call 113; with_reducible refine Calls.mono (HSC.out _ _ _ (HR2.out.below (below_drew0 _))) ?_; rintro e3 w3 ⟨s3, rfl, ho3, hb3⟩; obtain ⟨A3, c3, rfl, -⟩ := ho3.form))
          all_goals
            have hb13 := below_step HB12.out (below_step (below_drew0 _) hb3)
            have HR3 := Lib.hid ho3.ri
            have HR23 := Lib.hid (HR2.out.below (below_step (below_drew0 _) hb3))
            have HB13 := Lib.hid hb13
            have hbx := B1.out.keep hb13
            have X2 := Lib.hid (box_call (below_drew0 w3) hbx)
            clear ho3 hb3 hb13 hbx q1 w10 w11 w12
            go_wp2
            go_region_held3 (fun w' => w'.cell? ⟨w.heap.size, 0, none⟩ = some (.int .i64 m) ∧ w'.cell? ⟨w.heap.size, 1, none⟩ = some (.slice A L c) ∧ w.heap.size < w'.heap.size) (first | exact X2.out | exact box_store (by omega) (by assumption) | exact box_call hb6 (by assumption) | exact box_call hb5 (by assumption) | exact box_call hb4 (by assumption)) (first
              | (go_at_call 92; with_reducible refine Calls.mono (HRV.out _ _ _ (HR23.out.below (below_drew0 _))) ?_; rintro e4 w4 ⟨s4, rfl, ho4, hb4⟩; obtain ⟨A4, c4, rfl, -⟩ := ho4.form)
              | (go_at_call 114; with_reducible refine Calls.mono (HCP.out _ _ _ _ _ ho4.ri (HR3.out.below (below_step (below_drew0 _) hb4))) ?_; rintro e5 w5 ⟨s5, rfl, ho5, hb5⟩; obtain ⟨A5, c5, rfl, -⟩ := ho5.form)
              | (go_at_call 60; refine (l02Make_any _ _ _ _ _).mono ?_; rintro e6 w6 ⟨rfl, hb6⟩; have hv := V3.out.keep (below_step HB13.out (below_step (below_step (below_step (below_drew0 _) hb4) hb5) hb6)); obtain ⟨q0, q1, q2, q3⟩ := hv.tells2))
            all_goals
              have hw6 := below_step HB13.out (below_step (below_step (below_step (below_drew0 _) hb4) hb5) hb6)
              have hz1 := (below_step HB13.out (below_step (below_drew0 _) hb4)).size
              obtain ⟨f0, f1, f2, f3⟩ := fin_serC (w := w) hv (ho5.keep hb6) (by omega) (by omega) (below_step HB.out hw6) (.int .i64 m) (.slice A5 R.length c5)
              have F2 := Lib.hid (OwnI.more (b' := w.heap.size) f2 (by omega))
              have F3 := Lib.hid f3
              clear f2 f3 ho4 ho5 hb4 hb5 hb6 hv hw6
              go_wp2
              exact bodyPost_ret (v := .tuple #[.agg #[.int .i64 m, .slice A5 R.length c5], .int .i64 0]) (by simp [results, Try.results52, go_sem, f0, f1]) rfl ⟨_, rfl, F2.out, F3.out⟩
      · have hu2 : allU m d = false := by rw [e1] at hu; simpa using hu
        rw [hu2] at HIN
        have HA : Hid (mulBL m t k = (0, [], 5)) := Lib.hid (by unfold mulBL; rw [if_pos h0, if_pos hin, if_neg hu])
        rw [HA.out]
        obtain ⟨L, hL⟩ : ∃ L, t.length = L := ⟨_, rfl⟩
        rw [hL] at hc HW B1 ⊢
        have hLb : L ≤ 11 := by omega
        have w9 : IntKind.i64.wrap ((L : Int) - 1) = D := by rw [IntKind.wrap_i64]; omega
        have w9b : (L : Int) - 1 = D := by omega
        have HC0 := Lib.hid hc
        clear b1 v3 hwb hW hr hc h0 ok hf e1 hz hL HA hin hu hu2 hD
        go_enter Try.func52, Try.ntmps52
        go_wp2_with fail
        rw [HW.out]
        refine HC0.out.mono ?_
        rintro e w1 ⟨rfl, hb1⟩
        obtain ⟨x1, x2, x3⟩ := B1.out.keep hb1
        go_wp2_with fail
        refine (HWI.out _).mono ?_
        rintro e w' ⟨rfl, rfl⟩
        go_wp2_with fail
        refine (HIN.out _).mono ?_
        rintro e w' ⟨rfl, rfl⟩
        clear w9 w9b
        have hv := V3.out.keep (hb1)
        obtain ⟨q0, q1, q2, q3⟩ := hv.tells2
        obtain ⟨f0, f1, f2, f3⟩ := fin_serC (w := w) hv (OwnI.nil _ (w.heap.size + 1 + 1)) (by omega) (by omega) (below_step HB.out (hb1)) (.int .i64 0) (.slice none 0 0)
        have F2 := Lib.hid (OwnI.more (b' := w.heap.size) f2 (by omega))
        have F3 := Lib.hid f3
        clear f2 f3 hv
        go_wp2
        exact bodyPost_ret (v := .tuple #[.agg #[.int .i64 0, .slice none 0 0], .int .i64 (5)]) (by simp [results, Try.results52, go_sem, f0, f1]) rfl ⟨_, rfl, F2.out, F3.out⟩
    · have HA : Hid (mulBL m t k = (0, [], 2)) := Lib.hid (by unfold mulBL; rw [if_pos h0, if_neg hin])
      rw [HA.out]
      rw [show inB k (-1000000) 1000000 = false by simpa using hin] at HWI
      have HC0 := Lib.hid hc
      clear b1 v3 hwb hW hr hc h0 ok hf e1 hz HA hin
      go_enter Try.func52, Try.ntmps52
      go_wp2_with fail
      rw [HW.out]
      refine HC0.out.mono ?_
      rintro e w1 ⟨rfl, hb1⟩
      go_wp2_with fail
      refine (HWI.out _).mono ?_
      rintro e w' ⟨rfl, rfl⟩
      have hv := V3.out.keep (hb1)
      obtain ⟨q0, q1, q2, q3⟩ := hv.tells2
      obtain ⟨f0, f1, f2, f3⟩ := fin_serC (w := w) hv (OwnI.nil _ (w.heap.size + 1 + 1)) (by omega) (by omega) (below_step HB.out (hb1)) (.int .i64 0) (.slice none 0 0)
      have F2 := Lib.hid (OwnI.more (b' := w.heap.size) f2 (by omega))
      have F3 := Lib.hid f3
      clear f2 f3 hv
      go_wp2
      exact bodyPost_ret (v := .tuple #[.agg #[.int .i64 0, .slice none 0 0], .int .i64 (2)]) (by simp [results, Try.results52, go_sem, f0, f1]) rfl ⟨_, rfl, F2.out, F3.out⟩
  · have h0' : isL m t = false := by simpa using h0
    rw [h0'] at hc
    have HC0 := Lib.hid hc
    have HA : Hid (mulBL m t k = (0, [], 1)) := Lib.hid (by unfold mulBL; rw [if_neg h0])
    rw [HA.out]
    clear b1 v3 hwb hW hr hc h0 h0' hz
    go_enter Try.func52, Try.ntmps52
    go_wp2_with fail
    rw [HW.out]
    refine HC0.out.mono ?_
    rintro e w1 ⟨rfl, hb1⟩
    have hv := V3.out.keep (hb1)
    obtain ⟨q0, q1, q2, q3⟩ := hv.tells2
    obtain ⟨f0, f1, f2, f3⟩ := fin_serC (w := w) hv (OwnI.nil _ (w.heap.size + 1 + 1)) (by omega) (by omega) (below_step HB.out (hb1)) (.int .i64 0) (.slice none 0 0)
    have F2 := Lib.hid (OwnI.more (b' := w.heap.size) f2 (by omega))
    have F3 := Lib.hid f3
    clear f2 f3 hv
    go_wp2
    exact bodyPost_ret (v := .tuple #[.agg #[.int .i64 0, .slice none 0 0], .int .i64 (1)]) (by simp [results, Try.results52, go_sem, f0, f1]) rfl ⟨_, rfl, F2.out, F3.out⟩
end Go.Proofs.Ytpmbojbdppbkgaa

/- Contracts of layers and of the agreement of two laws. -/
namespace Go.Proofs.Ytpmbojbdppbkgaa
open Go.RowKit Go.WideShapes Go.ChangeShapes Go.ChangeAt

/-- the coefficients of one degree -/
def layC (m : Int) (t : List (List Int)) (n : Nat) : List Int := Ser.cut m n fun i => Pl.pc t i (n - i)
theorem layC_length (m : Int) (t : List (List Int)) (n : Nat) : (layC m t n).length = n + 1 := Ser.cut_length _ _ _
theorem layC_co {m : Int} {d : Nat} {t : List (List Int)} (hs : Pl.Ok m d t) (n i : Nat) (h : i ≤ n) : Ser.co (layC m t n) i = Pl.pc t i (n - i) := by
  unfold layC
  rw [Ser.co_cut h]
  have := hs.pc i (n - i)
  exact Int.emod_eq_of_lt this.1 this.2
/-- two tables agree in one degree -/
def eqL (m : Int) (t t' : List (List Int)) (n : Nat) : Bool := decide (layC m t n = layC m t' n)
theorem eqL_yes {m : Int} {d : Nat} {t t' : List (List Int)} (hs : Pl.Ok m d t) (hs' : Pl.Ok m d t') (n : Nat) (h : ∀ i, i ≤ n → Pl.pc t i (n - i) = Pl.pc t' i (n - i)) : eqL m t t' n = true :=
  list_same (by rw [layC_length, layC_length]) (fun j hj => by
    rw [layC_length] at hj
    rw [layC_co hs n j (by omega), layC_co hs' n j (by omega), h j (by omega)])
theorem eqL_no {m : Int} {d : Nat} {t t' : List (List Int)} (hs : Pl.Ok m d t) (hs' : Pl.Ok m d t') (n i : Nat) (hi : i ≤ n) (h : ¬ Pl.pc t i (n - i) = Pl.pc t' i (n - i)) : eqL m t t' n = false :=
  list_ne i (by rw [layC_co hs n i hi, layC_co hs' n i hi]; exact h)
/-- from k on, as far as the next degree agrees -/
def agr (E : Nat → Bool) : Nat → Nat → Nat
  | 0, k => k
  | n + 1, k => if E (k + 1) = true then agr E n (k + 1) else k
theorem agr_go {E : Nat → Bool} {d k o : Nat} (hk : k < d) (h : agr E (d - k) k = o) (he : E (k + 1) = true) : agr E (d - (k + 1)) (k + 1) = o := by
  rw [show d - k = (d - (k + 1)) + 1 by omega, agr, if_pos he] at h
  exact h
theorem agr_no {E : Nat → Bool} {d k o : Nat} (hk : k < d) (h : agr E (d - k) k = o) (he : E (k + 1) = false) : o = k := by
  rw [show d - k = (d - (k + 1)) + 1 by omega, agr, if_neg (by rw [he]; decide)] at h
  exact h.symm
theorem agr_le (E : Nat → Bool) : ∀ n k, k ≤ agr E n k ∧ agr E n k ≤ k + n := by
  intro n
  induction n with
  | zero => intro k; exact ⟨Nat.le_refl _, Nat.le_refl _⟩
  | succ n ih =>
    intro k
    rw [agr]
    split
    · have := ih (k + 1); omega
    · omega
/-- laws agree in degree 1 -/
theorem law_one {m : Int} {d : Nat} {t t' : List (List Int)} (hs : Pl.Ok m d t) (hs' : Pl.Ok m d t') (h : Pl.fau m d (Pl.pc t) = none) (h' : Pl.fau m d (Pl.pc t') = none) : eqL m t t' 1 = true := by
  have hd1 := hs.d1
  have key : ∀ {u : List (List Int)}, Pl.Ok m d u → Pl.fau m d (Pl.pc u) = none → ∀ i, i ≤ 1 → Pl.pc u i (1 - i) = 1 := by
    intro u hu hf i hi
    have hN : Pl.fauP d (Pl.pc u) = none ∧ Pl.fauS d (Pl.pc u) = none := by
      unfold Pl.fau at hf
      cases h1 : Pl.fauP d (Pl.pc u) with
      | some x => rw [h1] at hf; cases hf
      | none =>
        rw [h1, Pl.orE_none] at hf
        cases h2 : Pl.fauS d (Pl.pc u) with
        | some x => rw [h2] at hf; cases hf
        | none => exact ⟨rfl, rfl⟩
    have hn := Pl.norm_of hN.1 hN.2 (fun i j hij => hu.over i j hij)
    match i, hi with
    | 0, _ => exact (hn.y 1 (by omega)).trans rfl
    | 1, _ => exact (hn.x 1 (by omega)).trans rfl
  exact eqL_yes hs hs' 1 (fun i hi => by rw [key hs h i hi, key hs' h' i hi])
end Go.Proofs.Ytpmbojbdppbkgaa

/- Contracts of AgreementOf, of the program and of the model. -/
namespace Go.Proofs.Ytpmbojbdppbkgaa
open Go.RowKit Go.WideShapes Go.ChangeShapes Go.ChangeAt

/-- two grids' boxes and the way from W, in the walk's form, are kept by a call -/
theorem gg_keep {W w w' : World} {g g' : Nat} {x y z x' y' z' : Value} (hb : Below w.heap.size w w')
    (h : (w.cell? ⟨g, 0, none⟩ = some x ∧ w.cell? ⟨g, 1, none⟩ = some y ∧ w.cell? ⟨g, 2, none⟩ = some z ∧ g < w.heap.size) ∧ (w.cell? ⟨g', 0, none⟩ = some x' ∧ w.cell? ⟨g', 1, none⟩ = some y' ∧ w.cell? ⟨g', 2, none⟩ = some z' ∧ g' < w.heap.size) ∧ Below W.heap.size W w) :
    (w'.cell? ⟨g, 0, none⟩ = some x ∧ w'.cell? ⟨g, 1, none⟩ = some y ∧ w'.cell? ⟨g, 2, none⟩ = some z ∧ g < w'.heap.size) ∧ (w'.cell? ⟨g', 0, none⟩ = some x' ∧ w'.cell? ⟨g', 1, none⟩ = some y' ∧ w'.cell? ⟨g', 2, none⟩ = some z' ∧ g' < w'.heap.size) ∧ Below W.heap.size W w' :=
  ⟨gb_keep hb h.1, gb_keep hb h.2.1, below_step h.2.2 hb⟩
end Go.Proofs.Ytpmbojbdppbkgaa

