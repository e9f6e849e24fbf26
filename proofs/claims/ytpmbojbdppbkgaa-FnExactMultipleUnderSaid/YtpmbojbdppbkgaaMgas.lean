/- Texts of contracts, joined. -/
import Derived.Test.YtpmbojbdppbkgaaMgar
import Derived.Test.YtpmbojbdppbkgaaMgaq
import Derived.Test.YtpmbojbdppbkgaaMgac
import Derived.Test.YtpmbojbdppbkgaaMgad
import Derived.Test.YtpmbojbdppbkgaaMgae
/- Contracts of MultipleUnder and MultipleOf, of the program and of the model. -/
namespace Go.Proofs.Ytpmbojbdppbkgaa
open Go.RowKit Go.WideShapes Go.ChangeShapes Go.ChangeAt

/-- the models of MultipleUnder and MultipleOf -/
def mulUL (m : Int) (t : List (List Int)) (k : Int) (m1 : Int) (l1 : List Int) : Int × List Int × Int :=
  if codeS1 m t m1 l1 = 0 then (if inB k (-1000000) 1000000 = true then (m, mulC m (t.length - 1) t k l1, 0) else (0, [], 2)) else (0, [], codeS1 m t m1 l1)
theorem mulUL_len (m : Int) (t : List (List Int)) (k : Int) (m1 : Int) (l1 : List Int) : (mulUL m t k m1 l1).2.1.length ≤ 1048576 := by
  unfold mulUL
  by_cases h : codeS1 m t m1 l1 = 0
  · rw [if_pos h]
    obtain ⟨-, rfl, d, e, -, ok, hf, s1, z1⟩ := codeS1_ok h
    have := (mulC_cv ok (Pl.norm_law hf ok) k ⟨s1, z1⟩).1.len
    have := s1.d2
    by_cases h2 : inB k (-1000000) 1000000 = true
    · rw [if_pos h2, e, Nat.add_sub_cancel]; dsimp only; omega
    · rw [if_neg h2]; exact Nat.zero_le _
  · rw [if_neg h]; exact Nat.zero_le _
def mulOL (m : Int) (t : List (List Int)) (k : Int) : Int × List Int × Int :=
  if isL m t = true then (if inB k (-1000000) 1000000 = true then (m, mulC m (t.length - 1) t k (Pl.lin m (t.length - 1) 1), 0) else (0, [], 2)) else (0, [], 1)
theorem mulOL_len (m : Int) (t : List (List Int)) (k : Int) : (mulOL m t k).2.1.length ≤ 1048576 := by
  unfold mulOL
  by_cases h : isL m t = true
  · rw [if_pos h]
    obtain ⟨-, d, e, ok, hf⟩ := isL_of h
    have := (mulC_cv ok (Pl.norm_law hf ok) k (lin_cv ok 1)).1.len
    have := ok.d2
    by_cases h2 : inB k (-1000000) 1000000 = true
    · rw [if_pos h2, e, Nat.add_sub_cancel]; dsimp only; omega
    · rw [if_neg h2]; exact Nat.zero_le _
  · rw [if_neg h]; exact Nat.zero_le _
set_option maxHeartbeats 16000000 in
set_option maxRecDepth 100000 in
theorem MultipleUnder_any (m : Int) (A : Option Addr) (c : Nat) (t : List (List Int)) (k : Int) (m1 : Int) (A1 : Option Addr) (c1 : Nat) (l1 : List Int) (w : World) (hz : szT t ≤ 1048576) (hl1 : l1.length ≤ 1048576) (hr : RP w A t) (hr1 : RI w A1 l1) :
    Calls Try.prog 36 #[.agg #[.int .i64 m, .slice A t.length c], .int .i64 k, .agg #[.int .i64 m1, .slice A1 l1.length c1]] w fun e w' => ∃ s, e = .returned (.tuple #[.agg #[.int .i64 (mulUL m t k m1 l1).1, s], .int .i64 (mulUL m t k m1 l1).2.2]) ∧ OwnI w' w.heap.size s (mulUL m t k m1 l1).2.1 ∧ Below w.heap.size w w' := by
  obtain ⟨W, hW, b1, b2, vr, b4, hwb⟩ := pro_psQ 28 w m A t.length c m1 A1 l1.length c1
  have hc : Calls Try.prog 75 #[.agg #[.int .i64 m, .slice A t.length c], .slice (some ⟨w.heap.size + 1 + 1 + 1, 0, none⟩) 1 1] W fun e w' => e = .returned (.int .i64 (codeS1 m t m1 l1)) ∧ Below W.heap.size W w' :=
    codeLw_any (w.heap.size + 1 + 1 + 1) m A c t [(m1, A1, c1, l1)] W hz (hr.below hwb) (SL.one b4 (hr1.below hwb) hl1) (by simp)
  have B1 := Lib.hid b1
  have B2 := Lib.hid b2
  have VR := Lib.hid vr
  have HB := Lib.hid hwb
  have HW := Lib.hid hW
  have hszR : w.heap.size + 1 + 1 < W.heap.size := vr.lt
  have HWI := Lib.hid (fun W0 => isWithin_any k (-1000000) 1000000 W0)
  by_cases h0 : codeS1 m t m1 l1 = 0
  · obtain ⟨-, rfl, d, e1, f1, ok, hf, s1, z1⟩ := codeS1_ok h0
    rw [h0] at hc
    have HC0 := Lib.hid hc
    by_cases hin : inB k (-1000000) 1000000 = true
    · have HA : Hid (mulUL m1 t k m1 l1 = (m1, mulC m1 d t k l1, 0)) := Lib.hid (by unfold mulUL; rw [if_pos h0, if_pos hin, e1]; rfl)
      rw [HA.out]
      rw [hin] at HWI
      obtain ⟨k1, k2⟩ := (inB_iff _ _ _).1 hin
      have HG := Lib.hid (fun W0 => lawOf_nat m1 A t.length c d W0 e1 (by have := ok.d2; omega))
      have HP := Lib.hid (fun W0 (h : Below W.heap.size W W0) => multiple_any m1 d A c t k A1 c1 l1 W0 ok hf ⟨s1, z1⟩ k1 k2 ((hr.below hwb).below h) ((hr1.below hwb).below h))
      obtain ⟨R, hR⟩ : ∃ R, mulC m1 d t k l1 = R := ⟨_, rfl⟩
      rw [hR] at HP ⊢
      obtain ⟨Lt, hLt⟩ : ∃ L, t.length = L := ⟨_, rfl⟩
      rw [hLt] at HC0 HG HP HW B1 ⊢
      obtain ⟨n1, hn1⟩ : ∃ L, l1.length = L := ⟨_, rfl⟩
      rw [hn1] at HP HW B2 ⊢
      clear b1 b2 vr b4 hwb hW hr hr1 hc h0 ok hf s1 z1 e1 f1 hz hl1 hLt hn1 hR hin k1 k2 HA
      go_enter Try.func36, Try.ntmps36
      go_wp2_with fail
      rw [HW.out]
      refine HC0.out.mono ?_
      rintro e w1 ⟨rfl, hb1⟩
      have hx0 : Box w1 _ _ _ _ _ ∧ Box w1 _ _ _ _ _ := ⟨B1.out.keep hb1, B2.out.keep hb1⟩
      obtain ⟨⟨x1, x2, -⟩, ⟨y1, y2, -⟩⟩ := hx0
      have X0 := Lib.hid (box22_call (below_drew0 w1) ⟨B1.out.keep hb1, B2.out.keep hb1⟩)
      go_wp2_with fail
      refine (HWI.out _).mono ?_
      rintro e w' ⟨rfl, rfl⟩
      go_wp2
      go_region_held3 (fun w' => (w'.cell? ⟨w.heap.size, 0, none⟩ = some (.int .i64 m1) ∧ w'.cell? ⟨w.heap.size, 1, none⟩ = some (.slice A Lt c) ∧ w.heap.size < w'.heap.size) ∧ (w'.cell? ⟨w.heap.size + 1, 0, none⟩ = some (.int .i64 m1) ∧ w'.cell? ⟨w.heap.size + 1, 1, none⟩ = some (.slice A1 n1 c1) ∧ w.heap.size + 1 < w'.heap.size)) (first | exact X0.out | exact box22_call hc2 (by assumption) | exact box22_call hc1 (by assumption) | exact box22_store (by omega) (by omega) (by assumption)) (first
        | (go_at_call 64; with_reducible refine Calls.mono (HG.out _) ?_; rintro e v1 ⟨rfl, hc1⟩)
        | (go_at_call 82; with_reducible refine Calls.mono (HP.out _ (below_step (below_step hb1 (below_drew0 _)) hc1)) ?_; rintro e v2 ⟨s5, rfl, ho5, hc2⟩; obtain ⟨A5, c5, rfl, -⟩ := ho5.form; have hv := VR.out.keep (below_step (below_step (below_step hb1 (below_drew0 _)) hc1) hc2); obtain ⟨q0, q1, q2, q3⟩ := hv.tells2))
      all_goals
        have hw3 := (below_step (below_step (below_step hb1 (below_drew0 _)) hc1) hc2)
        have hz1 := ((below_step (below_step hb1 (below_drew0 _)) hc1)).size
        obtain ⟨f0, f1, f2, f3⟩ := fin_serC (w := w) hv ho5 (by omega) (by omega) (below_step HB.out hw3) (.int .i64 m1) (.slice A5 R.length c5)
        have F2 := Lib.hid (OwnI.more (b' := w.heap.size) f2 (by omega))
        have F3 := Lib.hid f3
        clear f2 f3 hv hw3 hb1 hc1 hc2
        go_wp2
        exact bodyPost_ret (v := .tuple #[.agg #[.int .i64 m1, .slice A5 R.length c5], .int .i64 0]) (by simp [results, Try.results36, go_sem, f0, f1]) rfl ⟨_, rfl, F2.out, F3.out⟩
    · have HA : Hid (mulUL m1 t k m1 l1 = (0, [], 2)) := Lib.hid (by unfold mulUL; rw [if_pos h0, if_neg hin])
      rw [HA.out]
      rw [show inB k (-1000000) 1000000 = false by simpa using hin] at HWI
      clear b1 b2 vr b4 hwb hW hr hr1 hc h0 ok hf s1 z1 e1 f1 hz hl1 hin HA
      go_enter Try.func36, Try.ntmps36
      go_wp2_with fail
      rw [HW.out]
      refine HC0.out.mono ?_
      rintro e w1 ⟨rfl, hb1⟩
      go_wp2_with fail
      refine (HWI.out _).mono ?_
      rintro e w' ⟨rfl, rfl⟩
      have hv := VR.out.keep hb1
      obtain ⟨q0, q1, q2, q3⟩ := hv.tells2
      obtain ⟨f0, f1, f2, f3⟩ := fin_serC (w := w) hv (OwnI.nil _ (w.heap.size + 1 + 1 + 1)) (by omega) (by omega) (below_step HB.out hb1) (.int .i64 0) (.slice none 0 0)
      have F2 := Lib.hid (OwnI.more (b' := w.heap.size) f2 (by omega))
      have F3 := Lib.hid f3
      clear f2 f3 hv
      go_wp2
      exact bodyPost_ret (v := .tuple #[.agg #[.int .i64 0, .slice none 0 0], .int .i64 (2)]) (by simp [results, Try.results36, go_sem, f0, f1]) rfl ⟨_, rfl, F2.out, F3.out⟩
  · have HA : Hid (mulUL m t k m1 l1 = (0, [], codeS1 m t m1 l1)) := Lib.hid (by unfold mulUL; rw [if_neg h0])
    rw [HA.out]
    obtain ⟨n1, n2⟩ := ne_facts h0
    obtain ⟨C, hC⟩ : ∃ C, codeS1 m t m1 l1 = C := ⟨_, rfl⟩
    rw [hC] at n1 n2 h0 hc ⊢
    have HC0 := Lib.hid hc
    clear b1 b2 vr b4 hwb hW hr hr1 hz hl1 hc hC
    go_enter Try.func36, Try.ntmps36
    go_wp2_with fail
    rw [HW.out]
    refine HC0.out.mono ?_
    rintro e w1 ⟨rfl, hb1⟩
    have hv := VR.out.keep hb1
    obtain ⟨q0, q1, q2, q3⟩ := hv.tells2
    obtain ⟨f0, f1, f2, f3⟩ := fin_serC (w := w) hv (OwnI.nil _ (w.heap.size + 1 + 1 + 1)) (by omega) (by omega) (below_step HB.out hb1) (.int .i64 0) (.slice none 0 0)
    have F2 := Lib.hid (OwnI.more (b' := w.heap.size) f2 (by omega))
    have F3 := Lib.hid f3
    clear f2 f3 hv
    go_wp2
    exact bodyPost_ret (v := .tuple #[.agg #[.int .i64 0, .slice none 0 0], .int .i64 (C)]) (by simp [results, Try.results36, go_sem, f0, f1]) rfl ⟨_, rfl, F2.out, F3.out⟩
set_option maxHeartbeats 16000000 in
set_option maxRecDepth 100000 in
theorem sMultipleUnder_any (m : Int) (A : Option Addr) (c : Nat) (t : List (List Int)) (k : Int) (m1 : Int) (A1 : Option Addr) (c1 : Nat) (l1 : List Int) (w : World) (hz : szT t ≤ 1048576) (hl1 : l1.length ≤ 1048576) (hr : RP w A t) (hr1 : RI w A1 l1) :
    Calls Try.prog 35 #[.agg #[.int .i64 m, .slice A t.length c], .int .i64 k, .agg #[.int .i64 m1, .slice A1 l1.length c1]] w fun e w' => ∃ s, e = .returned (.tuple #[.agg #[.int .i64 (mulUL m t k m1 l1).1, s], .int .i64 (mulUL m t k m1 l1).2.2]) ∧ OwnI w' w.heap.size s (mulUL m t k m1 l1).2.1 ∧ Below w.heap.size w w' := by
  obtain ⟨W, hW, b1, b2, vr, b4, hwb⟩ := pro_psQ 28 w m A t.length c m1 A1 l1.length c1
  have hc : Calls Try.prog 72 #[.agg #[.int .i64 m, .slice A t.length c], .slice (some ⟨w.heap.size + 1 + 1 + 1, 0, none⟩) 1 1] W fun e w' => e = .returned (.int .i64 (codeS1 m t m1 l1)) ∧ Below W.heap.size W w' :=
    l04Code_any (w.heap.size + 1 + 1 + 1) m A c t [(m1, A1, c1, l1)] W hz (hr.below hwb) (SL.one b4 (hr1.below hwb) hl1) (by simp)
  have B1 := Lib.hid b1
  have B2 := Lib.hid b2
  have VR := Lib.hid vr
  have HB := Lib.hid hwb
  have HW := Lib.hid hW
  have hszR : w.heap.size + 1 + 1 < W.heap.size := vr.lt
  have HWI := Lib.hid (fun W0 => l01In_any k (-1000000) 1000000 W0)
  by_cases h0 : codeS1 m t m1 l1 = 0
  · obtain ⟨-, rfl, d, e1, f1, ok, hf, s1, z1⟩ := codeS1_ok h0
    rw [h0] at hc
    have HC0 := Lib.hid hc
    by_cases hin : inB k (-1000000) 1000000 = true
    · have HA : Hid (mulUL m1 t k m1 l1 = (m1, mulC m1 d t k l1, 0)) := Lib.hid (by unfold mulUL; rw [if_pos h0, if_pos hin, e1]; rfl)
      rw [HA.out]
      rw [hin] at HWI
      obtain ⟨k1, k2⟩ := (inB_iff _ _ _).1 hin
      have HP := Lib.hid (fun W0 (h : Below W.heap.size W W0) => l04Multiple_any m1 d A c t k A1 c1 l1 W0 ok hf ⟨s1, z1⟩ k1 k2 ((hr.below hwb).below h) ((hr1.below hwb).below h))
      obtain ⟨R, hR⟩ : ∃ R, mulC m1 d t k l1 = R := ⟨_, rfl⟩
      rw [hR] at HP ⊢
      obtain ⟨Lt, hLt⟩ : ∃ L, t.length = L := ⟨_, rfl⟩
      rw [hLt] at HC0 HP HW B1 ⊢
      obtain ⟨n1, hn1⟩ : ∃ L, l1.length = L := ⟨_, rfl⟩
      rw [hn1] at HP HW B2 ⊢
      clear b1 b2 vr b4 hwb hW hr hr1 hc h0 ok hf s1 z1 e1 f1 hz hl1 hLt hn1 hR hin k1 k2 HA
      go_enter Try.func35, Try.ntmps35
      go_wp2_with fail
      rw [HW.out]
      refine HC0.out.mono ?_
      rintro e w1 ⟨rfl, hb1⟩
      have hx0 : Box w1 _ _ _ _ _ ∧ Box w1 _ _ _ _ _ := ⟨B1.out.keep hb1, B2.out.keep hb1⟩
      obtain ⟨⟨x1, x2, -⟩, ⟨y1, y2, -⟩⟩ := hx0
      have X0 := Lib.hid (box22_call (below_drew0 w1) ⟨B1.out.keep hb1, B2.out.keep hb1⟩)
      go_wp2_with fail
      refine (HWI.out _).mono ?_
      rintro e w' ⟨rfl, rfl⟩
      go_wp2
      go_region_held3 (fun w' => (w'.cell? ⟨w.heap.size, 0, none⟩ = some (.int .i64 m1) ∧ w'.cell? ⟨w.heap.size, 1, none⟩ = some (.slice A Lt c) ∧ w.heap.size < w'.heap.size) ∧ (w'.cell? ⟨w.heap.size + 1, 0, none⟩ = some (.int .i64 m1) ∧ w'.cell? ⟨w.heap.size + 1, 1, none⟩ = some (.slice A1 n1 c1) ∧ w.heap.size + 1 < w'.heap.size)) (first | exact X0.out | exact box22_call hc2 (by assumption) | exact box22_call hc1 (by assumption) | exact box22_store (by omega) (by omega) (by assumption)) (first
        | (go_at_call 80; with_reducible refine Calls.mono (HP.out _ (below_step hb1 (below_drew0 _))) ?_; rintro e v1 ⟨s5, rfl, ho5, hc1⟩; obtain ⟨A5, c5, rfl, -⟩ := ho5.form)
        | (go_at_call 60; with_reducible refine Calls.mono (l02Make_any _ _ _ _ _) ?_; rintro e v2 ⟨rfl, hc2⟩; have hv := VR.out.keep (below_step (below_step (below_step hb1 (below_drew0 _)) hc1) hc2); obtain ⟨q0, q1, q2, q3⟩ := hv.tells2))
      all_goals
        have hw3 := (below_step (below_step (below_step hb1 (below_drew0 _)) hc1) hc2)
        have hz1 := ((below_step hb1 (below_drew0 _))).size
        obtain ⟨f0, f1, f2, f3⟩ := fin_serC (w := w) hv (ho5.keep hc2) (by omega) (by omega) (below_step HB.out hw3) (.int .i64 m1) (.slice A5 R.length c5)
        have F2 := Lib.hid (OwnI.more (b' := w.heap.size) f2 (by omega))
        have F3 := Lib.hid f3
        clear f2 f3 hv hw3 hb1 hc1 hc2
        go_wp2
        exact bodyPost_ret (v := .tuple #[.agg #[.int .i64 m1, .slice A5 R.length c5], .int .i64 0]) (by simp [results, Try.results35, go_sem, f0, f1]) rfl ⟨_, rfl, F2.out, F3.out⟩
    · have HA : Hid (mulUL m1 t k m1 l1 = (0, [], 2)) := Lib.hid (by unfold mulUL; rw [if_pos h0, if_neg hin])
      rw [HA.out]
      rw [show inB k (-1000000) 1000000 = false by simpa using hin] at HWI
      clear b1 b2 vr b4 hwb hW hr hr1 hc h0 ok hf s1 z1 e1 f1 hz hl1 hin HA
      go_enter Try.func35, Try.ntmps35
      go_wp2_with fail
      rw [HW.out]
      refine HC0.out.mono ?_
      rintro e w1 ⟨rfl, hb1⟩
      go_wp2_with fail
      refine (HWI.out _).mono ?_
      rintro e w' ⟨rfl, rfl⟩
      have hv := VR.out.keep hb1
      obtain ⟨q0, q1, q2, q3⟩ := hv.tells2
      obtain ⟨f0, f1, f2, f3⟩ := fin_serC (w := w) hv (OwnI.nil _ (w.heap.size + 1 + 1 + 1)) (by omega) (by omega) (below_step HB.out hb1) (.int .i64 0) (.slice none 0 0)
      have F2 := Lib.hid (OwnI.more (b' := w.heap.size) f2 (by omega))
      have F3 := Lib.hid f3
      clear f2 f3 hv
      go_wp2
      exact bodyPost_ret (v := .tuple #[.agg #[.int .i64 0, .slice none 0 0], .int .i64 (2)]) (by simp [results, Try.results35, go_sem, f0, f1]) rfl ⟨_, rfl, F2.out, F3.out⟩
  · have HA : Hid (mulUL m t k m1 l1 = (0, [], codeS1 m t m1 l1)) := Lib.hid (by unfold mulUL; rw [if_neg h0])
    rw [HA.out]
    obtain ⟨n1, n2⟩ := ne_facts h0
    obtain ⟨C, hC⟩ : ∃ C, codeS1 m t m1 l1 = C := ⟨_, rfl⟩
    rw [hC] at n1 n2 h0 hc ⊢
    have HC0 := Lib.hid hc
    clear b1 b2 vr b4 hwb hW hr hr1 hz hl1 hc hC
    go_enter Try.func35, Try.ntmps35
    go_wp2_with fail
    rw [HW.out]
    refine HC0.out.mono ?_
    rintro e w1 ⟨rfl, hb1⟩
    have hv := VR.out.keep hb1
    obtain ⟨q0, q1, q2, q3⟩ := hv.tells2
    obtain ⟨f0, f1, f2, f3⟩ := fin_serC (w := w) hv (OwnI.nil _ (w.heap.size + 1 + 1 + 1)) (by omega) (by omega) (below_step HB.out hb1) (.int .i64 0) (.slice none 0 0)
    have F2 := Lib.hid (OwnI.more (b' := w.heap.size) f2 (by omega))
    have F3 := Lib.hid f3
    clear f2 f3 hv
    go_wp2
    exact bodyPost_ret (v := .tuple #[.agg #[.int .i64 0, .slice none 0 0], .int .i64 (C)]) (by simp [results, Try.results35, go_sem, f0, f1]) rfl ⟨_, rfl, F2.out, F3.out⟩
set_option maxHeartbeats 4000000 in
set_option maxRecDepth 100000 in
theorem l04Of_any (m : Int) (d : Nat) (A : Option Addr) (c : Nat) (t : List (List Int)) (k : Int) (w : World) (hs : Pl.Ok m d t) (hf : Pl.fau m d (Pl.pc t) = none) (hn1 : -1000000 ≤ k) (hn2 : k ≤ 1000000) (hr : RP w A t) :
    Calls Try.prog 83 #[.agg #[.int .i64 m, .slice A t.length c], .int .i64 k] w fun e w' => ∃ v, e = .returned v ∧ OwnI w' w.heap.size v (mulC m d t k (Pl.lin m d 1)) ∧ Below w.heap.size w w' := by
  obtain ⟨W, hW, b1, hwb⟩ := start1 31 w m A t.length c
  have B1 := Lib.hid b1
  have HB := Lib.hid hwb
  have HW := Lib.hid hW
  have hd2 := hs.d2
  have hd1 := hs.d1
  have hln := hs.len
  have hmk : ∀ W : World, (Instr.makeSlice 26 (.int .i64 ((d + 1 : Nat) : Int)) (.int .i64 ((d + 1 : Nat) : Int))).run Try.prog W = .ok (.slice (some ⟨W.heap.size, 0, none⟩) (d + 1) (d + 1)) (W.alloc (.cells (madeCells #[.int .i64 0] (d + 1)) 2)) := by
    intro W
    exact run_make_row' (P := Try.prog) 26 2 (.int .i64 0) 8 Try.underlying26 info64 rfl .i64 .i64 (d + 1) (by omega) (by omega) W
  have hmk2 : ∀ W : World, (Instr.makeSlice 26 (.int .i64 ((d : Int) + 1)) (.int .i64 ((d : Int) + 1))).run Try.prog W = .ok (.slice (some ⟨W.heap.size, 0, none⟩) (d + 1) (d + 1)) (W.alloc (.cells (madeCells #[.int .i64 0] (d + 1)) 2)) := by
    intro W
    have := hmk W
    rwa [show ((d + 1 : Nat) : Int) = (d : Int) + 1 by omega] at this
  have HM := Lib.hid (fun W0 (h : Below W.heap.size W W0) A1 c1 (h1 : RI W0 A1 (Pl.lin m d 1)) => l04Multiple_any m d A c t k A1 c1 (Pl.lin m d 1) W0 hs hf (lin_cv hs 1) hn1 hn2 ((hr.below hwb).below h) h1)
  have hll : (Pl.lin m d 1).length = d + 1 := Ser.cut_length _ _ _
  obtain ⟨R, hR⟩ : ∃ R, mulC m d t k (Pl.lin m d 1) = R := ⟨_, rfl⟩
  rw [hR] at HM ⊢
  have hset0 := lin_listP m d hs.m1 hd1
  obtain ⟨Z, hZ⟩ : ∃ Z, Pl.lin m d 1 = Z := ⟨_, rfl⟩
  rw [hZ] at HM hll hset0
  rw [hll] at HM
  have HSET := Lib.hid hset0
  rw [hln] at HM HW B1 ⊢
  have hWs : w.heap.size + 1 = W.heap.size := by rw [← HW.out]; simp
  have ho := OwnI.made W (d + 1) (by unfold maxLen; omega)
  obtain ⟨-, -, o3, o4⟩ := ho.cells
  have q1 := o3 1 (by simp; omega)
  have q2 := o4 1
  have q3 : (List.replicate (d + 1) (0 : Int))[1]?.getD 0 = 0 := by rw [List.getElem?_replicate]; split <;> rfl
  rw [q3, ← hWs, ← HW.out] at q1
  rw [← hWs, ← HW.out] at q2
  have hset := ho.set 1 1
  rw [HSET.out, World.setCell_alloc_at _ _ _ _ _ rfl] at hset
  have hset2 : OwnI (W.alloc (.cells ((madeCells #[.int .i64 0] (d + 1)).setIfInBounds 1 (.int .i64 1)) 2)) W.heap.size (.slice (some ⟨w.heap.size + 1, 0, none⟩) (d + 1) (d + 1)) Z := by rw [hWs]; exact hset
  have HO2 := Lib.hid hset2
  have HB2 := Lib.hid (below_one W (.cells ((madeCells #[.int .i64 0] (d + 1)).setIfInBounds 1 (.int .i64 1)) 2))
  have HWS := Lib.hid hWs
  have z1 : 1 < d + 1 := by omega
  have z2 : (1 : Int) < (d : Int) + 1 := by omega
  obtain ⟨x1, x2, -⟩ := B1.out.keep HB2.out
  rw [← HW.out] at x1 x2
  clear b1 hwb hW hr hs hf hR hZ hll hset0 ho hset hset2 hn1 hn2 hln hWs o3 o4 q3
  go_enter Try.func83, Try.ntmps83
  go_wp2_with fail
  rw [HW.out]
  refine (HM.out _ HB2.out _ _ HO2.out.ri).mono ?_
  rintro e w3 ⟨s, rfl, ho, hb3⟩
  have F2 := Lib.hid (ho.more (b' := w.heap.size) (by have := HB.out.size; have := HB2.out.size; omega))
  have F3 := Lib.hid (below_step HB.out (below_step HB2.out hb3))
  clear ho hb3 x1 x2 q1 q2
  go_wp2
  go_ret
  exact ⟨_, rfl, F2.out, F3.out⟩
set_option maxHeartbeats 8000000 in
set_option maxRecDepth 100000 in
theorem MultipleOf_any (m : Int) (A : Option Addr) (c : Nat) (t : List (List Int)) (k : Int) (w : World) (hz : szT t ≤ 1048576) (hr : RP w A t) :
    Calls Try.prog 38 #[.agg #[.int .i64 m, .slice A t.length c], .int .i64 k] w fun e w' => ∃ s, e = .returned (.tuple #[.agg #[.int .i64 (mulOL m t k).1, s], .int .i64 (mulOL m t k).2.2]) ∧ OwnI w' w.heap.size s (mulOL m t k).2.1 ∧ Below w.heap.size w w' := by
  obtain ⟨W, hW, b1, v3, b4, hwb⟩ := pro1S w m A t.length c
  have B1 := Lib.hid b1
  have V3 := Lib.hid v3
  have HB := Lib.hid hwb
  have HW := Lib.hid hW
  have hc := codeL1_any (w.heap.size + 1 + 1) m A c t W hz (hr.below hwb) b4
  unfold codeL1 at hc
  have HWI := Lib.hid (fun W0 => isWithin_any k (-1000000) 1000000 W0)
  by_cases h0 : isL m t = true
  · rw [if_pos h0] at hc
    have HC0 := Lib.hid hc
    obtain ⟨-, d, e1, ok, hf⟩ := isL_of h0
    have hd2 := ok.d2
    by_cases hin : inB k (-1000000) 1000000 = true
    · have HA : Hid (mulOL m t k = (m, mulC m d t k (Pl.lin m d 1), 0)) := Lib.hid (by unfold mulOL; rw [if_pos h0, if_pos hin, e1]; rfl)
      rw [HA.out]
      rw [hin] at HWI
      obtain ⟨k1, k2⟩ := (inB_iff _ _ _).1 hin
      have HG := Lib.hid (fun W0 => lawOf_nat m A t.length c d W0 e1 (by omega))
      have HLI := Lib.hid (fun W0 => line_any m d A t.length c 1 W0 ok.m1 ok.m2 hd2 (by omega) (by omega))
      have HP := Lib.hid (fun W0 (h : Below W.heap.size W W0) A1 c1 (h1 : RI W0 A1 (Pl.lin m d 1)) => multiple_any m d A c t k A1 c1 (Pl.lin m d 1) W0 ok hf (lin_cv ok 1) k1 k2 ((hr.below hwb).below h) h1)
      obtain ⟨R, hR⟩ : ∃ R, mulC m d t k (Pl.lin m d 1) = R := ⟨_, rfl⟩
      rw [hR] at HP ⊢
      obtain ⟨Z, hZ⟩ : ∃ Z, Pl.lin m d 1 = Z := ⟨_, rfl⟩
      rw [hZ] at HLI HP
      obtain ⟨L, hL⟩ : ∃ L, t.length = L := ⟨_, rfl⟩
      rw [hL] at HG HLI HP HW B1 ⊢
      clear b1 v3 b4 hwb hW hr hc h0 ok hf e1 hz hL hZ hR HA hin k1 k2
      go_enter Try.func38, Try.ntmps38
      go_wp2_with fail
      rw [HW.out]
      refine HC0.out.mono ?_
      rintro e w1 ⟨rfl, hb1⟩
      obtain ⟨x1, x2, x3⟩ := B1.out.keep hb1
      go_wp2_with fail
      refine (HWI.out _).mono ?_
      rintro e w' ⟨rfl, rfl⟩
      go_wp2
      go_region_held3 (fun w' => w'.cell? ⟨w.heap.size, 0, none⟩ = some (.int .i64 m) ∧ w'.cell? ⟨w.heap.size, 1, none⟩ = some (.slice A L c) ∧ w.heap.size < w'.heap.size) (first | exact ⟨x1, x2, x3⟩ | exact box_store (by omega) (by assumption) | exact box_call hc4 (by assumption) | exact box_call hc3 (by assumption) | exact box_call hc2 (by assumption) | exact box_call hc1 (by assumption)) (first
        | (go_at_call 82; with_reducible refine Calls.mono (HP.out _ (below_step (below_step (below_step (below_step hb1 (below_drew0 _)) hc1) hc2) hc3) _ _ ho3.ri) ?_; rintro e w5 ⟨s5, rfl, ho5, hc4⟩; obtain ⟨A5, c5, rfl, -⟩ := ho5.form; have hv := V3.out.keep (below_step (below_step (below_step (below_step (below_step hb1 (below_drew0 _)) hc1) hc2) hc3) hc4); obtain ⟨q0, q1, q2, q3⟩ := hv.tells2)
        | (go_at_call 84; with_reducible refine Calls.mono (HLI.out _) ?_; rintro e w4 ⟨s3, rfl, ho3, hc3⟩; obtain ⟨A3, c3, rfl, -⟩ := ho3.form)
        | (go_at_call 64; have ht := hc1; clear ht; with_reducible refine Calls.mono (HG.out _) ?_; rintro e w3 ⟨rfl, hc2⟩)
        | (go_at_call 64; with_reducible refine Calls.mono (HG.out _) ?_; rintro e w2 ⟨rfl, hc1⟩))
      all_goals
        have hw3 := below_step (below_step (below_step (below_step (below_step hb1 (below_drew0 _)) hc1) hc2) hc3) hc4
        have hz1 := (below_step (below_step (below_step (below_step hb1 (below_drew0 _)) hc1) hc2) hc3).size
        have hz2 := V3.out.lt
        obtain ⟨f0, f1, f2, f3⟩ := fin_serC (w := w) hv ho5 (by omega) (by omega) (below_step HB.out hw3) (.int .i64 m) (.slice A5 R.length c5)
        have F2 := Lib.hid (OwnI.more (b' := w.heap.size) f2 (by omega))
        have F3 := Lib.hid f3
        clear f2 f3 hv hw3 hb1 hc1 hc2 hc3 hc4 ho3 ho5
        go_wp2
        exact bodyPost_ret (v := .tuple #[.agg #[.int .i64 m, .slice A5 R.length c5], .int .i64 0]) (by simp [results, Try.results38, go_sem, f0, f1]) rfl ⟨_, rfl, F2.out, F3.out⟩
    · have HA : Hid (mulOL m t k = (0, [], 2)) := Lib.hid (by unfold mulOL; rw [if_pos h0, if_neg hin])
      rw [HA.out]
      rw [show inB k (-1000000) 1000000 = false by simpa using hin] at HWI
      clear b1 v3 b4 hwb hW hr hc h0 ok hf e1 hz HA hin
      go_enter Try.func38, Try.ntmps38
      go_wp2_with fail
      rw [HW.out]
      refine HC0.out.mono ?_
      rintro e w1 ⟨rfl, hb1⟩
      go_wp2_with fail
      refine (HWI.out _).mono ?_
      rintro e w' ⟨rfl, rfl⟩
      have hv := V3.out.keep (hb1)
      obtain ⟨q0, q1, q2, q3⟩ := hv.tells2
      obtain ⟨f0, f1, f2, f3⟩ := fin_serC (w := w) hv (OwnI.nil _ (w.heap.size + 1 + 1)) (by omega) (by omega) (below_step HB.out (hb1)) (.int .i64 0) (.slice none 0 0)
      have F2 := Lib.hid (OwnI.more (b' := w.heap.size) f2 (by omega))
      have F3 := Lib.hid f3
      clear f2 f3 hv
      go_wp2
      exact bodyPost_ret (v := .tuple #[.agg #[.int .i64 0, .slice none 0 0], .int .i64 (2)]) (by simp [results, Try.results38, go_sem, f0, f1]) rfl ⟨_, rfl, F2.out, F3.out⟩
  · rw [if_neg h0] at hc
    have HC0 := Lib.hid hc
    have HA : Hid (mulOL m t k = (0, [], 1)) := Lib.hid (by unfold mulOL; rw [if_neg h0])
    rw [HA.out]
    clear b1 v3 b4 hwb hW hr hc h0 hz
    go_enter Try.func38, Try.ntmps38
    go_wp2_with fail
    rw [HW.out]
    refine HC0.out.mono ?_
    rintro e w1 ⟨rfl, hb1⟩
    have hv := V3.out.keep (hb1)
    obtain ⟨q0, q1, q2, q3⟩ := hv.tells2
    obtain ⟨f0, f1, f2, f3⟩ := fin_serC (w := w) hv (OwnI.nil _ (w.heap.size + 1 + 1)) (by omega) (by omega) (below_step HB.out (hb1)) (.int .i64 0) (.slice none 0 0)
    have F2 := Lib.hid (OwnI.more (b' := w.heap.size) f2 (by omega))
    have F3 := Lib.hid f3
    clear f2 f3 hv
    go_wp2
    exact bodyPost_ret (v := .tuple #[.agg #[.int .i64 0, .slice none 0 0], .int .i64 (1)]) (by simp [results, Try.results38, go_sem, f0, f1]) rfl ⟨_, rfl, F2.out, F3.out⟩
set_option maxHeartbeats 8000000 in
set_option maxRecDepth 100000 in
theorem sMultipleOf_any (m : Int) (A : Option Addr) (c : Nat) (t : List (List Int)) (k : Int) (w : World) (hz : szT t ≤ 1048576) (hr : RP w A t) :
    Calls Try.prog 37 #[.agg #[.int .i64 m, .slice A t.length c], .int .i64 k] w fun e w' => ∃ s, e = .returned (.tuple #[.agg #[.int .i64 (mulOL m t k).1, s], .int .i64 (mulOL m t k).2.2]) ∧ OwnI w' w.heap.size s (mulOL m t k).2.1 ∧ Below w.heap.size w w' := by
  obtain ⟨W, hW, b1, v3, hwb⟩ := spro1S w m A t.length c
  have B1 := Lib.hid b1
  have V3 := Lib.hid v3
  have HB := Lib.hid hwb
  have HW := Lib.hid hW
  have hc := l04Is_any m A c t W hz (hr.below hwb)
  have HWI := Lib.hid (fun W0 => l01In_any k (-1000000) 1000000 W0)
  by_cases h0 : isL m t = true
  · rw [h0] at hc
    obtain ⟨-, d, e1, ok, hf⟩ := isL_of h0
    by_cases hin : inB k (-1000000) 1000000 = true
    · have HA : Hid (mulOL m t k = (m, mulC m d t k (Pl.lin m d 1), 0)) := Lib.hid (by unfold mulOL; rw [if_pos h0, if_pos hin, e1]; rfl)
      rw [HA.out]
      rw [hin] at HWI
      obtain ⟨k1, k2⟩ := (inB_iff _ _ _).1 hin
      have HI := Lib.hid (fun W0 (h : Below W.heap.size W W0) => l04Of_any m d A c t k W0 ok hf k1 k2 ((hr.below hwb).below h))
      obtain ⟨T, hT⟩ : ∃ T, mulC m d t k (Pl.lin m d 1) = T := ⟨_, rfl⟩
      rw [hT] at HI ⊢
      obtain ⟨L, hL⟩ : ∃ L, t.length = L := ⟨_, rfl⟩
      rw [hL] at hc HI HW B1 ⊢
      have HC0 := Lib.hid hc
      clear b1 v3 hwb hW hr hc h0 ok hf e1 hz hT hL HA hin k1 k2
      go_enter Try.func37, Try.ntmps37
      go_wp2_with fail
      rw [HW.out]
      refine HC0.out.mono ?_
      rintro e w1 ⟨rfl, hb1⟩
      obtain ⟨x1, x2, x3⟩ := B1.out.keep hb1
      go_wp2_with fail
      refine (HWI.out _).mono ?_
      rintro e w' ⟨rfl, rfl⟩
      go_wp2
      go_region_held3 (fun w' => w'.cell? ⟨w.heap.size, 0, none⟩ = some (.int .i64 m) ∧ w'.cell? ⟨w.heap.size, 1, none⟩ = some (.slice A L c) ∧ w.heap.size < w'.heap.size) (first | exact ⟨x1, x2, x3⟩ | exact box_store (by omega) (by assumption) | exact box_call (by assumption) (by assumption)) (first
        | (go_at_call 83; with_reducible refine Calls.mono (HI.out _ (below_step hb1 (below_drew0 _))) ?_; rintro e2 w2 ⟨s, rfl, ho, hb2⟩; obtain ⟨A2, c2, rfl, -⟩ := ho.form)
        | (go_at_call 60; refine (l02Make_any _ _ _ _ _).mono ?_; rintro e3 w3 ⟨rfl, hb3⟩; have hv := V3.out.keep (below_step (below_step (below_step hb1 (below_drew0 _)) hb2) hb3); obtain ⟨q0, q1, q2, q3⟩ := hv.tells2))
      all_goals
        have hw3 := below_step (below_step (below_step hb1 (below_drew0 _)) hb2) hb3
        have hz1 := (below_step hb1 (below_drew0 _)).size
        have hz2 := V3.out.lt
        obtain ⟨f0, f1, f2, f3⟩ := fin_serC (w := w) hv (ho.keep hb3) (by omega) (by omega) (below_step HB.out hw3) (.int .i64 m) (.slice A2 T.length c2)
        have F2 := Lib.hid (OwnI.more (b' := w.heap.size) f2 (by omega))
        have F3 := Lib.hid f3
        clear f2 f3 ho hb1 hb2 hb3 hv hw3
        go_wp2
        exact bodyPost_ret (v := .tuple #[.agg #[.int .i64 m, .slice A2 T.length c2], .int .i64 0]) (by simp [results, Try.results37, go_sem, f0, f1]) rfl ⟨_, rfl, F2.out, F3.out⟩
    · have HA : Hid (mulOL m t k = (0, [], 2)) := Lib.hid (by unfold mulOL; rw [if_pos h0, if_neg hin])
      rw [HA.out]
      rw [show inB k (-1000000) 1000000 = false by simpa using hin] at HWI
      have HC0 := Lib.hid hc
      clear b1 v3 hwb hW hr hc h0 ok hf e1 hz HA hin
      go_enter Try.func37, Try.ntmps37
      go_wp2_with fail
      rw [HW.out]
      refine HC0.out.mono ?_
      rintro e w1 ⟨rfl, hb1⟩
      go_wp2_with fail
      refine (HWI.out _).mono ?_
      rintro e w' ⟨rfl, rfl⟩
      have hv := V3.out.keep (hb1)
      obtain ⟨q0, q1, q2, q3⟩ := hv.tells2
      obtain ⟨f0, f1, f2, f3⟩ := fin_serC (w := w) hv (OwnI.nil _ (w.heap.size + 1 + 1)) (by omega) (by omega) (below_step HB.out (hb1)) (.int .i64 0) (.slice none 0 0)
      have F2 := Lib.hid (OwnI.more (b' := w.heap.size) f2 (by omega))
      have F3 := Lib.hid f3
      clear f2 f3 hv
      go_wp2
      exact bodyPost_ret (v := .tuple #[.agg #[.int .i64 0, .slice none 0 0], .int .i64 (2)]) (by simp [results, Try.results37, go_sem, f0, f1]) rfl ⟨_, rfl, F2.out, F3.out⟩
  · have h0' : isL m t = false := by simpa using h0
    rw [h0'] at hc
    have HC0 := Lib.hid hc
    have HA : Hid (mulOL m t k = (0, [], 1)) := Lib.hid (by unfold mulOL; rw [if_neg h0])
    rw [HA.out]
    clear b1 v3 hwb hW hr hc h0 h0' hz
    go_enter Try.func37, Try.ntmps37
    go_wp2_with fail
    rw [HW.out]
    refine HC0.out.mono ?_
    rintro e w1 ⟨rfl, hb1⟩
    have hv := V3.out.keep (hb1)
    obtain ⟨q0, q1, q2, q3⟩ := hv.tells2
    obtain ⟨f0, f1, f2, f3⟩ := fin_serC (w := w) hv (OwnI.nil _ (w.heap.size + 1 + 1)) (by omega) (by omega) (below_step HB.out (hb1)) (.int .i64 0) (.slice none 0 0)
    have F2 := Lib.hid (OwnI.more (b' := w.heap.size) f2 (by omega))
    have F3 := Lib.hid f3
    clear f2 f3 hv
    go_wp2
    exact bodyPost_ret (v := .tuple #[.agg #[.int .i64 0, .slice none 0 0], .int .i64 (1)]) (by simp [results, Try.results37, go_sem, f0, f1]) rfl ⟨_, rfl, F2.out, F3.out⟩
end Go.Proofs.Ytpmbojbdppbkgaa

/- Contract of a series times a large number. -/
namespace Go.Proofs.Ytpmbojbdppbkgaa
open Go.RowKit Go.WideShapes Go.ChangeShapes Go.ChangeAt

theorem mul_bdB {x y : Int} (h1 : 0 ≤ x) (h2 : x ≤ 10000) (h3 : -1000000 ≤ y) (h4 : y ≤ 1000000) : -10000000000 ≤ x * y ∧ x * y ≤ 10000000000 := by
  constructor
  · have := Int.mul_le_mul_of_nonneg_left (c := x) h3 h1
    have e : x * -1000000 = -(x * 1000000) := Int.mul_neg _ _
    omega
  · have := Int.mul_le_mul_of_nonneg_left (c := x) h4 h1
    omega
set_option maxHeartbeats 1000000 in
theorem scaledCB_any (n : Nat) (g g' : Nat) (m : Int) (A : Option Addr) (c : Nat) (l : List Int) (k : Int) (W : World)
    (hb : Box W g m A l.length c) (hb' : Cel W g' k) (hr : RI W A l) (h1 : n < l.length) (h3 : 0 ≤ Ser.co l n) (h4 : Ser.co l n ≤ 10000) (h5 : -1000000 ≤ k) (h6 : k ≤ 1000000) :
    Calls Try.prog 158 #[.int .i64 n, .pointer (some ⟨g, 0, none⟩), .pointer (some ⟨g', 0, none⟩)] W fun e w' => e = .returned (.int .i64 (Ser.co l n * k)) ∧ Below W.heap.size W w' := by
  obtain ⟨b, off, rfl, hlt, hc⟩ := hr.at n h1
  obtain ⟨x1, x2, _⟩ := hb
  obtain ⟨y1, _⟩ := hb'
  obtain ⟨X, hX⟩ : ∃ X, Ser.co l n = X := ⟨_, rfl⟩
  rw [hX] at hc h3 h4 ⊢
  obtain ⟨p1, p2⟩ := mul_bdB h3 h4 h5 h6
  have j1 : (0 : Int) ≤ (n : Int) := by omega
  have j2 : (n : Int) < (l.length : Int) := by omega
  clear hr hX
  go_enter Try.func158, Try.ntmps158
  go_wp2
  go_quiet (fail)
  go_wp2
  go_ret
  exact ⟨rfl, below_drewN (Below.refl _ _) _⟩

set_option maxHeartbeats 2000000 in
set_option maxRecDepth 100000 in
theorem scaledB_any (m : Int) (d : Nat) (A : Option Addr) (c : Nat) (l : List Int) (k : Int) (w : World) (hs : SerOk m d l) (hr : RI w A l) (h5 : -1000000 ≤ k) (h6 : k ≤ 1000000) :
    Calls Try.prog 116 #[.agg #[.int .i64 m, .slice A l.length c], .int .i64 k] w fun e w' => ∃ v, e = .returned (.agg #[.int .i64 m, v]) ∧ OwnI w' w.heap.size v (scaL m d l k) ∧ Below w.heap.size w w' := by
  obtain ⟨W, hW⟩ : ∃ W, (((w.alloc (.cells #[.int .i64 m, .slice A l.length c] 28)).alloc (.cells #[.int .i64 k] 2)).alloc (.cells #[.int .i64 0, .slice none 0 0] 28)) = W := ⟨_, rfl⟩
  have hwb : Below w.heap.size w W := by rw [← hW]; exact below_alloc _ (below_alloc _ (below_one _ _))
  have b1 : Box W w.heap.size m A l.length c := by rw [← hW]; exact ((Box.new w m A l.length c).keep (below_one _ _)).keep (below_one _ _)
  have b2 : Cel W (w.heap.size + 1) k := by
    rw [← hW]
    have := (Cel.new (w.alloc (.cells #[.int .i64 m, .slice A l.length c] 28)) k).keep (below_one _ (.cells #[.int .i64 0, .slice none 0 0] 28))
    simpa using this
  have v3 : Var2 W (w.heap.size + 1 + 1) (.int .i64 0) (.slice none 0 0) := by
    rw [← hW]
    have := Var2.new ((w.alloc (.cells #[.int .i64 m, .slice A l.length c] 28)).alloc (.cells #[.int .i64 k] 2)) (.int .i64 0) (.slice none 0 0)
    simpa using this
  have B1 := Lib.hid b1
  have B2 := Lib.hid b2
  have V3 := Lib.hid v3
  have HB := Lib.hid hwb
  have HW := Lib.hid hW
  have R1 := Lib.hid (hr.below hwb)
  have HS := Lib.hid (fun W0 (h0 : Below W.heap.size W W0) => seriesOf_any m d 158 #[.pointer (some ⟨w.heap.size, 0, none⟩), .pointer (some ⟨w.heap.size + 1, 0, none⟩)] (fun n => Ser.co l n * k) W0 (by have := hs.m1; omega) hs.m2 (by have := hs.d2; omega)
    (fun n _ => by have h1 := hs.red n; have h3 := hs.m2; have := mul_bdB h1.1 (by omega) h5 h6; omega)
    (enters_fn Try.func158 (of_decide_eq_true (by kernel_rfl)) rfl)
    (fun n W1 hn hb => by
      have h1 := hs.red n
      have h3 := hs.m2
      have hb2 := h0.trans (hb.mono h0.size)
      exact scaledCB_any n _ _ m A c l k W1 (B1.out.keep hb2) (B2.out.keep hb2) (R1.out.below hb2) (by rw [hs.len]; omega) (by omega) (by omega) h5 h6))
  have HL := Lib.hid hs.len
  have HD := Lib.hid hs.d2
  obtain ⟨L, hLL⟩ : ∃ L, scaL m d l k = L := ⟨_, rfl⟩
  unfold scaL at hLL ⊢
  rw [hLL] at HS ⊢
  clear b1 b2 v3 hwb hW hr hs hLL
  go_enter Try.func116, Try.ntmps116
  go_wp2
  rw [HW.out]
  obtain ⟨x1, x2, x3⟩ := B1.out
  go_region_held3 (fun w' => w'.cell? ⟨w.heap.size, 0, none⟩ = some (.int .i64 m) ∧ w'.cell? ⟨w.heap.size, 1, none⟩ = some (.slice A l.length c) ∧ w.heap.size < w'.heap.size) (first | exact ⟨x1, x2, x3⟩ | exact box_store (by omega) (by assumption) | exact box_call (by assumption) (by assumption)) (first
    | (go_at_call 145; refine (degree_nat _ _ _ _ d _ HL.out (by have := HD.out; omega)).mono ?_; rintro e1 w1 ⟨rfl, hb1⟩)
    | (go_at_call 155; refine (HS.out _ ((below_drew0 W).trans hb1)).mono ?_; rintro e2 w2 ⟨v, rfl, ho2, hb2⟩; obtain ⟨A2, c2, rfl, _⟩ := ho2.form; have hv := V3.out.keep (((below_drew0 W).trans hb1).trans (hb2.mono ((below_drew0 W).trans hb1).size)); have q0 := hv.c0; have q1 := hv.c1; have q2 := hv.fz 0; have q3 := hv.fz 1))
  all_goals
    have hz := ((below_drew0 W).trans hb1).size
    have hg := x3
    have hw2 : Below w.heap.size w w2 := (HB.out.trans (((below_drew0 W).trans hb1).mono HB.out.size)).trans (hb2.mono (by have := HB.out.size; omega))
    obtain ⟨f0, f1, f2, f3⟩ := fin_var (w := w) hv ho2 (by have := V3.out.lt; omega) (by omega) hw2 (.int .i64 m) (.slice A2 L.length c2)
    have F2 := Lib.hid f2
    have F3 := Lib.hid f3
    clear f2 f3 hw2 ho2 hb2 hb1
    go_wp2
    refine bodyPost_ret (v := .agg #[.int .i64 m, .slice A2 L.length c2]) (by simp [results, Try.results116, go_sem, f0, f1]) rfl ⟨_, rfl, F2.out, F3.out⟩
end Go.Proofs.Ytpmbojbdppbkgaa

/- Contract of the model's number times a series. -/
namespace Go.Proofs.Ytpmbojbdppbkgaa
open Go.RowKit Go.WideShapes Go.ChangeShapes Go.ChangeAt

set_option maxHeartbeats 2000000 in
theorem l02Scale_any (m : Int) (d : Nat) (k : Int) (A : Option Addr) (c : Nat) (l : List Int) (w : World) (hs : SerOk m d l) (hr : RI w A l) (k1 : 0 ≤ k) (k2 : k < m) :
    Calls Try.prog 113 #[.int .i64 m, .int .i64 k, .slice A l.length c] w fun e w' => ∃ v, e = .returned v ∧ OwnI w' w.heap.size v (scaL m d l k) ∧ Below w.heap.size w w' := by
  have HS := Lib.hid hs
  have HR := Lib.hid hr
  have hm1 := hs.m1
  have hm2 := hs.m2
  have hd := hs.d2
  have hm0 : ¬ m = 0 := by omega
  have hll : l.length ≤ 11 := by have := hs.len; omega
  have E1 := Lib.hid hs.len
  clear hs hr
  go_enter Try.func113, Try.ntmps113
  go_wp2
  go_loopw [7, 8] (fun r i wr => ∃ j : Nat, j ≤ l.length ∧ i = .int .i64 j ∧ OwnI wr w.heap.size r ((scaL m d l k).take j) ∧ Below w.heap.size w wr) (fun _ i _ => l.length - (intOf i).toNat)
  case atStart => exact ⟨0, Nat.zero_le _, rfl, OwnI.empty _, below_one _ _⟩
  case round =>
    obtain ⟨j, hj, rfl, hown, hbel⟩ := hrel
    have HB := Lib.hid hbel
    have HO := Lib.hid hown
    have hsz := hbel.size
    have hlk := take_cut_len m d (fun n => Ser.co l n * k) j
    clear hown hbel
    by_cases hlt : j < l.length
    · obtain ⟨b, off, rfl, hb, hc⟩ := HR.out.at j hlt
      have c1 := (HB.out.cell (p := ⟨b, off + j, none⟩) hb).trans hc
      obtain ⟨r1, r2⟩ := HS.out.red j
      have hst : (scaL m d l k).take (j + 1) = (scaL m d l k).take j ++ [Ser.co l j * k % m] := Ser.cut_take_succ _ _ _ _ (by have := E1.out; omega)
      obtain ⟨X, hX⟩ : ∃ X, Ser.co l j = X := ⟨_, rfl⟩
      rw [hX] at c1 r1 r2 hst
      have p1 := Int.mul_nonneg k1 r1
      have p2 := (mul_bd (x := k) (y := X) k1 (by omega) (by omega) (by omega)).2
      have he : X * k = k * X := Int.mul_comm _ _
      rw [he] at hst
      have j0 : (0 : Int) ≤ (j : Int) := by omega
      have j1 : (j : Int) < (l.length : Int) := by omega
      have HST := Lib.hid hst
      clear hX hst hc he
      go_wp2_with (at_builtin; refine wp_push _ _ _ (by rfl) (by rfl) Try.underlying26 w.heap.size _ _ (by rfl) HO.out (k * X % m) (by rfl) (by unfold scaL; omega) hsz ?_; intro v' w1 ho1 hpb)
      have HP := Lib.hid (HB.out.trans hpb)
      have HQ := Lib.hid ho1
      clear hpb ho1
      go_wp2
      go_roundw
      case rel => exact ⟨j + 1, by omega, by go_num, by rw [HST.out]; exact HQ.out, HP.out⟩
      case measure => simp only [intOf]; omega
    · obtain rfl : j = l.length := by omega
      have ho := HO.out
      rw [List.take_of_length_le (by unfold scaL; rw [Ser.cut_length, E1.out]; exact Nat.le_refl _)] at ho
      have HF := Lib.hid ho
      clear ho
      go_wp2
      go_ret
      exact ⟨_, rfl, HF.out, HB.out⟩
end Go.Proofs.Ytpmbojbdppbkgaa

