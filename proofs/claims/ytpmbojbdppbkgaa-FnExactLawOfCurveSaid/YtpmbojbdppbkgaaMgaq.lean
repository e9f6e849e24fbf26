/- Texts of contracts, joined. -/
import Derived.Test.YtpmbojbdppbkgaaMgap
import Derived.Test.YtpmbojbdppbkgaaMgao
import Derived.Test.YtpmbojbdppbkgaaMgab
import Derived.Test.YtpmbojbdppbkgaaMgae
import Derived.Deep.Matrix
import Derived.Test.YtpmbojbdppbkgaaMgaa
/- Contracts of OppositeUnder and DifferenceUnder, of the program and of the model. -/
namespace Go.Proofs.Ytpmbojbdppbkgaa
open Go.RowKit Go.WideShapes Go.ChangeShapes Go.ChangeAt

/-- the models of OppositeUnder and DifferenceUnder -/
def oppL (m : Int) (t : List (List Int)) (m1 : Int) (l1 : List Int) : Int × List Int × Int :=
  if codeS1 m t m1 l1 = 0 then (m, oppC m (t.length - 1) t l1, 0) else (0, [], codeS1 m t m1 l1)
theorem oppL_len (m : Int) (t : List (List Int)) (m1 : Int) (l1 : List Int) : (oppL m t m1 l1).2.1.length ≤ 1048576 := by
  unfold oppL
  by_cases h : codeS1 m t m1 l1 = 0
  · rw [if_pos h]
    obtain ⟨-, rfl, d, e, -, -, -, s1, -⟩ := codeS1_ok h
    have := (oppC_ok (t := t) s1).len
    have := s1.d2
    rw [e, Nat.add_sub_cancel]
    dsimp only
    omega
  · rw [if_neg h]; exact Nat.zero_le _
def difL (m : Int) (t : List (List Int)) (m1 : Int) (l1 : List Int) (m2 : Int) (l2 : List Int) : Int × List Int × Int :=
  if codeS2 m t m1 l1 m2 l2 = 0 then (m, Pl.putL m (t.length - 1) (Pl.pc t) l1 (oppC m (t.length - 1) t l2), 0) else (0, [], codeS2 m t m1 l1 m2 l2)
theorem difL_len (m : Int) (t : List (List Int)) (m1 : Int) (l1 : List Int) (m2 : Int) (l2 : List Int) : (difL m t m1 l1 m2 l2).2.1.length ≤ 1048576 := by
  unfold difL
  by_cases h : codeS2 m t m1 l1 m2 l2 = 0
  · rw [if_pos h]
    obtain ⟨_, _, _, d, e, _, _, ok, _⟩ := codeS2_ok h
    have := ok.d2
    dsimp only
    rw [Pl.putL_length]; omega
  · rw [if_neg h]; exact Nat.zero_le _
set_option maxHeartbeats 16000000 in
set_option maxRecDepth 100000 in
theorem OppositeUnder_any (m : Int) (A : Option Addr) (c : Nat) (t : List (List Int)) (m1 : Int) (A1 : Option Addr) (c1 : Nat) (l1 : List Int) (w : World) (hz : szT t ≤ 1048576) (hl1 : l1.length ≤ 1048576) (hr : RP w A t) (hr1 : RI w A1 l1) :
    Calls Try.prog 32 #[.agg #[.int .i64 m, .slice A t.length c], .agg #[.int .i64 m1, .slice A1 l1.length c1]] w fun e w' => ∃ s, e = .returned (.tuple #[.agg #[.int .i64 (oppL m t m1 l1).1, s], .int .i64 (oppL m t m1 l1).2.2]) ∧ OwnI w' w.heap.size s (oppL m t m1 l1).2.1 ∧ Below w.heap.size w w' := by
  obtain ⟨W, hW, b1, b2, vr, b4, hwb⟩ := pro_psQ 28 w m A t.length c m1 A1 l1.length c1
  have hc : Calls Try.prog 75 #[.agg #[.int .i64 m, .slice A t.length c], .slice (some ⟨w.heap.size + 1 + 1 + 1, 0, none⟩) 1 1] W fun e w' => e = .returned (.int .i64 (codeS1 m t m1 l1)) ∧ Below W.heap.size W w' :=
    codeLw_any (w.heap.size + 1 + 1 + 1) m A c t [(m1, A1, c1, l1)] W hz (hr.below hwb) (SL.one b4 (hr1.below hwb) hl1) (by simp)
  have B1 := Lib.hid b1
  have B2 := Lib.hid b2
  have VR := Lib.hid vr
  have HB := Lib.hid hwb
  have HW := Lib.hid hW
  have hszR : w.heap.size + 1 + 1 < W.heap.size := vr.lt
  by_cases h0 : codeS1 m t m1 l1 = 0
  · obtain ⟨-, rfl, d, e1, f1, ok, hf, s1, z1⟩ := codeS1_ok h0
    rw [h0] at hc
    have HC0 := Lib.hid hc
    have HA : Hid (oppL m1 t m1 l1 = (m1, oppC m1 d t l1, 0)) := Lib.hid (by unfold oppL; rw [if_pos h0, e1]; rfl)
    rw [HA.out]
    have HG := Lib.hid (fun W0 => lawOf_nat m1 A t.length c d W0 e1 (by have := ok.d2; omega))
    have HP := Lib.hid (fun W0 (h : Below W.heap.size W W0) => opposite_any m1 d A c t A1 c1 l1 W0 ok hf s1 ((hr.below hwb).below h) ((hr1.below hwb).below h))
    obtain ⟨R, hR⟩ : ∃ R, oppC m1 d t l1 = R := ⟨_, rfl⟩
    rw [hR] at HP ⊢
    obtain ⟨Lt, hLt⟩ : ∃ L, t.length = L := ⟨_, rfl⟩
    rw [hLt] at HC0 HG HP HW B1 ⊢
    obtain ⟨n1, hn1⟩ : ∃ L, l1.length = L := ⟨_, rfl⟩
    rw [hn1] at HP HW B2 ⊢
    clear b1 b2 vr b4 hwb hW hr hr1 hc h0 ok hf s1 z1 e1 f1 hz hl1 hLt hn1 hR
    go_enter Try.func32, Try.ntmps32
    go_wp2_with fail
    rw [HW.out]
    refine HC0.out.mono ?_
    rintro e w1 ⟨rfl, hb1⟩
    have hx0 : Box w1 _ _ _ _ _ ∧ Box w1 _ _ _ _ _ := ⟨B1.out.keep hb1, B2.out.keep hb1⟩
    obtain ⟨⟨x1, x2, -⟩, ⟨y1, y2, -⟩⟩ := hx0
    have X0 := Lib.hid (box22_call (below_drew0 w1) ⟨B1.out.keep hb1, B2.out.keep hb1⟩)
    go_wp2
    go_region_held3 (fun w' => (w'.cell? ⟨w.heap.size, 0, none⟩ = some (.int .i64 m1) ∧ w'.cell? ⟨w.heap.size, 1, none⟩ = some (.slice A Lt c) ∧ w.heap.size < w'.heap.size) ∧ (w'.cell? ⟨w.heap.size + 1, 0, none⟩ = some (.int .i64 m1) ∧ w'.cell? ⟨w.heap.size + 1, 1, none⟩ = some (.slice A1 n1 c1) ∧ w.heap.size + 1 < w'.heap.size)) (first | exact X0.out | exact box22_call hc2 (by assumption) | exact box22_call hc1 (by assumption) | exact box22_store (by omega) (by omega) (by assumption)) (first
      | (go_at_call 64; with_reducible refine Calls.mono (HG.out _) ?_; rintro e v1 ⟨rfl, hc1⟩)
      | (go_at_call 78; with_reducible refine Calls.mono (HP.out _ (below_step (below_step hb1 (below_drew0 _)) hc1)) ?_; rintro e v2 ⟨s5, rfl, ho5, hc2⟩; obtain ⟨A5, c5, rfl, -⟩ := ho5.form; have hv := VR.out.keep (below_step (below_step (below_step hb1 (below_drew0 _)) hc1) hc2); obtain ⟨q0, q1, q2, q3⟩ := hv.tells2))
    all_goals
      have hw3 := (below_step (below_step (below_step hb1 (below_drew0 _)) hc1) hc2)
      have hz1 := ((below_step (below_step hb1 (below_drew0 _)) hc1)).size
      obtain ⟨f0, f1, f2, f3⟩ := fin_serC (w := w) hv ho5 (by omega) (by omega) (below_step HB.out hw3) (.int .i64 m1) (.slice A5 R.length c5)
      have F2 := Lib.hid (OwnI.more (b' := w.heap.size) f2 (by omega))
      have F3 := Lib.hid f3
      clear f2 f3 hv hw3 hb1 hc1 hc2
      go_wp2
      exact bodyPost_ret (v := .tuple #[.agg #[.int .i64 m1, .slice A5 R.length c5], .int .i64 0]) (by simp [results, Try.results32, go_sem, f0, f1]) rfl ⟨_, rfl, F2.out, F3.out⟩
  · have HA : Hid (oppL m t m1 l1 = (0, [], codeS1 m t m1 l1)) := Lib.hid (by unfold oppL; rw [if_neg h0])
    rw [HA.out]
    obtain ⟨n1, n2⟩ := ne_facts h0
    obtain ⟨C, hC⟩ : ∃ C, codeS1 m t m1 l1 = C := ⟨_, rfl⟩
    rw [hC] at n1 n2 h0 hc ⊢
    have HC0 := Lib.hid hc
    clear b1 b2 vr b4 hwb hW hr hr1 hz hl1 hc hC
    go_enter Try.func32, Try.ntmps32
    go_wp2_with fail
    rw [HW.out]
    refine HC0.out.mono ?_
    rintro e w1 ⟨rfl, hb1⟩
    have hv := VR.out.keep hb1
    obtain ⟨q0, q1, q2, q3⟩ := hv.tells2
    obtain ⟨f0, f1, f2, f3⟩ := fin_serC (w := w) hv (OwnI.nil _ (w.heap.size + 1 + 1 + 1)) (by omega) (by omega) (below_step HB.out hb1) (.int .i64 0) (.slice none 0 0)
    have F2 := Lib.hid (OwnI.more (b' := w.heap.size) f2 (by omega))
    have F3 := Lib.hid f3
    clear f2 f3 hv
    go_wp2
    exact bodyPost_ret (v := .tuple #[.agg #[.int .i64 0, .slice none 0 0], .int .i64 C]) (by simp [results, Try.results32, go_sem, f0, f1]) rfl ⟨_, rfl, F2.out, F3.out⟩
set_option maxHeartbeats 16000000 in
set_option maxRecDepth 100000 in
theorem sOppositeUnder_any (m : Int) (A : Option Addr) (c : Nat) (t : List (List Int)) (m1 : Int) (A1 : Option Addr) (c1 : Nat) (l1 : List Int) (w : World) (hz : szT t ≤ 1048576) (hl1 : l1.length ≤ 1048576) (hr : RP w A t) (hr1 : RI w A1 l1) :
    Calls Try.prog 31 #[.agg #[.int .i64 m, .slice A t.length c], .agg #[.int .i64 m1, .slice A1 l1.length c1]] w fun e w' => ∃ s, e = .returned (.tuple #[.agg #[.int .i64 (oppL m t m1 l1).1, s], .int .i64 (oppL m t m1 l1).2.2]) ∧ OwnI w' w.heap.size s (oppL m t m1 l1).2.1 ∧ Below w.heap.size w w' := by
  obtain ⟨W, hW, b1, b2, vr, b4, hwb⟩ := pro_psQ 28 w m A t.length c m1 A1 l1.length c1
  have hc : Calls Try.prog 72 #[.agg #[.int .i64 m, .slice A t.length c], .slice (some ⟨w.heap.size + 1 + 1 + 1, 0, none⟩) 1 1] W fun e w' => e = .returned (.int .i64 (codeS1 m t m1 l1)) ∧ Below W.heap.size W w' :=
    l04Code_any (w.heap.size + 1 + 1 + 1) m A c t [(m1, A1, c1, l1)] W hz (hr.below hwb) (SL.one b4 (hr1.below hwb) hl1) (by simp)
  have B1 := Lib.hid b1
  have B2 := Lib.hid b2
  have VR := Lib.hid vr
  have HB := Lib.hid hwb
  have HW := Lib.hid hW
  have hszR : w.heap.size + 1 + 1 < W.heap.size := vr.lt
  by_cases h0 : codeS1 m t m1 l1 = 0
  · obtain ⟨-, rfl, d, e1, f1, ok, hf, s1, z1⟩ := codeS1_ok h0
    rw [h0] at hc
    have HC0 := Lib.hid hc
    have HA : Hid (oppL m1 t m1 l1 = (m1, oppC m1 d t l1, 0)) := Lib.hid (by unfold oppL; rw [if_pos h0, e1]; rfl)
    rw [HA.out]
    have HP := Lib.hid (fun W0 (h : Below W.heap.size W W0) => l04Opposite_any m1 d A c t A1 c1 l1 W0 ok s1 z1 ((hr.below hwb).below h) ((hr1.below hwb).below h))
    obtain ⟨R, hR⟩ : ∃ R, oppC m1 d t l1 = R := ⟨_, rfl⟩
    rw [hR] at HP ⊢
    obtain ⟨Lt, hLt⟩ : ∃ L, t.length = L := ⟨_, rfl⟩
    rw [hLt] at HC0 HP HW B1 ⊢
    obtain ⟨n1, hn1⟩ : ∃ L, l1.length = L := ⟨_, rfl⟩
    rw [hn1] at HP HW B2 ⊢
    clear b1 b2 vr b4 hwb hW hr hr1 hc h0 ok hf s1 z1 e1 f1 hz hl1 hLt hn1 hR
    go_enter Try.func31, Try.ntmps31
    go_wp2_with fail
    rw [HW.out]
    refine HC0.out.mono ?_
    rintro e w1 ⟨rfl, hb1⟩
    have hx0 : Box w1 _ _ _ _ _ ∧ Box w1 _ _ _ _ _ := ⟨B1.out.keep hb1, B2.out.keep hb1⟩
    obtain ⟨⟨x1, x2, -⟩, ⟨y1, y2, -⟩⟩ := hx0
    have X0 := Lib.hid (box22_call (below_drew0 w1) ⟨B1.out.keep hb1, B2.out.keep hb1⟩)
    go_wp2
    go_region_held3 (fun w' => (w'.cell? ⟨w.heap.size, 0, none⟩ = some (.int .i64 m1) ∧ w'.cell? ⟨w.heap.size, 1, none⟩ = some (.slice A Lt c) ∧ w.heap.size < w'.heap.size) ∧ (w'.cell? ⟨w.heap.size + 1, 0, none⟩ = some (.int .i64 m1) ∧ w'.cell? ⟨w.heap.size + 1, 1, none⟩ = some (.slice A1 n1 c1) ∧ w.heap.size + 1 < w'.heap.size)) (first | exact X0.out | exact box22_call hc2 (by assumption) | exact box22_call hc1 (by assumption) | exact box22_store (by omega) (by omega) (by assumption)) (first
      | (go_at_call 77; with_reducible refine Calls.mono (HP.out _ (below_step hb1 (below_drew0 _))) ?_; rintro e v1 ⟨s5, rfl, ho5, hc1⟩; obtain ⟨A5, c5, rfl, -⟩ := ho5.form)
      | (go_at_call 60; with_reducible refine Calls.mono (l02Make_any _ _ _ _ _) ?_; rintro e v2 ⟨rfl, hc2⟩; have hv := VR.out.keep (below_step (below_step (below_step hb1 (below_drew0 _)) hc1) hc2); obtain ⟨q0, q1, q2, q3⟩ := hv.tells2))
    all_goals
      have hw3 := (below_step (below_step (below_step hb1 (below_drew0 _)) hc1) hc2)
      have hz1 := ((below_step hb1 (below_drew0 _))).size
      obtain ⟨f0, f1, f2, f3⟩ := fin_serC (w := w) hv (ho5.keep hc2) (by omega) (by omega) (below_step HB.out hw3) (.int .i64 m1) (.slice A5 R.length c5)
      have F2 := Lib.hid (OwnI.more (b' := w.heap.size) f2 (by omega))
      have F3 := Lib.hid f3
      clear f2 f3 hv hw3 hb1 hc1 hc2
      go_wp2
      exact bodyPost_ret (v := .tuple #[.agg #[.int .i64 m1, .slice A5 R.length c5], .int .i64 0]) (by simp [results, Try.results31, go_sem, f0, f1]) rfl ⟨_, rfl, F2.out, F3.out⟩
  · have HA : Hid (oppL m t m1 l1 = (0, [], codeS1 m t m1 l1)) := Lib.hid (by unfold oppL; rw [if_neg h0])
    rw [HA.out]
    obtain ⟨n1, n2⟩ := ne_facts h0
    obtain ⟨C, hC⟩ : ∃ C, codeS1 m t m1 l1 = C := ⟨_, rfl⟩
    rw [hC] at n1 n2 h0 hc ⊢
    have HC0 := Lib.hid hc
    clear b1 b2 vr b4 hwb hW hr hr1 hz hl1 hc hC
    go_enter Try.func31, Try.ntmps31
    go_wp2_with fail
    rw [HW.out]
    refine HC0.out.mono ?_
    rintro e w1 ⟨rfl, hb1⟩
    have hv := VR.out.keep hb1
    obtain ⟨q0, q1, q2, q3⟩ := hv.tells2
    obtain ⟨f0, f1, f2, f3⟩ := fin_serC (w := w) hv (OwnI.nil _ (w.heap.size + 1 + 1 + 1)) (by omega) (by omega) (below_step HB.out hb1) (.int .i64 0) (.slice none 0 0)
    have F2 := Lib.hid (OwnI.more (b' := w.heap.size) f2 (by omega))
    have F3 := Lib.hid f3
    clear f2 f3 hv
    go_wp2
    exact bodyPost_ret (v := .tuple #[.agg #[.int .i64 0, .slice none 0 0], .int .i64 C]) (by simp [results, Try.results31, go_sem, f0, f1]) rfl ⟨_, rfl, F2.out, F3.out⟩
set_option maxHeartbeats 16000000 in
set_option maxRecDepth 100000 in
theorem DifferenceUnder_any (m : Int) (A : Option Addr) (c : Nat) (t : List (List Int)) (m1 : Int) (A1 : Option Addr) (c1 : Nat) (l1 : List Int) (m2 : Int) (A2 : Option Addr) (c2 : Nat) (l2 : List Int) (w : World) (hz : szT t ≤ 1048576) (hl1 : l1.length ≤ 1048576) (hl2 : l2.length ≤ 1048576) (hr : RP w A t) (hr1 : RI w A1 l1) (hr2 : RI w A2 l2) :
    Calls Try.prog 34 #[.agg #[.int .i64 m, .slice A t.length c], .agg #[.int .i64 m1, .slice A1 l1.length c1], .agg #[.int .i64 m2, .slice A2 l2.length c2]] w fun e w' => ∃ s, e = .returned (.tuple #[.agg #[.int .i64 (difL m t m1 l1 m2 l2).1, s], .int .i64 (difL m t m1 l1 m2 l2).2.2]) ∧ OwnI w' w.heap.size s (difL m t m1 l1 m2 l2).2.1 ∧ Below w.heap.size w w' := by
  obtain ⟨W, hW, b1, b2, b3, vr, b4, hwb⟩ := proS 28 w m A t.length c m1 A1 l1.length c1 m2 A2 l2.length c2
  have hc : Calls Try.prog 75 #[.agg #[.int .i64 m, .slice A t.length c], .slice (some ⟨w.heap.size + 1 + 1 + 1 + 1, 0, none⟩) 2 2] W fun e w' => e = .returned (.int .i64 (codeS2 m t m1 l1 m2 l2)) ∧ Below W.heap.size W w' :=
    codeLw_any (w.heap.size + 1 + 1 + 1 + 1) m A c t [(m1, A1, c1, l1), (m2, A2, c2, l2)] W hz (hr.below hwb) (SL.two b4 (hr1.below hwb) (hr2.below hwb) hl1 hl2) (by simp)
  have B1 := Lib.hid b1
  have B2 := Lib.hid b2
  have B3 := Lib.hid b3
  have VR := Lib.hid vr
  have HB := Lib.hid hwb
  have HW := Lib.hid hW
  have hszR : w.heap.size + 1 + 1 + 1 < W.heap.size := vr.lt
  by_cases h0 : codeS2 m t m1 l1 m2 l2 = 0
  · obtain ⟨-, rfl, rfl, d, e1, f1, f2, ok, hf, s1, s2, z1, z2⟩ := codeS2_ok h0
    rw [h0] at hc
    have HC0 := Lib.hid hc
    have HA : Hid (difL m2 t m2 l1 m2 l2 = (m2, Pl.putL m2 d (Pl.pc t) l1 (oppC m2 d t l2), 0)) := Lib.hid (by unfold difL; rw [if_pos h0, e1]; rfl)
    rw [HA.out]
    have HG := Lib.hid (fun W0 => lawOf_nat m2 A t.length c d W0 e1 (by have := ok.d2; omega))
    have HP := Lib.hid (fun W0 (h : Below W.heap.size W W0) => opposite_any m2 d A c t A2 c2 l2 W0 ok hf s2 ((hr.below hwb).below h) ((hr2.below hwb).below h))
    have HQ := Lib.hid (fun W0 (h : Below W.heap.size W W0) A5 c5 (h5 : RI W0 A5 (oppC m2 d t l2)) => sum_any m2 d A c t A1 c1 l1 A5 c5 (oppC m2 d t l2) W0 ok s1 (oppC_ok s2) z1 (oppC_zero s2 z2) ((hr.below hwb).below h) ((hr1.below hwb).below h) h5)
    obtain ⟨V, hV⟩ : ∃ R, oppC m2 d t l2 = R := ⟨_, rfl⟩
    rw [hV] at HP HQ ⊢
    obtain ⟨R, hR⟩ : ∃ R, Pl.putL m2 d (Pl.pc t) l1 V = R := ⟨_, rfl⟩
    rw [hR] at HQ ⊢
    obtain ⟨Lt, hLt⟩ : ∃ L, t.length = L := ⟨_, rfl⟩
    rw [hLt] at HC0 HG HP HQ HW B1 ⊢
    obtain ⟨n1, hn1⟩ : ∃ L, l1.length = L := ⟨_, rfl⟩
    rw [hn1] at HQ HW B2 ⊢
    obtain ⟨n2, hn2⟩ : ∃ L, l2.length = L := ⟨_, rfl⟩
    rw [hn2] at HP HW B3 ⊢
    clear b1 b2 b3 vr b4 hwb hW hr hr1 hr2 hc h0 ok hf s1 z1 s2 z2 e1 f1 f2 hz hl1 hl2 hLt hn1 hn2 hR hV
    go_enter Try.func34, Try.ntmps34
    go_wp2_with fail
    rw [HW.out]
    refine HC0.out.mono ?_
    rintro e w1 ⟨rfl, hb1⟩
    have hx0 := kb3_call hb1 (⟨B1.out, B2.out, B3.out⟩ : Box W _ _ _ _ _ ∧ Box W _ _ _ _ _ ∧ Box W _ _ _ _ _)
    obtain ⟨⟨x1, x2, -⟩, ⟨y1, y2, -⟩, ⟨y3, y4, -⟩⟩ := hx0
    have X0 := Lib.hid (kb3_call (hb1.trans ((below_drew0 w1).mono hb1.size)) (⟨B1.out, B2.out, B3.out⟩ : Box W _ _ _ _ _ ∧ Box W _ _ _ _ _ ∧ Box W _ _ _ _ _))
    go_wp2
    go_region_held3 (fun w' => (w'.cell? ⟨w.heap.size, 0, none⟩ = some (.int .i64 m2) ∧ w'.cell? ⟨w.heap.size, 1, none⟩ = some (.slice A Lt c) ∧ w.heap.size < w'.heap.size) ∧ (w'.cell? ⟨w.heap.size + 1, 0, none⟩ = some (.int .i64 m2) ∧ w'.cell? ⟨w.heap.size + 1, 1, none⟩ = some (.slice A1 n1 c1) ∧ w.heap.size + 1 < w'.heap.size) ∧ (w'.cell? ⟨w.heap.size + 1 + 1, 0, none⟩ = some (.int .i64 m2) ∧ w'.cell? ⟨w.heap.size + 1 + 1, 1, none⟩ = some (.slice A2 n2 c2) ∧ w.heap.size + 1 + 1 < w'.heap.size)) (first | exact X0.out | exact kb3_call hc4 (by assumption) | exact kb3_call hc3 (by assumption) | exact kb3_call hc2 (by assumption) | exact kb3_call hc1 (by assumption) | exact kb3_store (by omega) (by omega) (by omega) (by assumption)) (first
      | (go_at_call 64; have ht := hc1; clear ht; with_reducible refine Calls.mono (HG.out _) ?_; rintro e v2 ⟨rfl, hc2⟩)
      | (go_at_call 64; with_reducible refine Calls.mono (HG.out _) ?_; rintro e v1 ⟨rfl, hc1⟩)
      | (go_at_call 78; with_reducible refine Calls.mono (HP.out _ (below_step (below_step (below_step hb1 (below_drew0 _)) hc1) hc2)) ?_; rintro e v3 ⟨s5, rfl, ho5, hc3⟩; obtain ⟨A5, c5, rfl, -⟩ := ho5.form)
      | (go_at_call 76; with_reducible refine Calls.mono (HQ.out _ (below_step (below_step (below_step (below_step hb1 (below_drew0 _)) hc1) hc2) hc3) _ _ ho5.ri) ?_; rintro e v4 ⟨s6, rfl, ho6, hc4⟩; obtain ⟨A6, c6, rfl, -⟩ := ho6.form; have hv := VR.out.keep (below_step (below_step (below_step (below_step (below_step hb1 (below_drew0 _)) hc1) hc2) hc3) hc4); obtain ⟨q0, q1, q2, q3⟩ := hv.tells2))
    all_goals
      have hw3 := (below_step (below_step (below_step (below_step (below_step hb1 (below_drew0 _)) hc1) hc2) hc3) hc4)
      have hz1 := ((below_step (below_step (below_step (below_step hb1 (below_drew0 _)) hc1) hc2) hc3)).size
      obtain ⟨f0, f1, f2, f3⟩ := fin_serC (w := w) hv ho6 (by omega) (by omega) (below_step HB.out hw3) (.int .i64 m2) (.slice A6 R.length c6)
      have F2 := Lib.hid (OwnI.more (b' := w.heap.size) f2 (by omega))
      have F3 := Lib.hid f3
      clear f2 f3 hv hw3 hb1 hc1 hc2 hc3 hc4
      go_wp2
      exact bodyPost_ret (v := .tuple #[.agg #[.int .i64 m2, .slice A6 R.length c6], .int .i64 0]) (by simp [results, Try.results34, go_sem, f0, f1]) rfl ⟨_, rfl, F2.out, F3.out⟩
  · have HA : Hid (difL m t m1 l1 m2 l2 = (0, [], codeS2 m t m1 l1 m2 l2)) := Lib.hid (by unfold difL; rw [if_neg h0])
    rw [HA.out]
    obtain ⟨n1, n2⟩ := ne_facts h0
    obtain ⟨C, hC⟩ : ∃ C, codeS2 m t m1 l1 m2 l2 = C := ⟨_, rfl⟩
    rw [hC] at n1 n2 h0 hc ⊢
    have HC0 := Lib.hid hc
    clear b1 b2 b3 vr b4 hwb hW hr hr1 hr2 hz hl1 hl2 hc hC
    go_enter Try.func34, Try.ntmps34
    go_wp2_with fail
    rw [HW.out]
    refine HC0.out.mono ?_
    rintro e w1 ⟨rfl, hb1⟩
    have hv := VR.out.keep hb1
    obtain ⟨q0, q1, q2, q3⟩ := hv.tells2
    obtain ⟨f0, f1, f2, f3⟩ := fin_serC (w := w) hv (OwnI.nil _ (w.heap.size + 1 + 1 + 1 + 1)) (by omega) (by omega) (below_step HB.out hb1) (.int .i64 0) (.slice none 0 0)
    have F2 := Lib.hid (OwnI.more (b' := w.heap.size) f2 (by omega))
    have F3 := Lib.hid f3
    clear f2 f3 hv
    go_wp2
    exact bodyPost_ret (v := .tuple #[.agg #[.int .i64 0, .slice none 0 0], .int .i64 C]) (by simp [results, Try.results34, go_sem, f0, f1]) rfl ⟨_, rfl, F2.out, F3.out⟩
set_option maxHeartbeats 16000000 in
set_option maxRecDepth 100000 in
theorem sDifferenceUnder_any (m : Int) (A : Option Addr) (c : Nat) (t : List (List Int)) (m1 : Int) (A1 : Option Addr) (c1 : Nat) (l1 : List Int) (m2 : Int) (A2 : Option Addr) (c2 : Nat) (l2 : List Int) (w : World) (hz : szT t ≤ 1048576) (hl1 : l1.length ≤ 1048576) (hl2 : l2.length ≤ 1048576) (hr : RP w A t) (hr1 : RI w A1 l1) (hr2 : RI w A2 l2) :
    Calls Try.prog 33 #[.agg #[.int .i64 m, .slice A t.length c], .agg #[.int .i64 m1, .slice A1 l1.length c1], .agg #[.int .i64 m2, .slice A2 l2.length c2]] w fun e w' => ∃ s, e = .returned (.tuple #[.agg #[.int .i64 (difL m t m1 l1 m2 l2).1, s], .int .i64 (difL m t m1 l1 m2 l2).2.2]) ∧ OwnI w' w.heap.size s (difL m t m1 l1 m2 l2).2.1 ∧ Below w.heap.size w w' := by
  obtain ⟨W, hW, b1, b2, b3, vr, b4, hwb⟩ := proS 28 w m A t.length c m1 A1 l1.length c1 m2 A2 l2.length c2
  have hc : Calls Try.prog 72 #[.agg #[.int .i64 m, .slice A t.length c], .slice (some ⟨w.heap.size + 1 + 1 + 1 + 1, 0, none⟩) 2 2] W fun e w' => e = .returned (.int .i64 (codeS2 m t m1 l1 m2 l2)) ∧ Below W.heap.size W w' :=
    l04Code_any (w.heap.size + 1 + 1 + 1 + 1) m A c t [(m1, A1, c1, l1), (m2, A2, c2, l2)] W hz (hr.below hwb) (SL.two b4 (hr1.below hwb) (hr2.below hwb) hl1 hl2) (by simp)
  have B1 := Lib.hid b1
  have B2 := Lib.hid b2
  have B3 := Lib.hid b3
  have VR := Lib.hid vr
  have HB := Lib.hid hwb
  have HW := Lib.hid hW
  have hszR : w.heap.size + 1 + 1 + 1 < W.heap.size := vr.lt
  by_cases h0 : codeS2 m t m1 l1 m2 l2 = 0
  · obtain ⟨-, rfl, rfl, d, e1, f1, f2, ok, hf, s1, s2, z1, z2⟩ := codeS2_ok h0
    rw [h0] at hc
    have HC0 := Lib.hid hc
    have HA : Hid (difL m2 t m2 l1 m2 l2 = (m2, Pl.putL m2 d (Pl.pc t) l1 (oppC m2 d t l2), 0)) := Lib.hid (by unfold difL; rw [if_pos h0, e1]; rfl)
    rw [HA.out]
    have HP := Lib.hid (fun W0 (h : Below W.heap.size W W0) => l04Opposite_any m2 d A c t A2 c2 l2 W0 ok s2 z2 ((hr.below hwb).below h) ((hr2.below hwb).below h))
    have HQ := Lib.hid (fun W0 (h : Below W.heap.size W W0) A5 c5 (h5 : RI W0 A5 (oppC m2 d t l2)) => l03Put_any m2 d A c t A1 c1 l1 A5 c5 (oppC m2 d t l2) W0 ok s1 (oppC_ok s2) ((hr.below hwb).below h) ((hr1.below hwb).below h) h5)
    obtain ⟨V, hV⟩ : ∃ R, oppC m2 d t l2 = R := ⟨_, rfl⟩
    rw [hV] at HP HQ ⊢
    obtain ⟨R, hR⟩ : ∃ R, Pl.putL m2 d (Pl.pc t) l1 V = R := ⟨_, rfl⟩
    rw [hR] at HQ ⊢
    obtain ⟨Lt, hLt⟩ : ∃ L, t.length = L := ⟨_, rfl⟩
    rw [hLt] at HC0 HP HQ HW B1 ⊢
    obtain ⟨n1, hn1⟩ : ∃ L, l1.length = L := ⟨_, rfl⟩
    rw [hn1] at HQ HW B2 ⊢
    obtain ⟨n2, hn2⟩ : ∃ L, l2.length = L := ⟨_, rfl⟩
    rw [hn2] at HP HW B3 ⊢
    clear b1 b2 b3 vr b4 hwb hW hr hr1 hr2 hc h0 ok hf s1 z1 s2 z2 e1 f1 f2 hz hl1 hl2 hLt hn1 hn2 hR hV
    go_enter Try.func33, Try.ntmps33
    go_wp2_with fail
    rw [HW.out]
    refine HC0.out.mono ?_
    rintro e w1 ⟨rfl, hb1⟩
    have hx0 := kb3_call hb1 (⟨B1.out, B2.out, B3.out⟩ : Box W _ _ _ _ _ ∧ Box W _ _ _ _ _ ∧ Box W _ _ _ _ _)
    obtain ⟨⟨x1, x2, -⟩, ⟨y1, y2, -⟩, ⟨y3, y4, -⟩⟩ := hx0
    have X0 := Lib.hid (kb3_call (hb1.trans ((below_drew0 w1).mono hb1.size)) (⟨B1.out, B2.out, B3.out⟩ : Box W _ _ _ _ _ ∧ Box W _ _ _ _ _ ∧ Box W _ _ _ _ _))
    go_wp2
    go_region_held3 (fun w' => (w'.cell? ⟨w.heap.size, 0, none⟩ = some (.int .i64 m2) ∧ w'.cell? ⟨w.heap.size, 1, none⟩ = some (.slice A Lt c) ∧ w.heap.size < w'.heap.size) ∧ (w'.cell? ⟨w.heap.size + 1, 0, none⟩ = some (.int .i64 m2) ∧ w'.cell? ⟨w.heap.size + 1, 1, none⟩ = some (.slice A1 n1 c1) ∧ w.heap.size + 1 < w'.heap.size) ∧ (w'.cell? ⟨w.heap.size + 1 + 1, 0, none⟩ = some (.int .i64 m2) ∧ w'.cell? ⟨w.heap.size + 1 + 1, 1, none⟩ = some (.slice A2 n2 c2) ∧ w.heap.size + 1 + 1 < w'.heap.size)) (first | exact X0.out | exact kb3_call hc3 (by assumption) | exact kb3_call hc2 (by assumption) | exact kb3_call hc1 (by assumption) | exact kb3_store (by omega) (by omega) (by omega) (by assumption)) (first
      | (go_at_call 77; with_reducible refine Calls.mono (HP.out _ (below_step hb1 (below_drew0 _))) ?_; rintro e v1 ⟨s5, rfl, ho5, hc1⟩; obtain ⟨A5, c5, rfl, -⟩ := ho5.form)
      | (go_at_call 73; with_reducible refine Calls.mono (HQ.out _ (below_step (below_step hb1 (below_drew0 _)) hc1) _ _ ho5.ri) ?_; rintro e v2 ⟨s6, rfl, ho6, hc2⟩; obtain ⟨A6, c6, rfl, -⟩ := ho6.form)
      | (go_at_call 60; with_reducible refine Calls.mono (l02Make_any _ _ _ _ _) ?_; rintro e v3 ⟨rfl, hc3⟩; have hv := VR.out.keep (below_step (below_step (below_step (below_step hb1 (below_drew0 _)) hc1) hc2) hc3); obtain ⟨q0, q1, q2, q3⟩ := hv.tells2))
    all_goals
      have hw3 := (below_step (below_step (below_step (below_step hb1 (below_drew0 _)) hc1) hc2) hc3)
      have hz1 := ((below_step (below_step hb1 (below_drew0 _)) hc1)).size
      obtain ⟨f0, f1, f2, f3⟩ := fin_serC (w := w) hv (ho6.keep hc3) (by omega) (by omega) (below_step HB.out hw3) (.int .i64 m2) (.slice A6 R.length c6)
      have F2 := Lib.hid (OwnI.more (b' := w.heap.size) f2 (by omega))
      have F3 := Lib.hid f3
      clear f2 f3 hv hw3 hb1 hc1 hc2 hc3
      go_wp2
      exact bodyPost_ret (v := .tuple #[.agg #[.int .i64 m2, .slice A6 R.length c6], .int .i64 0]) (by simp [results, Try.results33, go_sem, f0, f1]) rfl ⟨_, rfl, F2.out, F3.out⟩
  · have HA : Hid (difL m t m1 l1 m2 l2 = (0, [], codeS2 m t m1 l1 m2 l2)) := Lib.hid (by unfold difL; rw [if_neg h0])
    rw [HA.out]
    obtain ⟨n1, n2⟩ := ne_facts h0
    obtain ⟨C, hC⟩ : ∃ C, codeS2 m t m1 l1 m2 l2 = C := ⟨_, rfl⟩
    rw [hC] at n1 n2 h0 hc ⊢
    have HC0 := Lib.hid hc
    clear b1 b2 b3 vr b4 hwb hW hr hr1 hr2 hz hl1 hl2 hc hC
    go_enter Try.func33, Try.ntmps33
    go_wp2_with fail
    rw [HW.out]
    refine HC0.out.mono ?_
    rintro e w1 ⟨rfl, hb1⟩
    have hv := VR.out.keep hb1
    obtain ⟨q0, q1, q2, q3⟩ := hv.tells2
    obtain ⟨f0, f1, f2, f3⟩ := fin_serC (w := w) hv (OwnI.nil _ (w.heap.size + 1 + 1 + 1 + 1)) (by omega) (by omega) (below_step HB.out hb1) (.int .i64 0) (.slice none 0 0)
    have F2 := Lib.hid (OwnI.more (b' := w.heap.size) f2 (by omega))
    have F3 := Lib.hid f3
    clear f2 f3 hv
    go_wp2
    exact bodyPost_ret (v := .tuple #[.agg #[.int .i64 0, .slice none 0 0], .int .i64 C]) (by simp [results, Try.results33, go_sem, f0, f1]) rfl ⟨_, rfl, F2.out, F3.out⟩
end Go.Proofs.Ytpmbojbdppbkgaa

/- A plane among a law's arguments: what its reading tells. -/
namespace Go.Proofs.Ytpmbojbdppbkgaa
open Go.RowKit Go.WideShapes Go.ChangeShapes Go.ChangeAt

theorem cells_pla : Try.prog.cellsOf 24 = 2 := by kernel_rfl
theorem cells_i64ss : Try.prog.cellsOf 22 = 1 := by kernel_rfl
set_option maxRecDepth 100000 in
theorem open_pla {H : Type} {enc : TypeId × Value → H} {W : World} {base : Nat} {v : Value} {d : DataW H} {p : List MemPlace}
    (hv : Value.okWide Try.prog W .any base 24 v) (h : DataW.Trod enc Try.prog W 0 (fun _ => true) true 24 v d p) :
    ∃ (m : Int) (A : Option Addr) (c : Nat) (t : List (List Int)), v = .agg #[.int .i64 m, .slice A t.length c] ∧ (t.length ≤ 9223372036854775807 ∧ ∀ k, (Pl.rw' t k).length ≤ 9223372036854775807) ∧ RQ W A t := by
  obtain ⟨cs, rfl, hsz⟩ := okWide_struct Try.underlying24 hv
  rw [cells_pla] at hsz
  obtain ⟨l⟩ := cs
  match l, hsz with
  | [c0, c1], _ =>
    obtain ⟨fuel, hf⟩ := h
    obtain ⟨y0, y1, m, hx, _, hy0, hy1⟩ := trod_struct2 Try.underlying24 hf
    obtain ⟨a, e0, -, -⟩ := DataW.trod_int Try.underlying2 hy0
    simp [Value.cells, cells_i64] at e0
    subst e0
    rcases Go.Deep.open_int_rows Try.underlying22 Try.underlying26 Try.underlying2 (by kernel_rfl) (by kernel_rfl) hy1 with ⟨hcs, -⟩ | ⟨ad, n, cap, A, L, C, Z, hcs, -, hl, hm, -, hr⟩
    · simp [Value.cells, cells_i64ss] at hcs
      subst hcs
      exact ⟨a, none, 0, [], rfl, ⟨Nat.zero_le _, fun k => Nat.zero_le _⟩, fun h => absurd rfl h⟩
    · simp [Value.cells, cells_i64ss] at hcs
      subst hcs
      have key : ∀ r, r < n → Pl.rw' ((List.range n).map fun r => (Z r).take (L r)) r = (Z r).take (L r) := by
        intro r h
        unfold Pl.rw'
        rw [List.getElem?_map, List.getElem?_range h]; rfl
      have klen : ∀ r, r < n → ((Z r).take (L r)).length = L r := by
        intro r h
        obtain ⟨_, h2, _, h4, _⟩ := hr r (by omega)
        rw [List.length_take]; omega
      have hlen : ((List.range n).map fun r => (Z r).take (L r)).length = n := by simp
      refine ⟨a, some ad, cap, (List.range n).map fun r => (Z r).take (L r), by rw [hlen], ⟨by rw [hlen]; unfold maxLen at hm; omega, fun k => ?_⟩, fun hne => ?_⟩
      · by_cases hk : k < n
        · rw [key k hk, klen k hk]
          obtain ⟨_, h2, h3, _⟩ := hr k (by omega)
          unfold maxLen at h3; omega
        · rw [Pl.rw_over (by rw [hlen]; omega)]; exact Nat.zero_le _
      · have hn : 0 < n := by
          rcases Nat.eq_zero_or_pos n with e | e
          · subst e; exact absurd rfl hne
          · exact e
        refine ⟨ad, rfl, ?_, fun k hk => ?_⟩
        · have := World.block_lt_of_cell? W _ (hr 0 (by omega)).1
          rwa [add_block] at this
        · rw [hlen] at hk
          obtain ⟨h1, h2, h3, h4, _, _, h7⟩ := hr k (by omega)
          refine ⟨A k, C k, by rw [key k hk, klen k hk]; exact h1, ?_⟩
          rw [key k hk]
          intro hne2
          have hL : 0 < L k := by
            rcases Nat.eq_zero_or_pos (L k) with e | e
            · rw [e] at hne2; exact absurd rfl hne2
            · exact e
          rcases hA : A k with _ | a'
          · obtain ⟨_, _, _, _, _, h6, _⟩ := hr k (by omega)
            have := h6 hA
            omega
          · obtain ⟨_, h8⟩ := h7 a' hA
            refine ⟨a', rfl, ?_, fun j hj => ?_⟩
            · have := World.block_lt_of_cell? W _ (h8 0 (by omega))
              rwa [add_block] at this
            · rw [klen k hk] at hj
              rw [h8 j (by omega), List.getElem?_take, if_pos hj]
              simp [List.getD_eq_getElem?_getD]
end Go.Proofs.Ytpmbojbdppbkgaa

/- Helpers of the exact laws whose result is a list of integers. -/
namespace Go.Proofs.Ytpmbojbdppbkgaa
open Go.RowKit Go.WideShapes Go.ChangeShapes Go.ChangeAt

theorem heldInt64S_b (A : Option Addr) (c n : Nat) (k : Int) (w : World) (hl : n ≤ 10485760) (hk : 0 ≤ k) (hk2 : k ≤ 1000000000000) (hr : RI w A (marks k n)) :
    Calls Try.prog 70 #[.slice A n c, .int .i64 k] w fun e w' => e = .returned (.int .i64 (k + n)) ∧ Below w.heap.size w w' :=
  (heldInt64S_any A c n k w hl hk hk2 hr).mono fun e w' ⟨h1, h2⟩ => ⟨h1, by subst h2; exact Below.refl _ _⟩
end Go.Proofs.Ytpmbojbdppbkgaa

