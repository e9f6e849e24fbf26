/- Contracts of MultiplyPlanes, of the program and of the model. -/
import Derived.Test.YtjgpdgoclianlaaPmu
namespace Go.Proofs.Ytjgpdgoclianlaa
open Go.RowKit Go.WideShapes Go.ChangeShapes Go.ChangeAt

def mulP := twoP fun m d t t' => Pl.tab m d (Pl.mul2 (Pl.pc t) (Pl.pc t'))
theorem mulP_len (m : Int) (t : List (List Int)) (m' : Int) (t' : List (List Int)) : szT (mulP m t m' t').2.1 ≤ 1048576 := twoP_len _ m t m' t' (fun _ h _ => szT_ok (h.tab _))
set_option maxHeartbeats 8000000 in
set_option maxRecDepth 100000 in
theorem MultiplyPlanes_any (m : Int) (A : Option Addr) (c : Nat) (t : List (List Int)) (m' : Int) (A' : Option Addr) (c' : Nat) (t' : List (List Int)) (w : World) (hz : szT t ≤ 1048576) (hz' : szT t' ≤ 1048576) (hr : RP w A t) (hr' : RP w A' t') :
    Calls Try.prog 28 #[.agg #[.int .i64 m, .slice A t.length c], .agg #[.int .i64 m', .slice A' t'.length c']] w fun e w' => ∃ s, e = .returned (.tuple #[.agg #[.int .i64 (mulP m t m' t').1, s], .int .i64 (mulP m t m' t').2.2]) ∧ OwnR w' w.heap.size w'.heap.size s (mulP m t m' t').2.1 ∧ Below w.heap.size w w' := by
  obtain ⟨W, hW, b1, b2, v3, b4, hwb⟩ := pro2P w m A t.length c m' A' t'.length c'
  have B1 := Lib.hid b1
  have B2 := Lib.hid b2
  have V3 := Lib.hid v3
  have HB := Lib.hid hwb
  have HW := Lib.hid hW
  have HC := Lib.hid (codeOfPlanes2_any (w.heap.size + 1 + 1 + 1) m A c t m' A' c' t' W hz hz' (hr.below hwb) (hr'.below hwb) b4)
  by_cases h0 : codeP2 m t m' t' = 0
  · obtain ⟨rfl, d, e1, e2, ok, ok'⟩ := codeP2_ok h0
    have HA : Hid (mulP m t m t' = (m, (Pl.tab m d (Pl.mul2 (Pl.pc t) (Pl.pc t'))), 0)) := Lib.hid (by unfold mulP twoP; rw [if_pos h0, e1]; rfl)
    rw [HA.out]
    have HG := Lib.hid (fun W0 => gridOf_nat m A t.length c d W0 e1 (by have := ok.d2; omega))
    have HG' := Lib.hid (fun W0 => gridOf_nat m A' t'.length c' d W0 e2 (by have := ok.d2; omega))
    have HP := Lib.hid (fun W0 (h : Below W.heap.size W W0) => gtimes_any m d A c t A' c' t' W0 ok ok' ((hr.below hwb).below h) ((hr'.below hwb).below h))
    have hc := HC.out
    rw [h0] at hc
    have HC0 := Lib.hid hc
    obtain ⟨T, hT⟩ : ∃ T, (Pl.tab m d (Pl.mul2 (Pl.pc t) (Pl.pc t'))) = T := ⟨_, rfl⟩
    rw [hT] at HP ⊢
    obtain ⟨L, hL⟩ : ∃ L, t.length = L := ⟨_, rfl⟩
    obtain ⟨L', hL'⟩ : ∃ L, t'.length = L := ⟨_, rfl⟩
    rw [hL] at HG B1
    rw [hL'] at HG' B2
    rw [hL, hL'] at HW HP ⊢
    clear b1 b2 v3 b4 hwb hW hr hr' hc HC h0 ok ok' hT e1 e2 hz hz' hL hL'
    go_enter Try.func28, Try.ntmps28
    go_wp2_with fail
    rw [HW.out]
    refine HC0.out.mono ?_
    rintro e w1 ⟨rfl, hb1⟩
    obtain ⟨x1, x2, x3⟩ := B1.out.keep hb1
    obtain ⟨y1, y2, y3⟩ := B2.out.keep hb1
    go_wp2
    go_region_held3 (fun w' => (w'.cell? ⟨w.heap.size, 0, none⟩ = some (.int .i64 m) ∧ w'.cell? ⟨w.heap.size, 1, none⟩ = some (.slice A L c) ∧ w.heap.size < w'.heap.size) ∧ (w'.cell? ⟨w.heap.size + 1, 0, none⟩ = some (.int .i64 m) ∧ w'.cell? ⟨w.heap.size + 1, 1, none⟩ = some (.slice A' L' c') ∧ w.heap.size + 1 < w'.heap.size)) (first | exact ⟨⟨x1, x2, x3⟩, ⟨y1, y2, y3⟩⟩ | exact box22_store (by omega) (by omega) (by assumption) | exact box22_call hb4 (by assumption) | exact box22_call (by assumption) (by assumption)) (first
      | (go_at_call 55; with_reducible refine Calls.mono (HG.out _) ?_; rintro e2 wa ⟨rfl, hba⟩)
      | (go_at_call 55; with_reducible refine Calls.mono (HG'.out _) ?_; rintro e2 wb ⟨rfl, hbb⟩)
      | (go_at_call 72; refine (HP.out _ (by first | exact below_step (below_step (below_step hb1 (below_drew0 _)) hba) hbb | exact below_step (below_step (below_step hb1 (below_drew0 _)) hbb) hba)).mono ?_; rintro e3 w3 ⟨s, rfl, ho, hb3⟩; obtain ⟨A2, c2, rfl, -⟩ := ho.len)
      | (go_at_call 65; refine (plane_any _ _ _ _ _ _).mono ?_; rintro e4 w4 ⟨rfl, hb4⟩; have hb := (by first | exact below_step (below_step (below_step (below_step (below_step hb1 (below_drew0 _)) hba) hbb) hb3) hb4 | exact below_step (below_step (below_step (below_step (below_step hb1 (below_drew0 _)) hbb) hba) hb3) hb4 : Below W.heap.size W w4); have hv := V3.out.keep hb; obtain ⟨q0, q1, q2, q3⟩ := hv.tells2))
    all_goals
      have hsz := V3.out.lt
      have hs3 : W.heap.size ≤ _ := (by first | exact (below_step (below_step (below_step hb1 (below_drew0 _)) hba) hbb).size | exact (below_step (below_step (below_step hb1 (below_drew0 _)) hbb) hba).size)
      obtain ⟨f0, f1, f2, f3⟩ := fin_plane (w := w) hv (ho.keep hb4) (.inl (by omega)) (by omega) hb4.size (below_step HB.out hb) (.int .i64 m) (.slice A2 T.length c2)
      have F2 := Lib.hid (f2.low (lo' := w.heap.size) (by omega))
      have F3 := Lib.hid f3
      clear f2 f3 hv ho hb
      go_wp2
      exact bodyPost_ret (v := .tuple #[.agg #[.int .i64 m, .slice A2 T.length c2], .int .i64 0]) (by simp [results, Try.results28, go_sem, f0, f1]) rfl ⟨_, rfl, F2.out, F3.out⟩
  · have HA : Hid (mulP m t m' t' = (0, [], codeP2 m t m' t')) := Lib.hid (by unfold mulP twoP; rw [if_neg h0])
    rw [HA.out]
    clear b1 b2 v3 b4 hwb hW hr hr' hz hz'
    obtain ⟨n1, n2⟩ := ne_facts h0
    obtain ⟨C, hC⟩ : ∃ C, codeP2 m t m' t' = C := ⟨_, rfl⟩
    have hc := HC.out
    rw [hC] at n1 n2 h0 hc ⊢
    have HC0 := Lib.hid hc
    clear hc HC hC
    go_enter Try.func28, Try.ntmps28
    go_wp2_with fail
    rw [HW.out]
    refine HC0.out.mono ?_
    rintro e w1 ⟨rfl, hb1⟩
    have hv := V3.out.keep (hb1)
    obtain ⟨q0, q1, q2, q3⟩ := hv.tells2
    obtain ⟨f0, f1, f2, f3⟩ := fin_plane (w := w) hv (OwnR.nil _ w.heap.size 0) (.inr (Nat.zero_le _)) (by omega) (Nat.zero_le _) (below_step HB.out (hb1)) (.int .i64 0) (.slice none 0 0)
    have F2 := Lib.hid f2
    have F3 := Lib.hid f3
    clear f2 f3 hv
    go_wp2
    exact bodyPost_ret (v := .tuple #[.agg #[.int .i64 0, .slice none 0 0], .int .i64 (C)]) (by simp [results, Try.results28, go_sem, f0, f1]) rfl ⟨_, rfl, F2.out, F3.out⟩
set_option maxHeartbeats 8000000 in
set_option maxRecDepth 100000 in
theorem sMultiplyPlanes_any (m : Int) (A : Option Addr) (c : Nat) (t : List (List Int)) (m' : Int) (A' : Option Addr) (c' : Nat) (t' : List (List Int)) (w : World) (hz : szT t ≤ 1048576) (hz' : szT t' ≤ 1048576) (hr : RP w A t) (hr' : RP w A' t') :
    Calls Try.prog 27 #[.agg #[.int .i64 m, .slice A t.length c], .agg #[.int .i64 m', .slice A' t'.length c']] w fun e w' => ∃ s, e = .returned (.tuple #[.agg #[.int .i64 (mulP m t m' t').1, s], .int .i64 (mulP m t m' t').2.2]) ∧ OwnR w' w.heap.size w'.heap.size s (mulP m t m' t').2.1 ∧ Below w.heap.size w w' := by
  obtain ⟨W, hW, b1, b2, v3, hwb⟩ := spro2P w m A t.length c m' A' t'.length c'
  have B1 := Lib.hid b1
  have B2 := Lib.hid b2
  have V3 := Lib.hid v3
  have HB := Lib.hid hwb
  have HW := Lib.hid hW
  have HC := Lib.hid (l03Alike_any m A c t m' A' c' t' W hz hz' (hr.below hwb) (hr'.below hwb))
  by_cases h0 : codeP2 m t m' t' = 0
  · obtain ⟨rfl, d, e1, e2, ok, ok'⟩ := codeP2_ok h0
    have HA : Hid (mulP m t m t' = (m, (Pl.tab m d (Pl.mul2 (Pl.pc t) (Pl.pc t'))), 0)) := Lib.hid (by unfold mulP twoP; rw [if_pos h0, e1]; rfl)
    rw [HA.out]
    have HP := Lib.hid (fun W0 (h : Below W.heap.size W W0) => l03Times_any m d A c t A' c' t' W0 ok ok' ((hr.below hwb).below h) ((hr'.below hwb).below h))
    have hc := HC.out
    rw [h0] at hc
    have HC0 := Lib.hid hc
    obtain ⟨T, hT⟩ : ∃ T, (Pl.tab m d (Pl.mul2 (Pl.pc t) (Pl.pc t'))) = T := ⟨_, rfl⟩
    rw [hT] at HP ⊢
    obtain ⟨L, hL⟩ : ∃ L, t.length = L := ⟨_, rfl⟩
    obtain ⟨L', hL'⟩ : ∃ L, t'.length = L := ⟨_, rfl⟩
    rw [hL] at B1
    rw [hL'] at B2
    rw [hL, hL'] at HW HP HC0 ⊢
    clear b1 b2 v3 hwb hW hr hr' hc HC h0 ok ok' hT hz hz' e1 e2 hL hL'
    go_enter Try.func27, Try.ntmps27
    go_wp2_with fail
    rw [HW.out]
    refine HC0.out.mono ?_
    rintro e w0 ⟨rfl, hb0⟩
    obtain ⟨x1, x2, x3⟩ := B1.out.keep hb0
    obtain ⟨y1, y2, y3⟩ := B2.out.keep hb0
    go_wp2
    go_region_held3 (fun w' => (w'.cell? ⟨w.heap.size, 0, none⟩ = some (.int .i64 m) ∧ w'.cell? ⟨w.heap.size, 1, none⟩ = some (.slice A L c) ∧ w.heap.size < w'.heap.size) ∧ (w'.cell? ⟨w.heap.size + 1, 0, none⟩ = some (.int .i64 m) ∧ w'.cell? ⟨w.heap.size + 1, 1, none⟩ = some (.slice A' L' c') ∧ w.heap.size + 1 < w'.heap.size)) (first | exact ⟨⟨x1, x2, x3⟩, ⟨y1, y2, y3⟩⟩ | exact box22_store (by omega) (by omega) (by assumption) | exact box22_call (by assumption) (by assumption)) (first
      | (go_at_call 71; refine (HP.out _ (below_step hb0 (below_drew0 _))).mono ?_; rintro e2 w2 ⟨s, rfl, ho, hb2⟩; obtain ⟨A2, c2, rfl, _⟩ := ho.len)
      | (go_at_call 61; refine (l03Make_any _ _ _ _ _).mono ?_; rintro e3 w3 ⟨rfl, hb3⟩; have hv := V3.out.keep (below_step (below_step (below_step hb0 (below_drew0 _)) hb2) hb3); obtain ⟨q0, q1, q2, q3⟩ := hv.tells2))
    all_goals
      have hw3 := below_step (below_step (below_step hb0 (below_drew0 _)) hb2) hb3
      have hz1 := (below_step hb0 (below_drew0 _)).size
      have hz2 := V3.out.lt
      obtain ⟨f0, f1, f2, f3⟩ := fin_plane (w := w) hv (ho.keep hb3) (.inl (by omega)) (by omega) hb3.size (below_step HB.out hw3) (.int .i64 m) (.slice A2 T.length c2)
      have F2 := Lib.hid (f2.low (lo' := w.heap.size) (by omega))
      have F3 := Lib.hid f3
      clear f2 f3 ho hb0 hb2 hb3 hv hw3
      go_wp2
      exact bodyPost_ret (v := .tuple #[.agg #[.int .i64 m, .slice A2 T.length c2], .int .i64 0]) (by simp [results, Try.results27, go_sem, f0, f1]) rfl ⟨_, rfl, F2.out, F3.out⟩
  · have HA : Hid (mulP m t m' t' = (0, [], codeP2 m t m' t')) := Lib.hid (by unfold mulP twoP; rw [if_neg h0])
    rw [HA.out]
    clear b1 b2 v3 hwb hW hr hr' hz hz'
    obtain ⟨n1, n2⟩ := ne_facts h0
    obtain ⟨C, hC⟩ : ∃ C, codeP2 m t m' t' = C := ⟨_, rfl⟩
    have hc := HC.out
    rw [hC] at n1 n2 h0 hc ⊢
    have HC0 := Lib.hid hc
    clear hc HC hC
    go_enter Try.func27, Try.ntmps27
    go_wp2_with fail
    rw [HW.out]
    refine HC0.out.mono ?_
    rintro e w1 ⟨rfl, hb1⟩
    have hv := V3.out.keep (hb1)
    obtain ⟨q0, q1, q2, q3⟩ := hv.tells2
    obtain ⟨f0, f1, f2, f3⟩ := fin_plane (w := w) hv (OwnR.nil _ w.heap.size 0) (.inr (Nat.zero_le _)) (by omega) (Nat.zero_le _) (below_step HB.out (hb1)) (.int .i64 0) (.slice none 0 0)
    have F2 := Lib.hid f2
    have F3 := Lib.hid f3
    clear f2 f3 hv
    go_wp2
    exact bodyPost_ret (v := .tuple #[.agg #[.int .i64 0, .slice none 0 0], .int .i64 (C)]) (by simp [results, Try.results27, go_sem, f0, f1]) rfl ⟨_, rfl, F2.out, F3.out⟩
end Go.Proofs.Ytjgpdgoclianlaa
