/- Contracts of AddPlanes, of the program and of the model. -/
import Derived.Test.YtjgpdgoclianlaaGop
import Derived.Test.YtjgpdgoclianlaaRrw
namespace Go.Proofs.Ytjgpdgoclianlaa
open Go.RowKit Go.WideShapes Go.ChangeShapes Go.ChangeAt

theorem add_row {m : Int} {d : Nat} {t t' : List (List Int)} (k : Nat) : Ser.cut m (d - k) (fun j => Pl.pc t k j + Pl.pc t' k j) = addR m (d - k) (Pl.rw' t k) (Pl.rw' t' k) := rfl
set_option maxHeartbeats 2000000 in
set_option maxRecDepth 100000 in
theorem l03Add_any (m : Int) (d : Nat) (A : Option Addr) (c : Nat) (t : List (List Int)) (A' : Option Addr) (c' : Nat) (t' : List (List Int)) (w : World) (hs : Pl.Ok m d t) (hs' : Pl.Ok m d t') (hr : RP w A t) (hr' : RP w A' t') :
    Calls Try.prog 62 #[.int .i64 m, .slice A t.length c, .slice A' t'.length c'] w fun e w' => ∃ v, e = .returned v ∧ OwnR w' w.heap.size w'.heap.size v (Pl.tab m d fun i j => Pl.pc t i j + Pl.pc t' i j) ∧ Below w.heap.size w w' := by
  have HR := Lib.hid hr
  have HR' := Lib.hid hr'
  have HS := Lib.hid hs
  have HS' := Lib.hid hs'
  have hl := hs.len
  have hl' := hs'.len
  have hd2 := hs.d2
  obtain ⟨L, hL⟩ : ∃ L, t.length = L := ⟨_, rfl⟩
  obtain ⟨L', hL'⟩ : ∃ L, t'.length = L := ⟨_, rfl⟩
  have HL := Lib.hid (hL.symm.trans hl)
  have HL' := Lib.hid (hL'.symm.trans hl')
  rw [hL, hL']
  have hLb : L ≤ 11 := by omega
  clear hr hr' hs hs' hL hL' hl hl'
  go_enter Try.func62, Try.ntmps62
  go_wp2
  go_loopw [7, 8] (fun r i wr => ∃ k : Nat, k ≤ L ∧ i = .int .i64 k ∧ OwnR wr w.heap.size wr.heap.size r ((Pl.tab m d fun i j => Pl.pc t i j + Pl.pc t' i j).take k) ∧ Below w.heap.size w wr) (fun _ i _ => L - (intOf i).toNat)
  case atStart => exact ⟨0, Nat.zero_le _, rfl, by simpa using OwnR.none0 w, below_one _ _⟩
  case round =>
    obtain ⟨k, hk, rfl, hown, hbel⟩ := hrel
    have HB := Lib.hid hbel
    have HO := Lib.hid hown
    have hsz := hbel.size
    clear hown
    by_cases hlt : k < L
    · have hLd := HL.out
      have hLd' := HL'.out
      obtain ⟨b, off, A1, c1, rfl, hb, hc, -, hri⟩ := HR.out.at k (by rw [HS.out.len]; omega)
      obtain ⟨b', off', A2, c2, rfl, hb', hc', -, hri'⟩ := HR'.out.at k (by rw [HS'.out.len]; omega)
      have e1 := (hbel.cell (p := ⟨b, off + k, none⟩) hb).trans hc
      have e2 := (hbel.cell (p := ⟨b', off' + k, none⟩) hb').trans hc'
      have HA : Hid (∀ W : World, Below w.heap.size w W → Calls Try.prog 105 #[.int .i64 m, .slice A1 (Pl.rw' t k).length c1, .slice A2 (Pl.rw' t' k).length c2] W fun e w' => ∃ v, e = .returned v ∧ OwnI w' W.heap.size v (addR m (d - k) (Pl.rw' t k) (Pl.rw' t' k)) ∧ Below W.heap.size W w') :=
        Lib.hid (fun W hW => l02AddR_any m (d - k) A1 c1 _ A2 c2 _ W (HS.out.rowOk k (by omega)) (HS'.out.rowOk k (by omega)) (hri.below hW) (hri'.below hW))
      have hst : (Pl.tab m d fun i j => Pl.pc t i j + Pl.pc t' i j).take (k + 1) = (Pl.tab m d fun i j => Pl.pc t i j + Pl.pc t' i j).take k ++ [addR m (d - k) (Pl.rw' t k) (Pl.rw' t' k)] := by rw [Pl.tab_take_succ m d _ k (by omega), add_row]
      have HLEN := Lib.hid (show ((Pl.tab m d fun i j => Pl.pc t i j + Pl.pc t' i j).take k).length ≤ 1000000000000 by rw [List.length_take, Pl.tab_length]; omega)
      obtain ⟨N, hN⟩ : ∃ N, (Pl.rw' t k).length = N := ⟨_, rfl⟩
      obtain ⟨N', hN'⟩ : ∃ N, (Pl.rw' t' k).length = N := ⟨_, rfl⟩
      obtain ⟨row, hrow⟩ : ∃ row, addR m (d - k) (Pl.rw' t k) (Pl.rw' t' k) = row := ⟨_, rfl⟩
      rw [hrow] at HA hst
      rw [hN] at e1 hc HA
      rw [hN'] at e2 hc' HA
      have HST := Lib.hid hst
      have C1 := Lib.hid hc
      have C2 := Lib.hid hc'
      have j0 : (0 : Int) ≤ (k : Int) := by omega
      have j1 : (k : Int) < (L : Int) := by omega
      have j2 : (k : Int) < (L' : Int) := by omega
      clear hst hN hN' hrow hri hri' hc hc' hLd hLd' hbel
      go_wp2
      go_region_held3 (fun w' => w'.cell? ⟨b, off + k, none⟩ = some (.slice A1 N c1) ∧ w'.cell? ⟨b', off' + k, none⟩ = some (.slice A2 N' c2)) (first | exact ⟨e1, e2⟩ | exact kp_call hb5 ⟨e1, e2⟩ | exact ⟨(hB6.cell hb).trans C1.out, (hB6.cell hb').trans C2.out⟩ | exact kp_call (below_one _ _) (by assumption)) (first
        | (go_at_call 105; refine (HA.out _ HB.out.drew).mono ?_; rintro e w5 ⟨u, rfl, hou, hb5⟩; obtain ⟨Au, cu, rfl, -⟩ := hou.form)
        | (refine step_pushU _ _ _ (by rfl) (by rfl) Try.underlying22 w.heap.size wr.heap.size _ _ (by rfl) (HO.out.keep ((below_step (below_drew0 wr) hb5).trans ((below_one w5 _).mono hb5.size))) (Nat.le_trans hb5.size (below_one w5 _).size) _ row ((hou.alloc _).more hsz) (fun g hg => (hou.lt g hg).1) w5.heap.size (by rfl) (by rw [World.cell?_alloc_at _ _ _ _ rfl]; rfl) HLEN.out (Nat.le_trans hsz (Nat.le_trans hb5.size (below_one w5 _).size)) ?_; intro v' w1 ho1 hpb; have hB6 : Below w.heap.size w w1 := ((HB.out.drew.trans (hb5.mono hsz)).trans ((below_one w5 (.cells #[.slice Au row.length cu] 45)).mono (Nat.le_trans hsz hb5.size))).trans hpb))
      all_goals
        have HB1 := Lib.hid hB6
        have HO1 := Lib.hid ho1
        clear hB6 ho1 hpb hou hb5
        go_wp2
        go_roundw
        case rel => exact ⟨k + 1, by omega, by go_num, by rw [HST.out]; exact HO1.out, HB1.out⟩
        case measure => simp only [intOf]; omega
    · obtain rfl : k = L := by omega
      have ho := HO.out
      rw [HL.out, Pl.tab_take_all] at ho
      have HF := Lib.hid ho
      clear ho
      go_wp2
      go_ret
      exact ⟨_, rfl, HF.out, HB.out⟩
def addP := twoP fun m d t t' => Pl.tab m d fun i j => Pl.pc t i j + Pl.pc t' i j
theorem addP_len (m : Int) (t : List (List Int)) (m' : Int) (t' : List (List Int)) : szT (addP m t m' t').2.1 ≤ 1048576 := twoP_len _ m t m' t' (fun _ h _ => szT_ok (h.tab _))
set_option maxHeartbeats 8000000 in
set_option maxRecDepth 100000 in
theorem AddPlanes_any (m : Int) (A : Option Addr) (c : Nat) (t : List (List Int)) (m' : Int) (A' : Option Addr) (c' : Nat) (t' : List (List Int)) (w : World) (hz : szT t ≤ 1048576) (hz' : szT t' ≤ 1048576) (hr : RP w A t) (hr' : RP w A' t') :
    Calls Try.prog 22 #[.agg #[.int .i64 m, .slice A t.length c], .agg #[.int .i64 m', .slice A' t'.length c']] w fun e w' => ∃ s, e = .returned (.tuple #[.agg #[.int .i64 (addP m t m' t').1, s], .int .i64 (addP m t m' t').2.2]) ∧ OwnR w' w.heap.size w'.heap.size s (addP m t m' t').2.1 ∧ Below w.heap.size w w' := by
  obtain ⟨W, hW, b1, b2, v3, b4, hwb⟩ := pro2P w m A t.length c m' A' t'.length c'
  have B1 := Lib.hid b1
  have B2 := Lib.hid b2
  have V3 := Lib.hid v3
  have HB := Lib.hid hwb
  have HW := Lib.hid hW
  have HC := Lib.hid (codeOfPlanes2_any (w.heap.size + 1 + 1 + 1) m A c t m' A' c' t' W hz hz' (hr.below hwb) (hr'.below hwb) b4)
  by_cases h0 : codeP2 m t m' t' = 0
  · obtain ⟨rfl, d, e1, e2, ok, ok'⟩ := codeP2_ok h0
    have HA : Hid (addP m t m t' = (m, (Pl.tab m d fun i j => Pl.pc t i j + Pl.pc t' i j), 0)) := Lib.hid (by unfold addP twoP; rw [if_pos h0, e1]; rfl)
    rw [HA.out]
    have HG := Lib.hid (fun W0 => gridOf_nat m A t.length c d W0 e1 (by have := ok.d2; omega))
    have HG' := Lib.hid (fun W0 => gridOf_nat m A' t'.length c' d W0 e2 (by have := ok.d2; omega))
    have HP := Lib.hid (fun W0 (h : Below W.heap.size W W0) => gplus_any m d A c t A' c' t' W0 ok ok' ((hr.below hwb).below h) ((hr'.below hwb).below h))
    have hc := HC.out
    rw [h0] at hc
    have HC0 := Lib.hid hc
    obtain ⟨T, hT⟩ : ∃ T, (Pl.tab m d fun i j => Pl.pc t i j + Pl.pc t' i j) = T := ⟨_, rfl⟩
    rw [hT] at HP ⊢
    obtain ⟨L, hL⟩ : ∃ L, t.length = L := ⟨_, rfl⟩
    obtain ⟨L', hL'⟩ : ∃ L, t'.length = L := ⟨_, rfl⟩
    rw [hL] at HG B1
    rw [hL'] at HG' B2
    rw [hL, hL'] at HW HP ⊢
    clear b1 b2 v3 b4 hwb hW hr hr' hc HC h0 ok ok' hT e1 e2 hz hz' hL hL'
    go_enter Try.func22, Try.ntmps22
    go_wp2_with fail
    rw [HW.out]
    refine HC0.out.mono ?_
    rintro e w1 ⟨rfl, hb1⟩
    obtain ⟨x1, x2, x3⟩ := B1.out.keep hb1
    obtain ⟨y1, y2, y3⟩ := B2.out.keep hb1
    go_wp2
    go_region_held3 (fun w' => (w'.cell? ⟨w.heap.size, 0, none⟩ = some (.int .i64 m) ∧ w'.cell? ⟨w.heap.size, 1, none⟩ = some (.slice A L c) ∧ w.heap.size < w'.heap.size) ∧ (w'.cell? ⟨w.heap.size + 1, 0, none⟩ = some (.int .i64 m) ∧ w'.cell? ⟨w.heap.size + 1, 1, none⟩ = some (.slice A' L' c') ∧ w.heap.size + 1 < w'.heap.size)) (first | exact ⟨⟨x1, x2, x3⟩, ⟨y1, y2, y3⟩⟩ | exact box22_store (by omega) (by omega) (by assumption) | exact box22_call hb4 (by assumption) | exact box22_call (by assumption) (by assumption)) (first
      | (go_at_call 55; with_reducible refine Calls.mono (HG.out _) ?_; rintro e2 wa ⟨rfl, hba⟩)
      | (go_at_call 55; with_reducible refine Calls.mono (HG'.out _) ?_; rintro e2 wb ⟨rfl, hbb⟩)
      | (go_at_call 64; refine (HP.out _ (by first | exact below_step (below_step (below_step hb1 (below_drew0 _)) hba) hbb | exact below_step (below_step (below_step hb1 (below_drew0 _)) hbb) hba)).mono ?_; rintro e3 w3 ⟨s, rfl, ho, hb3⟩; obtain ⟨A2, c2, rfl, -⟩ := ho.len)
      | (go_at_call 65; refine (plane_any _ _ _ _ _ _).mono ?_; rintro e4 w4 ⟨rfl, hb4⟩; have hb := (by first | exact below_step (below_step (below_step (below_step (below_step hb1 (below_drew0 _)) hba) hbb) hb3) hb4 | exact below_step (below_step (below_step (below_step (below_step hb1 (below_drew0 _)) hbb) hba) hb3) hb4 : Below W.heap.size W w4); have hv := V3.out.keep hb; obtain ⟨q0, q1, q2, q3⟩ := hv.tells2))
    all_goals
      have hsz := V3.out.lt
      have hs3 : W.heap.size ≤ _ := (by first | exact (below_step (below_step (below_step hb1 (below_drew0 _)) hba) hbb).size | exact (below_step (below_step (below_step hb1 (below_drew0 _)) hbb) hba).size)
      obtain ⟨f0, f1, f2, f3⟩ := fin_plane (w := w) hv (ho.keep hb4) (.inl (by omega)) (by omega) hb4.size (below_step HB.out hb) (.int .i64 m) (.slice A2 T.length c2)
      have F2 := Lib.hid (f2.low (lo' := w.heap.size) (by omega))
      have F3 := Lib.hid f3
      clear f2 f3 hv ho hb
      go_wp2
      exact bodyPost_ret (v := .tuple #[.agg #[.int .i64 m, .slice A2 T.length c2], .int .i64 0]) (by simp [results, Try.results22, go_sem, f0, f1]) rfl ⟨_, rfl, F2.out, F3.out⟩
  · have HA : Hid (addP m t m' t' = (0, [], codeP2 m t m' t')) := Lib.hid (by unfold addP twoP; rw [if_neg h0])
    rw [HA.out]
    clear b1 b2 v3 b4 hwb hW hr hr' hz hz'
    obtain ⟨n1, n2⟩ := ne_facts h0
    obtain ⟨C, hC⟩ : ∃ C, codeP2 m t m' t' = C := ⟨_, rfl⟩
    have hc := HC.out
    rw [hC] at n1 n2 h0 hc ⊢
    have HC0 := Lib.hid hc
    clear hc HC hC
    go_enter Try.func22, Try.ntmps22
    go_wp2_with fail
    rw [HW.out]
    refine HC0.out.mono ?_
    rintro e w1 ⟨rfl, hb1⟩
    have hv := V3.out.keep (hb1)
    obtain ⟨q0, q1, q2, q3⟩ := hv.tells2
    obtain ⟨f0, f1, f2, f3⟩ := fin_plane (w := w) hv (OwnR.nil _ w.heap.size 0) (.inr (Nat.zero_le _)) (by omega) (Nat.zero_le _) (below_step HB.out (hb1)) (.int .i64 0) (.slice none 0 0)
    have F2 := Lib.hid f2
    have F3 := Lib.hid f3
    clear f2 f3 hv
    go_wp2
    exact bodyPost_ret (v := .tuple #[.agg #[.int .i64 0, .slice none 0 0], .int .i64 (C)]) (by simp [results, Try.results22, go_sem, f0, f1]) rfl ⟨_, rfl, F2.out, F3.out⟩
set_option maxHeartbeats 8000000 in
set_option maxRecDepth 100000 in
theorem sAddPlanes_any (m : Int) (A : Option Addr) (c : Nat) (t : List (List Int)) (m' : Int) (A' : Option Addr) (c' : Nat) (t' : List (List Int)) (w : World) (hz : szT t ≤ 1048576) (hz' : szT t' ≤ 1048576) (hr : RP w A t) (hr' : RP w A' t') :
    Calls Try.prog 21 #[.agg #[.int .i64 m, .slice A t.length c], .agg #[.int .i64 m', .slice A' t'.length c']] w fun e w' => ∃ s, e = .returned (.tuple #[.agg #[.int .i64 (addP m t m' t').1, s], .int .i64 (addP m t m' t').2.2]) ∧ OwnR w' w.heap.size w'.heap.size s (addP m t m' t').2.1 ∧ Below w.heap.size w w' := by
  obtain ⟨W, hW, b1, b2, v3, hwb⟩ := spro2P w m A t.length c m' A' t'.length c'
  have B1 := Lib.hid b1
  have B2 := Lib.hid b2
  have V3 := Lib.hid v3
  have HB := Lib.hid hwb
  have HW := Lib.hid hW
  have HC := Lib.hid (l03Alike_any m A c t m' A' c' t' W hz hz' (hr.below hwb) (hr'.below hwb))
  by_cases h0 : codeP2 m t m' t' = 0
  · obtain ⟨rfl, d, e1, e2, ok, ok'⟩ := codeP2_ok h0
    have HA : Hid (addP m t m t' = (m, (Pl.tab m d fun i j => Pl.pc t i j + Pl.pc t' i j), 0)) := Lib.hid (by unfold addP twoP; rw [if_pos h0, e1]; rfl)
    rw [HA.out]
    have HP := Lib.hid (fun W0 (h : Below W.heap.size W W0) => l03Add_any m d A c t A' c' t' W0 ok ok' ((hr.below hwb).below h) ((hr'.below hwb).below h))
    have hc := HC.out
    rw [h0] at hc
    have HC0 := Lib.hid hc
    obtain ⟨T, hT⟩ : ∃ T, (Pl.tab m d fun i j => Pl.pc t i j + Pl.pc t' i j) = T := ⟨_, rfl⟩
    rw [hT] at HP ⊢
    obtain ⟨L, hL⟩ : ∃ L, t.length = L := ⟨_, rfl⟩
    obtain ⟨L', hL'⟩ : ∃ L, t'.length = L := ⟨_, rfl⟩
    rw [hL] at B1
    rw [hL'] at B2
    rw [hL, hL'] at HW HP HC0 ⊢
    clear b1 b2 v3 hwb hW hr hr' hc HC h0 ok ok' hT hz hz' e1 e2 hL hL'
    go_enter Try.func21, Try.ntmps21
    go_wp2_with fail
    rw [HW.out]
    refine HC0.out.mono ?_
    rintro e w0 ⟨rfl, hb0⟩
    obtain ⟨x1, x2, x3⟩ := B1.out.keep hb0
    obtain ⟨y1, y2, y3⟩ := B2.out.keep hb0
    go_wp2
    go_region_held3 (fun w' => (w'.cell? ⟨w.heap.size, 0, none⟩ = some (.int .i64 m) ∧ w'.cell? ⟨w.heap.size, 1, none⟩ = some (.slice A L c) ∧ w.heap.size < w'.heap.size) ∧ (w'.cell? ⟨w.heap.size + 1, 0, none⟩ = some (.int .i64 m) ∧ w'.cell? ⟨w.heap.size + 1, 1, none⟩ = some (.slice A' L' c') ∧ w.heap.size + 1 < w'.heap.size)) (first | exact ⟨⟨x1, x2, x3⟩, ⟨y1, y2, y3⟩⟩ | exact box22_store (by omega) (by omega) (by assumption) | exact box22_call (by assumption) (by assumption)) (first
      | (go_at_call 62; refine (HP.out _ (below_step hb0 (below_drew0 _))).mono ?_; rintro e2 w2 ⟨s, rfl, ho, hb2⟩; obtain ⟨A2, c2, rfl, _⟩ := ho.len)
      | (go_at_call 61; refine (l03Make_any _ _ _ _ _).mono ?_; rintro e3 w3 ⟨rfl, hb3⟩; have hv := V3.out.keep (below_step (below_step (below_step hb0 (below_drew0 _)) hb2) hb3); obtain ⟨q0, q1, q2, q3⟩ := hv.tells2))
    all_goals
      have hw3 := below_step (below_step (below_step hb0 (below_drew0 _)) hb2) hb3
      have hz1 := (below_step hb0 (below_drew0 _)).size
      have hz2 := V3.out.lt
      obtain ⟨f0, f1, f2, f3⟩ := fin_plane (w := w) hv (ho.keep hb3) (.inl (by omega)) (by omega) hb3.size (below_step HB.out hw3) (.int .i64 m) (.slice A2 T.length c2)
      have F2 := Lib.hid (f2.low (lo' := w.heap.size) (by omega))
      have F3 := Lib.hid f3
      clear f2 f3 ho hb0 hb2 hb3 hv hw3
      go_wp2
      exact bodyPost_ret (v := .tuple #[.agg #[.int .i64 m, .slice A2 T.length c2], .int .i64 0]) (by simp [results, Try.results21, go_sem, f0, f1]) rfl ⟨_, rfl, F2.out, F3.out⟩
  · have HA : Hid (addP m t m' t' = (0, [], codeP2 m t m' t')) := Lib.hid (by unfold addP twoP; rw [if_neg h0])
    rw [HA.out]
    clear b1 b2 v3 hwb hW hr hr' hz hz'
    obtain ⟨n1, n2⟩ := ne_facts h0
    obtain ⟨C, hC⟩ : ∃ C, codeP2 m t m' t' = C := ⟨_, rfl⟩
    have hc := HC.out
    rw [hC] at n1 n2 h0 hc ⊢
    have HC0 := Lib.hid hc
    clear hc HC hC
    go_enter Try.func21, Try.ntmps21
    go_wp2_with fail
    rw [HW.out]
    refine HC0.out.mono ?_
    rintro e w1 ⟨rfl, hb1⟩
    have hv := V3.out.keep (hb1)
    obtain ⟨q0, q1, q2, q3⟩ := hv.tells2
    obtain ⟨f0, f1, f2, f3⟩ := fin_plane (w := w) hv (OwnR.nil _ w.heap.size 0) (.inr (Nat.zero_le _)) (by omega) (Nat.zero_le _) (below_step HB.out (hb1)) (.int .i64 0) (.slice none 0 0)
    have F2 := Lib.hid f2
    have F3 := Lib.hid f3
    clear f2 f3 hv
    go_wp2
    exact bodyPost_ret (v := .tuple #[.agg #[.int .i64 0, .slice none 0 0], .int .i64 (C)]) (by simp [results, Try.results21, go_sem, f0, f1]) rfl ⟨_, rfl, F2.out, F3.out⟩
end Go.Proofs.Ytjgpdgoclianlaa
