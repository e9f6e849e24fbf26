/- Texts of contracts, joined. -/
import Derived.Test.YteicllnbphljnaaMgaj
/- Contracts of FirstDifference, of the program and of the model. -/
namespace Go.Proofs.Yteicllnbphljnaa
open Go.RowKit Go.WideShapes Go.ChangeShapes Go.ChangeAt

def difT (m : Int) (d : Nat) (t t' : List (List Int)) : List (List Int) := Pl.tab m d fun i j => Pl.pc t' i j + Pl.pc (Pl.tab m d fun i j => Pl.pc t i j * -1) i j
def difL (m : Int) (d : Nat) (t t' : List (List Int)) (n : Nat) : List Int := layC m (difT m d t t') n
def difC (m : Int) (t t' : List (List Int)) (n k : Nat) : List Int := (List.range k).map fun i => (Pl.pc t' i (n - i) - Pl.pc t i (n - i) + m) % m
theorem difC_length (m : Int) (t t' : List (List Int)) (n k : Nat) : (difC m t t' n k).length = k := by simp [difC]
theorem difC_succ (m : Int) (t t' : List (List Int)) (n k : Nat) : difC m t t' n (k + 1) = difC m t t' n k ++ [(Pl.pc t' k (n - k) - Pl.pc t k (n - k) + m) % m] := by simp [difC, List.range_succ]
theorem difC_all (m : Int) (d : Nat) (t t' : List (List Int)) (n : Nat) (hn : n ≤ d) : difC m t t' n (n + 1) = difL m d t t' n := by
  unfold difC difL layC Ser.cut difT
  refine List.map_congr_left (fun i hi => ?_)
  have hi' : i ≤ n := by rw [List.mem_range] at hi; omega
  dsimp only
  rw [Pl.pc_tab (by omega), Pl.pc_tab (by omega), Int.emod_emod]
  rw [Int.add_emod_emod, Int.add_emod_right]
  congr 1
  omega
/-- the model of FirstDifference -/
def fdiL (m : Int) (t : List (List Int)) (m' : Int) (t' : List (List Int)) : List Int × Int :=
  if codeL2 m t m' t' = 0 then (if agr (eqL m t t') (t.length - 1) 0 + 1 ≤ t.length - 1 then (difL m (t.length - 1) t t' (agr (eqL m t t') (t.length - 1) 0 + 1), 0) else ([], 4)) else ([], codeL2 m t m' t')
theorem fdiL_len (m : Int) (t : List (List Int)) (m' : Int) (t' : List (List Int)) : (fdiL m t m' t').1.length ≤ 1048576 := by
  unfold fdiL
  by_cases h : codeL2 m t m' t' = 0
  · rw [if_pos h]
    obtain ⟨-, d, e, -, ok, -⟩ := codeL2_ok h
    have := ok.d2
    split
    · dsimp only
      unfold difL
      rw [layC_length]; omega
    · exact Nat.zero_le _
  · rw [if_neg h]; exact Nat.zero_le _
set_option maxHeartbeats 8000000 in
set_option maxRecDepth 100000 in
theorem FirstDifference_any (m : Int) (A : Option Addr) (c : Nat) (t : List (List Int)) (m' : Int) (A' : Option Addr) (c' : Nat) (t' : List (List Int)) (w : World) (hz : szT t ≤ 1048576) (hz' : szT t' ≤ 1048576) (hr : RP w A t) (hr' : RP w A' t') :
    Calls Try.prog 57 #[.agg #[.int .i64 m, .slice A t.length c], .agg #[.int .i64 m', .slice A' t'.length c']] w fun e w' => ∃ s, e = .returned (.tuple #[s, .int .i64 (fdiL m t m' t').2]) ∧ OwnI w' w.heap.size s (fdiL m t m' t').1 ∧ Below w.heap.size w w' := by
  obtain ⟨W, hW, b1, b2, b4, hwb⟩ := proTT w m A t.length c m' A' t'.length c'
  have B1 := Lib.hid b1
  have B2 := Lib.hid b2
  have HB := Lib.hid hwb
  have HW := Lib.hid hW
  have hc := codeL2_any (w.heap.size + 1 + 1) m A c t m' A' c' t' W hz hz' (hr.below hwb) (hr'.below hwb) b4
  have hfd := field_frame
  have hfd2 := fun (a b : Value) (W : World) => (show (Instr.field 72 (.agg #[a, b]) 1).run Try.prog W = .ok b W by kernel_rfl)
  by_cases h0 : codeL2 m t m' t' = 0
  · obtain ⟨rfl, d, e1, e2, ok, ok', h1⟩ := codeL2_ok h0
    rw [h0] at hc
    have HC0 := Lib.hid hc
    have HA : Hid (fdiL m t m t' = if agr (eqL m t t') d 0 + 1 ≤ d then (difL m d t t' (agr (eqL m t t') d 0 + 1), 0) else ([], 4)) := Lib.hid (by unfold fdiL; rw [if_pos h0, e1]; rfl)
    rw [HA.out]
    have hd2 := ok.d2
    have HL1 := Lib.hid (fun W0 => lawOf_nat m A t.length c d W0 e1 (by omega))
    have HL2 := Lib.hid (fun W0 => lawOf_nat m A' t'.length c' d W0 e2 (by omega))
    have HG1 := Lib.hid (fun W0 => gridOf_nat m A t.length c d W0 e1 (by omega))
    have HG2 := Lib.hid (fun W0 => gridOf_nat m A' t'.length c' d W0 e2 (by omega))
    have HAG := Lib.hid (fun W0 (h : Below W.heap.size W W0) => agreement_any m d A c t A' c' t' W0 ok ok' h1 ((hr.below hwb).below h) ((hr'.below hwb).below h))
    have HSC := Lib.hid (fun W0 (h : Below W.heap.size W W0) => gscaled_any m d A c t (-1) W0 ok ((hr.below hwb).below h) (by omega) (by omega))
    have HPL := Lib.hid (fun (A1 : Option Addr) (c1 : Nat) W0 (h : Below W.heap.size W W0) (h1 : RP W0 A1 (Pl.tab m d fun i j => Pl.pc t i j * -1)) => gplus_any m d A' c' t' A1 c1 _ W0 ok' (ok.tab _) ((hr'.below hwb).below h) h1)
    have hla := fun (A2 : Option Addr) (c2 n : Nat) W0 (hn : n ≤ d) (h2 : RP W0 A2 (difT m d t t')) => layer_any m d A2 c2 (difT m d t t') n W0 (ok.tab _) h2 hn
    obtain ⟨o, ho⟩ : ∃ o, agr (eqL m t t') d 0 = o := ⟨_, rfl⟩
    have hob : o ≤ 10 := by rw [← ho]; have := (agr_le (eqL m t t') d 0).2; omega
    rw [ho] at HAG ⊢
    obtain ⟨L, hL⟩ : ∃ L, t.length = L := ⟨_, rfl⟩
    obtain ⟨L', hL'⟩ : ∃ L, t'.length = L := ⟨_, rfl⟩
    rw [hL] at HL1 HG1 HAG HSC HW B1 ⊢
    rw [hL'] at HL2 HG2 HAG HPL HW B2 ⊢
    clear b1 b2 b4 hwb hW hr hr' hc h0 ok ok' e1 e2 hz hz' h1 ho hL hL' HA
    obtain ⟨N, hN⟩ : ∃ N, o + 1 = N := ⟨_, rfl⟩
    rw [hN]
    obtain ⟨Z, hZ⟩ : ∃ Z, (if N ≤ d then (difL m d t t' N, (0 : Int)) else ([], 4)) = Z := ⟨_, rfl⟩
    rw [hZ]
    have w1 : IntKind.i64.wrap ((o : Int) + 1) = (N : Int) := by rw [IntKind.wrap_i64]; omega
    have HN := Lib.hid hN
    clear hN
    go_enter Try.func57, Try.ntmps57
    go_wp2_with fail
    rw [HW.out]
    refine HC0.out.mono ?_
    rintro e w1 ⟨rfl, hb1⟩
    have X0 := Lib.hid (bb_keep (below_drew0 w1) ⟨B1.out.keep hb1, B2.out.keep hb1, hb1⟩)
    go_upto_region 4 with fail
    go_cut [7] (fun s7 wx => s7 = .int .i64 N ∧ Below W.heap.size W wx)
    case first =>
      go_region_held3 (fun w' => (w'.cell? ⟨w.heap.size, 0, none⟩ = some (.int .i64 m) ∧ w'.cell? ⟨w.heap.size, 1, none⟩ = some (.slice A L c) ∧ w.heap.size < w'.heap.size) ∧ (w'.cell? ⟨w.heap.size + 1, 0, none⟩ = some (.int .i64 m) ∧ w'.cell? ⟨w.heap.size + 1, 1, none⟩ = some (.slice A' L' c') ∧ w.heap.size + 1 < w'.heap.size) ∧ Below W.heap.size W w') (first | exact X0.out | exact bb_keep hbc (by assumption) | exact bb_keep hbb (by assumption) | exact bb_keep hba (by assumption)) (first
        | (go_at_call 96; with_reducible refine Calls.mono (HL1.out _) ?_; rintro e wa ⟨rfl, hba⟩)
        | (go_at_call 96; with_reducible refine Calls.mono (HL2.out _) ?_; rintro e wb ⟨rfl, hbb⟩)
        | (go_at_call 109; with_reducible refine Calls.mono (HAG.out _ (thr3 (by assumption))) ?_; rintro e wc ⟨rfl, hbc⟩))
      all_goals
        have HB9 := Lib.hid (show Below W.heap.size W wc from thr3 (by assumption))
        go_wp2_with fail
        go_meet
        case rel => exact ⟨rfl, HB9.out⟩
    case rest =>
      obtain ⟨w2, hwc⟩ : ∃ w9, w9 = wc := ⟨_, rfl⟩
      subst hwc
      obtain ⟨rfl, hb2⟩ := hcut
      clear X0 HC0 HL1 HL2 HAG hb1 w1
      obtain ⟨x1, x2, x3⟩ := B1.out.keep hb2
      by_cases hle : N ≤ d
      · rw [if_pos hle] at hZ
        have HLA := Lib.hid (fun A2 c2 W0 (h : Below W.heap.size W W0) h2 => Calls.mono (hla A2 c2 N W0 hle h2) (R' := fun e w' => ∃ v, e = .returned v ∧ OwnI w' W.heap.size v (layC m (difT m d t t') N) ∧ Below W0.heap.size W0 w') (fun e w' ⟨v, h1, h3, h4⟩ => ⟨v, h1, h3.more h.size, h4⟩))
        obtain ⟨S1, hS1⟩ : ∃ S, (Pl.tab m d fun i j => Pl.pc t i j * -1) = S := ⟨_, rfl⟩
        rw [hS1] at HSC HPL
        have hT1 : (Pl.tab m d fun i j => Pl.pc t' i j + Pl.pc S1 i j) = difT m d t t' := by rw [← hS1]; rfl
        rw [hT1] at HPL
        obtain ⟨T1, hT⟩ : ∃ T, difT m d t t' = T := ⟨_, rfl⟩
        rw [hT] at HPL HLA
        have hDL : difL m d t t' N = layC m T1 N := by unfold difL; rw [hT]
        rw [hDL] at hZ
        obtain ⟨R, hR⟩ : ∃ R, layC m T1 N = R := ⟨_, rfl⟩
        rw [hR] at HLA hZ
        have HZ := Lib.hid hZ.symm
        have j1 : ¬ (d : Int) < (N : Int) := by omega
        have j2 : ¬ (N : Int) > (d : Int) := by omega
        clear hla hS1 hT1 hT hDL hR hZ
        go_wp2_with fail
        refine (HG1.out _).mono ?_
        rintro e w3 ⟨rfl, hb3⟩
        have hb23 := below_step hb2 hb3
        have X1 := Lib.hid (bb_keep (below_drew0 w3) ⟨B1.out.keep hb23, B2.out.keep hb23, hb23⟩)
        clear x1 x2 x3
        go_wp2
        go_region_held3 (fun w' => (w'.cell? ⟨w.heap.size, 0, none⟩ = some (.int .i64 m) ∧ w'.cell? ⟨w.heap.size, 1, none⟩ = some (.slice A L c) ∧ w.heap.size < w'.heap.size) ∧ (w'.cell? ⟨w.heap.size + 1, 0, none⟩ = some (.int .i64 m) ∧ w'.cell? ⟨w.heap.size + 1, 1, none⟩ = some (.slice A' L' c') ∧ w.heap.size + 1 < w'.heap.size) ∧ Below W.heap.size W w') (first | exact X1.out | exact bb_keep hbl (by assumption) | exact bb_keep hbp (by assumption) | exact bb_keep hbs (by assumption) | exact bb_keep hbb (by assumption) | exact bb_keep hba (by assumption)) (first
          | (go_at_call 66; with_reducible refine Calls.mono (HG1.out _) ?_; rintro e wa ⟨rfl, hba⟩)
          | (go_at_call 66; with_reducible refine Calls.mono (HG2.out _) ?_; rintro e wb ⟨rfl, hbb⟩)
          | (go_at_call 111; with_reducible refine Calls.mono (HSC.out _ (thr3 (by assumption))) ?_; rintro e ws ⟨vs, rfl, hos, hbs⟩; obtain ⟨As, cs, rfl, -⟩ := hos.len)
          | (go_at_call 110; with_reducible refine Calls.mono (HPL.out _ _ _ (thr3 (by assumption)) (by first | exact hos.rp | exact hos.rp.below hbb)) ?_; rintro e wp ⟨vp, rfl, hop, hbp⟩; obtain ⟨Ap, cp, rfl, -⟩ := hop.len)
          | (go_at_call 112; with_reducible refine Calls.mono (HLA.out _ _ _ (thr3 (by assumption)) hop.rp) ?_; rintro e wl ⟨vl, rfl, hol, hbl⟩; obtain ⟨Al, cl, rfl, -⟩ := hol.form))
        all_goals
          have HBL := Lib.hid (show Below W.heap.size W wl from thr3 (by assumption))
          have HOL := Lib.hid (hol.more (b' := w.heap.size) HB.out.size)
          clear hbl hol hop hbp hos hbs hba hbb
          go_wp2
          go_ret2
          rw [HZ.out]
          exact ⟨_, rfl, HOL.out, below_step HB.out HBL.out⟩
      · rw [if_neg hle] at hZ
        have HZ := Lib.hid hZ.symm
        have j1 : (d : Int) < (N : Int) := by omega
        have j2 : (N : Int) > (d : Int) := by omega
        clear hla HSC HPL HG2 hZ
        go_wp2_with fail
        refine (HG1.out _).mono ?_
        rintro e w3 ⟨rfl, hb3⟩
        have HB3 := Lib.hid (below_step HB.out (below_step hb2 hb3))
        clear hb2 hb3 x1 x2 x3
        go_wp2
        go_ret2
        rw [HZ.out]
        exact ⟨_, rfl, OwnI.nil _ _, HB3.out⟩
  · have HA : Hid (fdiL m t m' t' = ([], codeL2 m t m' t')) := Lib.hid (by unfold fdiL; rw [if_neg h0])
    rw [HA.out]
    obtain ⟨n1, n2⟩ := ne_facts h0
    obtain ⟨C, hC⟩ : ∃ C, codeL2 m t m' t' = C := ⟨_, rfl⟩
    rw [hC] at n1 n2 h0 hc ⊢
    have HC0 := Lib.hid hc
    clear b1 b2 b4 hwb hW hr hr' hz hz' hc hC HA
    go_enter Try.func57, Try.ntmps57
    go_wp2_with fail
    rw [HW.out]
    refine HC0.out.mono ?_
    rintro e w1 ⟨rfl, hb1⟩
    have HB1 := Lib.hid (below_step HB.out hb1)
    clear hb1
    go_wp2
    go_ret2
    exact ⟨_, rfl, OwnI.nil _ _, HB1.out⟩
set_option maxHeartbeats 8000000 in
set_option maxRecDepth 100000 in
theorem sFirstDifference_any (m : Int) (A : Option Addr) (c : Nat) (t : List (List Int)) (m' : Int) (A' : Option Addr) (c' : Nat) (t' : List (List Int)) (w : World) (hz : szT t ≤ 1048576) (hz' : szT t' ≤ 1048576) (hr : RP w A t) (hr' : RP w A' t') :
    Calls Try.prog 56 #[.agg #[.int .i64 m, .slice A t.length c], .agg #[.int .i64 m', .slice A' t'.length c']] w fun e w' => ∃ s, e = .returned (.tuple #[s, .int .i64 (fdiL m t m' t').2]) ∧ OwnI w' w.heap.size s (fdiL m t m' t').1 ∧ Below w.heap.size w w' := by
  obtain ⟨W, hW, b1, b2, hwb⟩ := start2 33 w m A t.length c m' A' t'.length c'
  have B1 := Lib.hid b1
  have B2 := Lib.hid b2
  have HB := Lib.hid hwb
  have HW := Lib.hid hW
  have hc := l04Two_any m A c t m' A' c' t' W hz hz' (hr.below hwb) (hr'.below hwb)
  obtain ⟨x1, x2, -⟩ := B1.out
  obtain ⟨y1, y2, -⟩ := B2.out
  by_cases h0 : codeL2 m t m' t' = 0
  · obtain ⟨rfl, d, e1, e2, ok, ok', h1⟩ := codeL2_ok h0
    rw [h0] at hc
    have HA : Hid (fdiL m t m t' = if agr (eqL m t t') d 0 + 1 ≤ d then (difL m d t t' (agr (eqL m t t') d 0 + 1), 0) else ([], 4)) := Lib.hid (by unfold fdiL; rw [if_pos h0, e1]; rfl)
    rw [HA.out]
    obtain ⟨b, off, rfl⟩ := hr.some (by omega)
    obtain ⟨b', off', rfl⟩ := hr'.some (by omega)
    have HC0 := Lib.hid hc
    have HAG := Lib.hid (fun W0 (h : Below W.heap.size W W0) => l04Agreement_any m d (some ⟨b, off, none⟩) c t (some ⟨b', off', none⟩) c' t' W0 ok ok' ((hr.below hwb).below h) ((hr'.below hwb).below h))
    have HNUM := Lib.hid (rp_num_in (hr.below hwb) ok)
    have HNUM' := Lib.hid (rp_num_in (hr'.below hwb) ok')
    have HP := Lib.hid (fun i j => ok.pc i j)
    have HP' := Lib.hid (fun i j => ok'.pc i j)
    have hd2 := ok.d2
    have m1 := ok.m1
    have m2 := ok.m2
    obtain ⟨o, ho⟩ : ∃ o, agr (eqL m t t') d 0 = o := ⟨_, rfl⟩
    have hob : o ≤ d := by rw [← ho]; have := (agr_le (eqL m t t') d 0).2; omega
    rw [ho] at HAG ⊢
    obtain ⟨N, hN⟩ : ∃ N, o + 1 = N := ⟨_, rfl⟩
    rw [hN]
    obtain ⟨Z, hZ⟩ : ∃ Z, (if N ≤ d then (difL m d t t' N, (0 : Int)) else ([], 4)) = Z := ⟨_, rfl⟩
    rw [hZ]
    have w1 : IntKind.i64.wrap ((o : Int) + 1) = (N : Int) := by rw [IntKind.wrap_i64]; omega
    have hND : N ≤ d + 1 := by omega
    have HDA := Lib.hid (fun (h : N ≤ d) => difC_all m d t t' N h)
    obtain ⟨L, hL⟩ : ∃ L, t.length = L := ⟨_, rfl⟩
    obtain ⟨L', hL'⟩ : ∃ L, t'.length = L := ⟨_, rfl⟩
    rw [hL] at HC0 HAG HW B1 x2 ⊢
    rw [hL'] at HC0 HAG HW B2 y2 ⊢
    obtain rfl : L' = L := by omega
    have hLd : (L' : Int) = (d : Int) + 1 := by omega
    have HLD := Lib.hid hLd
    have hLb : L' ≤ 11 := by omega
    clear b1 b2 hwb hW hr hr' hc h0 ok ok' e1 e2 hz hz' h1 ho hL hL' HA hN hLd
    go_enter Try.func56, Try.ntmps56
    go_wp2_with fail
    rw [HW.out]
    refine HC0.out.mono ?_
    rintro e w1 ⟨rfl, hb1⟩
    clear x1 x2 y1 y2
    obtain ⟨x1, x2, -⟩ := B1.out.keep hb1
    obtain ⟨y1, y2, -⟩ := B2.out.keep hb1
    go_wp2_with fail
    refine (HAG.out _ hb1).mono ?_
    rintro e w2 ⟨rfl, hb2⟩
    have hb12 := below_step hb1 hb2
    clear x1 x2 y1 y2
    have hb3 := below_alloc (.cells #[] 2) hb12
    have HO0 := Lib.hid ((OwnI.lit0 w2).more (b' := W.heap.size) hb12.size)
    have HB3 := Lib.hid hb3
    obtain ⟨X, hX⟩ : ∃ X, w2.alloc (.cells #[] 2) = X := ⟨_, rfl⟩
    rw [hX] at HO0 HB3
    have HX := Lib.hid hX
    obtain ⟨x1, x2, -⟩ := B1.out.keep HB3.out
    rw [← HX.out] at x1 x2
    obtain ⟨G, hG⟩ : ∃ G, w2.heap.size = G := ⟨_, rfl⟩
    rw [hG] at HO0
    clear hb1 hb2 hb12 hb3 hX HC0 HAG
    by_cases hle : N ≤ d
    · rw [if_pos hle] at hZ
      have HZ := Lib.hid hZ.symm
      have hne : ¬ (N : Int) = (L' : Int) := by have := HLD.out; omega
      obtain ⟨n1, n2⟩ : ((N : Int) == (L' : Int)) = false ∧ ((N : Int) != (L' : Int)) = true := ⟨by simpa using hne, by simpa using hne⟩
      clear hZ
      go_wp2
      rw [HX.out]
      clear x1 x2 n1 n2 hne HX w1
      go_loopw [8, 9] (fun s8 s9 wr => ∃ i : Nat, i ≤ N + 1 ∧ s9 = .int .i64 i ∧ OwnI wr W.heap.size s8 (difC m t t' N i) ∧ Below W.heap.size W wr) (fun _ s9 _ => N + 2 - (intOf s9).toNat)
      case atStart => exact ⟨0, Nat.zero_le _, rfl, HO0.out, HB3.out⟩
      case round =>
        clear HO0 HB3
        obtain ⟨i, hi, rfl, hown, hbel⟩ := hrel
        have HO := Lib.hid hown
        have HBE := Lib.hid hbel
        clear hown hbel
        by_cases hil : i ≤ N
        · obtain ⟨q, hq⟩ : ∃ q, N - i = q := ⟨_, rfl⟩
          have HQ := Lib.hid hq
          obtain ⟨b3, o3, c3, M1, hM1, f1, f2⟩ := HNUM.out i q W (by omega) (Below.refl _ _)
          obtain ⟨b4, o4, c4, M2, hM2, f3, f4⟩ := HNUM'.out i q W (by omega) (Below.refl _ _)
          have hst := difC_succ m t t' N i
          rw [hq] at hst
          obtain ⟨hx1, hx2⟩ := HP.out i q
          obtain ⟨hy1, hy2⟩ := HP'.out i q
          obtain ⟨x, hx⟩ : ∃ x, Pl.pc t i q = x := ⟨_, rfl⟩
          obtain ⟨y, hy⟩ : ∃ y, Pl.pc t' i q = y := ⟨_, rfl⟩
          rw [hx] at f2 hst hx1 hx2
          rw [hy] at f4 hst hy1 hy2
          obtain ⟨D, hD⟩ : ∃ D, y - x = D := ⟨_, rfl⟩
          rw [hD] at hst
          obtain ⟨V, hV⟩ : ∃ V, D + m = V := ⟨_, rfl⟩
          rw [hV] at hst
          have hm0 : ¬ m = 0 := by omega
          have r1 := Int.emod_nonneg V hm0
          have r2 := Int.emod_lt_of_pos V (show 0 < m by omega)
          obtain ⟨R, hR⟩ : ∃ R, V % m = R := ⟨_, rfl⟩
          have v1 : IntKind.i64.wrap (y - x) = D := by rw [hD, IntKind.wrap_i64]; omega
          have v2 : IntKind.i64.wrap (D + m) = V := by rw [hV, IntKind.wrap_i64]; omega
          have v3 : V.tmod m = R := by rw [Int.tmod_eq_emod_of_nonneg (by omega)]; exact hR
          rw [hR] at r1 r2 hst
          have v4 : IntKind.i64.wrap R = R := by rw [IntKind.wrap_i64]; omega
          have v5 : IntKind.i64.wrap ((N : Int) - (i : Int)) = (q : Int) := by rw [IntKind.wrap_i64]; omega
          have l1 := World.block_lt_of_cell? _ _ f1
          have l2 := World.block_lt_of_cell? _ _ f2
          have l3 := World.block_lt_of_cell? _ _ f3
          have l4 := World.block_lt_of_cell? _ _ f4
          have HK := Lib.hid (fun W0 (h : Below W.heap.size W W0) => (⟨⟨(B1.out.keep h).1, (B1.out.keep h).2.1⟩, (B2.out.keep h).2.1, (h.cell l1).trans f1, (h.cell l2).trans f2, (h.cell l3).trans f3, (h.cell l4).trans f4⟩ :
            (W0.cell? ⟨w.heap.size, 0, none⟩ = some (.int .i64 m) ∧ W0.cell? ⟨w.heap.size, 1, none⟩ = some (.slice (some ⟨b, off, none⟩) L' c)) ∧ W0.cell? ⟨w.heap.size + 1, 1, none⟩ = some (.slice (some ⟨b', off', none⟩) L' c') ∧ _ ∧ _ ∧ _ ∧ _))
          have HST := Lib.hid hst
          have HLE := Lib.hid (show (difC m t t' N i).length ≤ 1000000000000 by rw [difC_length]; omega)
          have j2 : (0 : Int) ≤ (i : Int) := by omega
          have j3 : (i : Int) ≤ (N : Int) := by omega
          have j4 : (i : Int) < (L' : Int) := by have := HLD.out; omega
          have j5 : (0 : Int) ≤ (q : Int) := by omega
          have j6 : (q : Int) < (M1 : Int) := by omega
          have j7 : (q : Int) < (M2 : Int) := by omega
          have hsz := HBE.out.size
          clear hq hx hy hD hV hR hst l1 l2 l3 l4 f1 f2 f3 f4 hx1 hx2 hy1 hy2 r1 r2 hM1 hM2
          go_wp2
          go_region_held3 (fun w' => (w'.cell? ⟨w.heap.size, 0, none⟩ = some (.int .i64 m) ∧ w'.cell? ⟨w.heap.size, 1, none⟩ = some (.slice (some ⟨b, off, none⟩) L' c)) ∧ w'.cell? ⟨w.heap.size + 1, 1, none⟩ = some (.slice (some ⟨b', off', none⟩) L' c') ∧ w'.cell? ⟨b, off + i, none⟩ = some (.slice (some ⟨b3, o3, none⟩) M1 c3) ∧ w'.cell? ⟨b3, o3 + q, none⟩ = some (.int .i64 x) ∧ w'.cell? ⟨b', off' + i, none⟩ = some (.slice (some ⟨b4, o4, none⟩) M2 c4) ∧ w'.cell? ⟨b4, o4 + q, none⟩ = some (.int .i64 y)) (first | exact HK.out _ (below_step HBE.out (below_drew0 wr)) | exact HK.out _ (below_alloc _ (below_step HBE.out (below_drew0 wr))) | exact HK.out _ (Below.trans (below_alloc _ (below_step HBE.out (below_drew0 wr))) hpb)) (first
            | (refine step_push _ _ _ (by rfl) (by rfl) Try.underlying25 W.heap.size _ _ (by rfl) ((HO.out.drew).alloc _) wr.heap.size R (by rfl) (by simp) HLE.out (by simp; omega) ?_; intro v' w5 ho5 hpb))
          all_goals
            have HB5 := Lib.hid (Below.trans (below_alloc _ (below_step HBE.out (below_drew0 wr))) hpb)
            have HO5 := Lib.hid ho5
            clear ho5 hpb
            go_wp2
            go_roundw
            case rel => exact ⟨i + 1, by omega, by go_num, by rw [HST.out]; exact HO5.out, HB5.out⟩
            case measure => simp only [intOf]; omega
        · obtain rfl : i = N + 1 := by omega
          have ho := HO.out
          rw [HDA.out hle] at ho
          have HOF := Lib.hid (ho.more (b' := w.heap.size) HB.out.size)
          obtain ⟨A9, c9, rfl, -⟩ := ho.form
          have j3 : ¬ ((N + 1 : Nat) : Int) ≤ (N : Int) := by omega
          have j4 : ¬ ((N : Int) + 1) ≤ (N : Int) := by omega
          clear ho HO
          go_wp2
          go_ret2
          rw [HZ.out]
          exact ⟨_, rfl, HOF.out, below_step HB.out HBE.out⟩
    · rw [if_neg hle] at hZ
      have HZ := Lib.hid hZ.symm
      have he : (N : Int) = (L' : Int) := by have := HLD.out; omega
      have he2 : N = L' := by omega
      subst he2
      clear hZ he
      go_wp2
      go_ret2
      rw [HZ.out]
      exact ⟨_, rfl, OwnI.nil _ _, below_step HB.out (by rw [HX.out]; exact HB3.out)⟩
  · have HA : Hid (fdiL m t m' t' = ([], codeL2 m t m' t')) := Lib.hid (by unfold fdiL; rw [if_neg h0])
    rw [HA.out]
    obtain ⟨n1, n2⟩ := ne_facts h0
    obtain ⟨C, hC⟩ : ∃ C, codeL2 m t m' t' = C := ⟨_, rfl⟩
    rw [hC] at n1 n2 h0 hc ⊢
    have HC0 := Lib.hid hc
    clear b1 b2 hwb hW hr hr' hz hz' hc hC HA
    go_enter Try.func56, Try.ntmps56
    go_wp2_with fail
    rw [HW.out]
    refine HC0.out.mono ?_
    rintro e w1 ⟨rfl, hb1⟩
    have HB1 := Lib.hid (below_step HB.out hb1)
    clear hb1 x1 x2 y1 y2
    go_wp2
    go_ret2
    exact ⟨_, rfl, OwnI.nil _ _, HB1.out⟩
end Go.Proofs.Yteicllnbphljnaa

