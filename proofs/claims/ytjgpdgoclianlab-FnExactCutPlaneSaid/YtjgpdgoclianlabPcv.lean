/- Contracts of CutPlane and ChangePlane, of the model. -/
import Derived.Test.YtjgpdgoclianlabPcu
import Derived.Test.YtjgpdgoclianlabRrw
import Derived.Test.YtjgpdgoclianlabCut
namespace Go.Proofs.Ytjgpdgoclianlab
open Go.RowKit Go.WideShapes Go.ChangeShapes Go.ChangeAt

theorem cut_row {m : Int} {d : Nat} {t : List (List Int)} (hs : Pl.Ok m d t) (e q : Nat) (he : e ≤ d) (hq : q ≤ e) : Ser.cut m (e - q) (Pl.pc t q) = (Pl.rw' t q).take (e - q + 1) := by
  refine Ser.list_ext (by rw [Ser.cut_length, List.length_take, hs.row q (by omega)]; omega) (fun i hi => ?_)
  rw [Ser.cut_length] at hi
  rw [Ser.co_cut (by omega), Int.emod_eq_of_lt (hs.pc q i).1 (hs.pc q i).2]
  unfold Pl.pc Ser.co
  rw [List.getElem?_take_of_lt (by omega)]
set_option maxHeartbeats 2000000 in
set_option maxRecDepth 100000 in
theorem l03Cut_any (m : Int) (d : Nat) (A : Option Addr) (c : Nat) (t : List (List Int)) (e : Nat) (w : World) (hs : Pl.Ok m d t) (hr : RP w A t) (he : e ≤ d) :
    Calls Try.prog 89 #[.slice A t.length c, .int .i64 e] w fun e' w' => ∃ v, e' = .returned v ∧ OwnR w' w.heap.size w'.heap.size v (Pl.tab m e (Pl.pc t)) ∧ Below w.heap.size w w' := by
  have HR := Lib.hid hr
  have HS := Lib.hid hs
  have hl := hs.len
  have hd2 := hs.d2
  obtain ⟨L, hL⟩ : ∃ L, t.length = L := ⟨_, rfl⟩
  have HL := Lib.hid (hL.symm.trans hl)
  have hLb : L ≤ 11 := by omega
  have HE := Lib.hid he
  have heb : e ≤ 10 := by omega
  rw [hL]
  clear hr hs hL hl he
  go_enter Try.func89, Try.ntmps89
  go_wp2
  go_loopw [5, 6] (fun r i wr => ∃ q : Nat, q ≤ e + 1 ∧ i = .int .i64 q ∧ OwnR wr w.heap.size wr.heap.size r ((Pl.tab m e (Pl.pc t)).take q) ∧ Below w.heap.size w wr) (fun _ i _ => e + 1 - (intOf i).toNat)
  case atStart => exact ⟨0, Nat.zero_le _, rfl, by simpa using OwnR.none0 w, below_one _ _⟩
  case round =>
    obtain ⟨q, hq, rfl, hown, hbel⟩ := hrel
    have HB := Lib.hid hbel
    have HO := Lib.hid hown
    have hsz := hbel.size
    clear hown
    by_cases hlt : q < e + 1
    · have hLd := HL.out
      have hed := HE.out
      obtain ⟨b, off, A1, c1, rfl, hb, hc, hcap, hri⟩ := HR.out.at q (by rw [HS.out.len]; omega)
      have e1 := (hbel.cell (p := ⟨b, off + q, none⟩) hb).trans hc
      have hrl := HS.out.row q (by omega)
      obtain ⟨row, hrow⟩ : ∃ row, (Pl.rw' t q).take (e - q + 1) = row := ⟨_, rfl⟩
      have hrowl : row.length = e - q + 1 := by rw [← hrow, List.length_take, hrl]; omega
      have hst : (Pl.tab m e (Pl.pc t)).take (q + 1) = (Pl.tab m e (Pl.pc t)).take q ++ [row] := by rw [Pl.tab_take_succ m e _ q (by omega), cut_row HS.out e q hed (by omega), hrow]
      have HA := Lib.hid (l01Own_any A1 c1 row wr (by intro h; rw [h] at hrowl; simp at hrowl) (by omega) (by rw [← hrow]; exact (hri.below hbel).take _))
      have HLEN := Lib.hid (show ((Pl.tab m e (Pl.pc t)).take q).length ≤ 1000000000000 by rw [List.length_take, Pl.tab_length]; omega)
      obtain ⟨M, hM⟩ : ∃ M, row.length = M := ⟨_, rfl⟩
      obtain ⟨N, hN⟩ : ∃ N, (Pl.rw' t q).length = N := ⟨_, rfl⟩
      rw [hM] at HA
      rw [hN] at e1 hcap hrl
      obtain ⟨b1, off1, hA1⟩ : ∃ b1 off1, A1 = some ⟨b1, off1, none⟩ := by
        obtain ⟨b1, off1, h1, _⟩ := hri.at 0 (by rw [hN]; omega)
        exact ⟨b1, off1, h1⟩
      subst hA1
      have HST := Lib.hid hst
      have HMM := Lib.hid hM
      have j0 : (0 : Int) ≤ (q : Int) := by omega
      have j1 : (q : Int) < (L : Int) := by omega
      have j2 : (q : Int) ≤ (e : Int) := by omega
      have j3 : (e : Int) - (q : Int) + 1 = (M : Int) := by omega
      have j4 : M ≤ c1 := by omega
      have j5 : (M : Int) ≤ (c1 : Int) := by omega
      have j6 : M ≤ 11 := by omega
      clear hst hrow hri hc hLd hbel hrowl hM hN hrl hcap hed
      go_wp2_with fail
      refine HA.out.mono ?_
      rintro e' w5 ⟨u, rfl, hou, hb5⟩
      obtain ⟨Au, cu, rfl, -⟩ := hou.form
      go_wp2_with (at_builtin; refine wp_pushU _ _ _ (by rfl) (by rfl) Try.underlying22 w.heap.size wr.heap.size _ _ (by rfl) (HO.out.keep hb5) hb5.size (.slice Au row.length cu) row (hou.more hsz) (fun g hg => (hou.lt g hg).1) w5.heap.size rfl (by rfl) HLEN.out (Nat.le_trans hsz hb5.size) ?_; intro v' w1 ho1 hpb)
      have HB1 := Lib.hid ((HB.out.trans (hb5.mono hsz)).trans hpb)
      have HO1 := Lib.hid ho1
      clear ho1 hpb hou hb5
      go_wp2
      go_roundw
      case rel => exact ⟨q + 1, by omega, by go_num, by rw [HST.out]; exact HO1.out, HB1.out⟩
      case measure => simp only [intOf]; omega
    · obtain rfl : q = e + 1 := by omega
      have ho := HO.out
      rw [Pl.tab_take_all] at ho
      have HF := Lib.hid ho
      clear ho
      go_wp2
      go_ret
      exact ⟨_, rfl, HF.out, HB.out⟩
set_option maxHeartbeats 4000000 in
set_option maxRecDepth 100000 in
theorem sCutPlane_any (m : Int) (A : Option Addr) (c : Nat) (t : List (List Int)) (k : Int) (w : World) (hz : szT t ≤ 1048576) (hr : RP w A t) :
    Calls Try.prog 18 #[.agg #[.int .i64 m, .slice A t.length c], .int .i64 k] w fun e w' => ∃ s, e = .returned (.tuple #[.agg #[.int .i64 (cutP m t k).1, s], .int .i64 (cutP m t k).2.2]) ∧ OwnR w' w.heap.size w'.heap.size s (cutP m t k).2.1 ∧ Below w.heap.size w w' := by
  obtain ⟨W, hW, b1, v3, hwb⟩ := spro1P w m A t.length c
  have B1 := Lib.hid b1
  have V3 := Lib.hid v3
  have HB := Lib.hid hwb
  have HW := Lib.hid hW
  have HC := Lib.hid (l03Is_z m A c t W hz (hr.below hwb))
  by_cases h0 : isP m t = true
  · obtain ⟨d, e1, ok⟩ := plOk_of h0
    have hc := HC.out
    rw [h0] at hc
    have HC0 := Lib.hid hc
    have HG := Lib.hid (fun W0 => l03Degree_any m A t.length c d W0 e1 (by have := ok.d2; omega))
    have he : (t.length : Int) - 1 = (d : Int) := by omega
    have hd2 := ok.d2
    by_cases hk : inB k 1 (d : Int) = true
    · obtain ⟨k1, k2⟩ := (inB_iff _ _ _).1 hk
      obtain ⟨q, hq⟩ : ∃ q : Nat, (q : Int) = k := ⟨k.toNat, by omega⟩
      subst hq
      have HI := Lib.hid (fun W0 => by have := l01In_any (q : Int) 1 (d : Int) W0; rw [hk] at this; exact this)
      have HA : Hid (cutP m t (q : Int) = (m, Pl.tab m q (Pl.pc t), 0)) := Lib.hid (by unfold cutP; rw [if_pos h0, he, if_pos hk, show (q : Int).toNat = q by omega])
      rw [HA.out]
      have HP := Lib.hid (fun W0 (h : Below W.heap.size W W0) => l03Cut_any m d A c t q W0 ok ((hr.below hwb).below h) (by omega))
      obtain ⟨T, hT⟩ : ∃ T, Pl.tab m q (Pl.pc t) = T := ⟨_, rfl⟩
      rw [hT] at HP ⊢
      obtain ⟨L, hL⟩ : ∃ L, t.length = L := ⟨_, rfl⟩
      rw [hL] at HG B1 HW HP HC0 ⊢
      clear b1 v3 hwb hW hr hc HC h0 ok e1 hk hT hL he hz
      go_enter Try.func18, Try.ntmps18
      go_wp2_with fail
      rw [HW.out]
      refine HC0.out.mono ?_
      rintro e w1 ⟨rfl, hb1⟩
      obtain ⟨y1, y2, y3⟩ := B1.out.keep hb1
      go_wp2_with fail
      refine (HG.out _).mono ?_
      rintro e w2 ⟨rfl, hb2⟩
      go_wp2_with fail
      refine (HI.out _).mono ?_
      rintro e w' ⟨rfl, rfl⟩
      have hb0 := below_step hb1 hb2
      clear y1 y2 y3 hb2
      obtain ⟨x1, x2, x3⟩ := B1.out.keep hb0
      go_wp2
      go_region_held3 (fun w' => w'.cell? ⟨w.heap.size, 0, none⟩ = some (.int .i64 m) ∧ w'.cell? ⟨w.heap.size, 1, none⟩ = some (.slice A L c) ∧ w.heap.size < w'.heap.size) (first | exact ⟨x1, x2, x3⟩ | exact box_store (by omega) (by assumption) | exact box_call (by assumption) (by assumption)) (first
        | (go_at_call 89; refine (HP.out _ (below_step hb0 (below_drew0 _))).mono ?_; rintro e2 w2 ⟨s, rfl, ho, hb2⟩; obtain ⟨A2, c2, rfl, _⟩ := ho.len)
        | (go_at_call 88; refine (l03Make_any _ _ _ _ _).mono ?_; rintro e3 w3 ⟨rfl, hb3⟩; have hv := V3.out.keep (below_step (below_step (below_step hb0 (below_drew0 _)) hb2) hb3); obtain ⟨q0, q1, q2, q3⟩ := hv.tells2))
      all_goals
        have hw3 := below_step (below_step (below_step hb0 (below_drew0 _)) hb2) hb3
        have hz1 := (below_step hb0 (below_drew0 _)).size
        have hz2 := V3.out.lt
        obtain ⟨f0, f1, f2, f3⟩ := fin_plane (w := w) hv (ho.keep hb3) (.inl (by omega)) (by omega) hb3.size (below_step HB.out hw3) (.int .i64 m) (.slice A2 T.length c2)
        have F2 := Lib.hid (f2.low (lo' := w.heap.size) (by omega))
        have F3 := Lib.hid f3
        clear f2 f3 ho hb0 hb2 hb3 hv hw3
        go_wp2
        exact bodyPost_ret (v := .tuple #[.agg #[.int .i64 m, .slice A2 T.length c2], .int .i64 0]) (by simp [results, Try.results18, go_sem, f0, f1]) rfl ⟨_, rfl, F2.out, F3.out⟩
    · have HA : Hid (cutP m t k = (0, [], 2)) := Lib.hid (by unfold cutP; rw [if_pos h0, he, if_neg hk])
      rw [HA.out]
      have hk' : inB k 1 (d : Int) = false := by simpa using hk
      have HI := Lib.hid (fun W0 => by have := l01In_any k 1 (d : Int) W0; rw [hk'] at this; exact this)
      clear b1 v3 hwb hW hr hc HC h0 ok e1 hk hk' he hz
      go_enter Try.func18, Try.ntmps18
      go_wp2_with fail
      rw [HW.out]
      refine HC0.out.mono ?_
      rintro e w1 ⟨rfl, hb1⟩
      obtain ⟨y1, y2, y3⟩ := B1.out.keep hb1
      go_wp2_with fail
      refine (HG.out _).mono ?_
      rintro e w2 ⟨rfl, hb2⟩
      go_wp2_with fail
      refine (HI.out _).mono ?_
      rintro e w' ⟨rfl, rfl⟩
      have hv := V3.out.keep (below_step hb1 hb2)
      obtain ⟨q0, q1, q2, q3⟩ := hv.tells2
      obtain ⟨f0, f1, f2, f3⟩ := fin_plane (w := w) hv (OwnR.nil _ w.heap.size 0) (.inr (Nat.zero_le _)) (by omega) (Nat.zero_le _) (below_step HB.out (below_step hb1 hb2)) (.int .i64 0) (.slice none 0 0)
      have F2 := Lib.hid f2
      have F3 := Lib.hid f3
      clear f2 f3 hv
      go_wp2
      exact bodyPost_ret (v := .tuple #[.agg #[.int .i64 0, .slice none 0 0], .int .i64 (2)]) (by simp [results, Try.results18, go_sem, f0, f1]) rfl ⟨_, rfl, F2.out, F3.out⟩
  · skip
    have h0' : isP m t = false := by simpa using h0
    have hc := HC.out
    rw [h0'] at hc
    have HC0 := Lib.hid hc
    have HA : Hid (cutP m t k = (0, [], 1)) := Lib.hid (by unfold cutP; rw [if_neg h0])
    rw [HA.out]
    clear b1 v3 hwb hW hr hc HC h0 h0' hz
    go_enter Try.func18, Try.ntmps18
    go_wp2_with fail
    rw [HW.out]
    refine HC0.out.mono ?_
    rintro e w1 ⟨rfl, hb1⟩
    have hv := V3.out.keep (hb1)
    obtain ⟨q0, q1, q2, q3⟩ := hv.tells2
    obtain ⟨f0, f1, f2, f3⟩ := fin_plane (w := w) hv (OwnR.nil _ w.heap.size 0) (.inr (Nat.zero_le _)) (by omega) (Nat.zero_le _) (below_step HB.out (hb1)) (.int .i64 0) (.slice none 0 0)
    have F2 := Lib.hid f2
    have F3 := Lib.hid f3
    clear f2 f3 hv
    go_wp2
    exact bodyPost_ret (v := .tuple #[.agg #[.int .i64 0, .slice none 0 0], .int .i64 (1)]) (by simp [results, Try.results18, go_sem, f0, f1]) rfl ⟨_, rfl, F2.out, F3.out⟩
set_option maxHeartbeats 4000000 in
set_option maxRecDepth 100000 in
theorem sChangePlane_any (m : Int) (A : Option Addr) (c : Nat) (t : List (List Int)) (k : Int) (w : World) (hz : szT t ≤ 1048576) (hr : RP w A t) :
    Calls Try.prog 21 #[.agg #[.int .i64 m, .slice A t.length c], .int .i64 k] w fun e w' => ∃ s, e = .returned (.tuple #[.agg #[.int .i64 (chaP m t k).1, s], .int .i64 (chaP m t k).2.2]) ∧ OwnR w' w.heap.size w'.heap.size s (chaP m t k).2.1 ∧ Below w.heap.size w w' := by
  obtain ⟨W, hW, b1, v3, hwb⟩ := spro1P w m A t.length c
  have B1 := Lib.hid b1
  have V3 := Lib.hid v3
  have HB := Lib.hid hwb
  have HW := Lib.hid hW
  have HC := Lib.hid (l03Is_z m A c t W hz (hr.below hwb))
  by_cases h0 : isP m t = true
  · obtain ⟨d, e1, ok⟩ := plOk_of h0
    have hc := HC.out
    rw [h0] at hc
    have HC0 := Lib.hid hc
    have m1 := ok.m1
    have m2 := ok.m2
    by_cases hk : isM k = true
    · obtain ⟨k1, k2⟩ := (isM_iff _).1 hk
      have HI := Lib.hid (fun W0 => by have := l01Modulus_any k W0; rw [hk] at this; exact this)
      by_cases hd : m % k = 0
      · have HA : Hid (chaP m t k = (k, Pl.tab k d (Pl.pc t), 0)) := Lib.hid (by unfold chaP; rw [if_pos h0, if_pos ⟨hk, hd⟩, e1]; rfl)
        rw [HA.out]
        obtain ⟨T, hT⟩ : ∃ T, Pl.tab k d (Pl.pc t) = T := ⟨_, rfl⟩
        rw [hT]
        have HT := Lib.hid hT
        have HR := Lib.hid (hr.below hwb)
        have HS := Lib.hid ok
        obtain ⟨L, hL⟩ : ∃ L, t.length = L := ⟨_, rfl⟩
        have HL := Lib.hid (hL.symm.trans e1)
        have hLb : L ≤ 11 := by have := ok.d2; omega
        rw [hL] at B1 HW HC0 ⊢
        clear b1 v3 hwb hW hr hc HC h0 ok e1 hk hT hL hz
        go_enter Try.func21, Try.ntmps21
        go_wp2_with fail
        rw [HW.out]
        refine HC0.out.mono ?_
        rintro e w1 ⟨rfl, hb1⟩
        obtain ⟨x1, x2, x3⟩ := B1.out.keep hb1
        have HB1 := Lib.hid hb1
        clear hb1
        go_wp2_with fail
        refine (HI.out _).mono ?_
        rintro e w' ⟨rfl, rfl⟩
        go_wp2
        clear hd
        go_loopw [6, 7] (fun r i wr => ∃ q : Nat, q ≤ L ∧ i = .int .i64 q ∧ OwnR wr w1.heap.size wr.heap.size r ((Pl.tab k d (Pl.pc t)).take q) ∧ Below W.heap.size W wr ∧ w1.heap.size ≤ wr.heap.size) (fun _ i _ => L - (intOf i).toNat)
        case atStart => exact ⟨0, Nat.zero_le _, rfl, by simpa using OwnR.none0 w1, below_alloc _ HB1.out, (below_one _ _).size⟩
        case round =>
          obtain ⟨q, hq, rfl, hown, hbel, hsz⟩ := hrel
          have HB2 := Lib.hid hbel
          have HO := Lib.hid hown
          clear hown x1 x2 x3
          obtain ⟨x1, x2, x3⟩ := B1.out.keep hbel
          by_cases hlt : q < L
          · have hLd := HL.out
            obtain ⟨b, off, A1, c1, rfl, hb, hc, -, hri⟩ := HR.out.at q (by rw [HS.out.len]; omega)
            have e1 := (hbel.cell (p := ⟨b, off + q, none⟩) hb).trans hc
            have HA2 := Lib.hid (l02RestR_any k (d - q) m A1 c1 _ wr k1 (HS.out.rowOk q (by omega)) (hri.below hbel))
            obtain ⟨row, hrow⟩ : ∃ row, Ser.cut k (d - q) (Ser.co (Pl.rw' t q)) = row := ⟨_, rfl⟩
            have hst : (Pl.tab k d (Pl.pc t)).take (q + 1) = (Pl.tab k d (Pl.pc t)).take q ++ [row] := by rw [Pl.tab_take_succ k d _ q (by omega), ← hrow]; rfl
            have HLEN := Lib.hid (show ((Pl.tab k d (Pl.pc t)).take q).length ≤ 1000000000000 by rw [List.length_take, Pl.tab_length]; omega)
            obtain ⟨N, hN⟩ : ∃ N, (Pl.rw' t q).length = N := ⟨_, rfl⟩
            rw [hrow] at HA2
            rw [hN] at e1 HA2
            have HST := Lib.hid hst
            have j0 : (0 : Int) ≤ (q : Int) := by omega
            have j1 : (q : Int) < (L : Int) := by omega
            clear hst hrow hri hc hLd hbel hN
            go_wp2_with fail
            refine HA2.out.mono ?_
            rintro e' w5 ⟨u, rfl, hou, hb5⟩
            obtain ⟨Au, cu, rfl, -⟩ := hou.form
            go_wp2_with (at_builtin; refine wp_pushU _ _ _ (by rfl) (by rfl) Try.underlying22 w1.heap.size wr.heap.size _ _ (by rfl) (HO.out.keep hb5) hb5.size (.slice Au row.length cu) row (hou.more hsz) (fun g hg => (hou.lt g hg).1) w5.heap.size rfl (by rfl) HLEN.out (Nat.le_trans hsz hb5.size) ?_; intro v' w6 ho1 hpb)
            have HB3 := Lib.hid ((below_step HB2.out hb5).trans (hpb.mono HB1.out.size))
            have HO1 := Lib.hid ho1
            have hsz6 : w1.heap.size ≤ w6.heap.size := Nat.le_trans (Nat.le_trans hsz hb5.size) hpb.size
            clear ho1 hpb hou hb5
            go_wp2
            go_roundw
            case rel => first | exact ⟨q + 1, by omega, by go_num, by rw [HST.out]; exact HO1.out, HB3.out, hsz6⟩ | ((repeat apply Exists.intro); exact ⟨⟨q + 1, by omega, by go_num, by rw [HST.out]; exact HO1.out, HB3.out, hsz6⟩, rfl⟩)
            case measure => first | (simp only [intOf]; omega) | (simp [intOf]; omega)
          · obtain rfl : q = L := by omega
            have ho := HO.out
            rw [HL.out, Pl.tab_take_all, HT.out] at ho
            obtain ⟨A2, c2, rfl, -⟩ := ho.len
            clear HO
            go_wp2_with fail
            refine (l03Make_any _ _ _ _ _).mono ?_
            rintro e w4 ⟨rfl, hb4⟩
            have hb := below_step hbel hb4
            have hv := V3.out.keep hb
            obtain ⟨q0, q1, q2, q3⟩ := hv.tells2
            obtain ⟨f0, f1, f2, f3⟩ := fin_plane (w := w) hv (ho.keep hb4) (.inl (by have := V3.out.lt; have := HB1.out.size; omega)) (by omega) hb4.size (below_step HB.out hb) (.int .i64 k) (.slice A2 T.length c2)
            have F2 := Lib.hid (f2.low (lo' := w.heap.size) (by have := V3.out.lt; have := HB1.out.size; omega))
            have F3 := Lib.hid f3
            clear f2 f3 hv ho hb hbel hb4
            go_wp2
            exact bodyPost_ret (v := .tuple #[.agg #[.int .i64 k, .slice A2 T.length c2], .int .i64 0]) (by simp [results, Try.results21, go_sem, f0, f1]) rfl ⟨_, rfl, F2.out, F3.out⟩
      · have HA : Hid (chaP m t k = (0, [], 2)) := Lib.hid (by unfold chaP; rw [if_pos h0, if_neg (fun h => hd h.2)])
        rw [HA.out]
        obtain ⟨n1, n2⟩ := ne_facts hd
        clear b1 v3 hwb hW hr hc HC h0 ok e1 hk hz
        go_enter Try.func21, Try.ntmps21
        go_wp2_with fail
        rw [HW.out]
        refine HC0.out.mono ?_
        rintro e w1 ⟨rfl, hb0⟩
        obtain ⟨x1, x2, x3⟩ := B1.out.keep hb0
        go_wp2_with fail
        refine (HI.out _).mono ?_
        rintro e w' ⟨rfl, rfl⟩
        have hv := V3.out.keep (hb0)
        obtain ⟨q0, q1, q2, q3⟩ := hv.tells2
        obtain ⟨f0, f1, f2, f3⟩ := fin_plane (w := w) hv (OwnR.nil _ w.heap.size 0) (.inr (Nat.zero_le _)) (by omega) (Nat.zero_le _) (below_step HB.out (hb0)) (.int .i64 0) (.slice none 0 0)
        have F2 := Lib.hid f2
        have F3 := Lib.hid f3
        clear f2 f3 hv
        go_wp2
        exact bodyPost_ret (v := .tuple #[.agg #[.int .i64 0, .slice none 0 0], .int .i64 (2)]) (by simp [results, Try.results21, go_sem, f0, f1]) rfl ⟨_, rfl, F2.out, F3.out⟩
    · have HA : Hid (chaP m t k = (0, [], 2)) := Lib.hid (by unfold chaP; rw [if_pos h0, if_neg (fun h => hk h.1)])
      rw [HA.out]
      have hk' : isM k = false := by simpa using hk
      have HI := Lib.hid (fun W0 => by have := l01Modulus_any k W0; rw [hk'] at this; exact this)
      clear b1 v3 hwb hW hr hc HC h0 ok e1 hk hk' hz
      go_enter Try.func21, Try.ntmps21
      go_wp2_with fail
      rw [HW.out]
      refine HC0.out.mono ?_
      rintro e w1 ⟨rfl, hb0⟩
      go_wp2_with fail
      refine (HI.out _).mono ?_
      rintro e w' ⟨rfl, rfl⟩
      have hv := V3.out.keep (hb0)
      obtain ⟨q0, q1, q2, q3⟩ := hv.tells2
      obtain ⟨f0, f1, f2, f3⟩ := fin_plane (w := w) hv (OwnR.nil _ w.heap.size 0) (.inr (Nat.zero_le _)) (by omega) (Nat.zero_le _) (below_step HB.out (hb0)) (.int .i64 0) (.slice none 0 0)
      have F2 := Lib.hid f2
      have F3 := Lib.hid f3
      clear f2 f3 hv
      go_wp2
      exact bodyPost_ret (v := .tuple #[.agg #[.int .i64 0, .slice none 0 0], .int .i64 (2)]) (by simp [results, Try.results21, go_sem, f0, f1]) rfl ⟨_, rfl, F2.out, F3.out⟩
  · skip
    have h0' : isP m t = false := by simpa using h0
    have hc := HC.out
    rw [h0'] at hc
    have HC0 := Lib.hid hc
    have HA : Hid (chaP m t k = (0, [], 1)) := Lib.hid (by unfold chaP; rw [if_neg h0])
    rw [HA.out]
    clear b1 v3 hwb hW hr hc HC h0 h0' hz
    go_enter Try.func21, Try.ntmps21
    go_wp2_with fail
    rw [HW.out]
    refine HC0.out.mono ?_
    rintro e w1 ⟨rfl, hb1⟩
    have hv := V3.out.keep (hb1)
    obtain ⟨q0, q1, q2, q3⟩ := hv.tells2
    obtain ⟨f0, f1, f2, f3⟩ := fin_plane (w := w) hv (OwnR.nil _ w.heap.size 0) (.inr (Nat.zero_le _)) (by omega) (Nat.zero_le _) (below_step HB.out (hb1)) (.int .i64 0) (.slice none 0 0)
    have F2 := Lib.hid f2
    have F3 := Lib.hid f3
    clear f2 f3 hv
    go_wp2
    exact bodyPost_ret (v := .tuple #[.agg #[.int .i64 0, .slice none 0 0], .int .i64 (1)]) (by simp [results, Try.results21, go_sem, f0, f1]) rfl ⟨_, rfl, F2.out, F3.out⟩
end Go.Proofs.Ytjgpdgoclianlab
