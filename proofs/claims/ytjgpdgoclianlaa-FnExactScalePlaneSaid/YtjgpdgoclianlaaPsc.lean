/- Contracts of ScalePlane, of the program and of the model. -/
import Derived.Test.YtjgpdgoclianlaaGop
import Derived.Test.YtjgpdgoclianlaaRrw
namespace Go.Proofs.Ytjgpdgoclianlaa
open Go.RowKit Go.WideShapes Go.ChangeShapes Go.ChangeAt

/-- the model of a function of one plane and a number, which has a code of its own -/
def onePi (cod : Int → List (List Int) → Int → Int) (f : Int → Nat → List (List Int) → Int → List (List Int)) (m : Int) (t : List (List Int)) (k : Int) : Int × List (List Int) × Int :=
  if cod m t k = 0 then (m, f m (t.length - 1) t k, 0) else (0, [], cod m t k)
theorem onePi_len (cod : Int → List (List Int) → Int → Int) (f : Int → Nat → List (List Int) → Int → List (List Int)) (m : Int) (t : List (List Int)) (k : Int) (hc : cod m t k = 0 → isP m t = true) (h : ∀ d, cod m t k = 0 → Pl.Ok m d t → szT (f m d t k) ≤ 1048576) : szT (onePi cod f m t k).2.1 ≤ 1048576 := by
  unfold onePi
  by_cases h0 : cod m t k = 0
  · rw [if_pos h0]
    obtain ⟨d, e, ho⟩ := plOk_of (hc h0)
    rw [e]
    exact h d h0 ho
  · rw [if_neg h0]; exact Nat.zero_le _
def codePN (m : Int) (t : List (List Int)) (k : Int) : Int := if isP m t = true then (if inB k 0 (m - 1) = true then 0 else 2) else 1
def scaP := onePi codePN fun m d t k => Pl.tab m d fun i j => Pl.pc t i j * k
theorem scaP_len (m : Int) (t : List (List Int)) (k : Int) : szT (scaP m t k).2.1 ≤ 1048576 :=
  onePi_len _ _ m t k (fun h => by
    unfold codePN at h
    by_cases h1 : isP m t = true
    · exact h1
    · rw [if_neg h1] at h; exact absurd h (by decide)) (fun _ _ h => szT_ok (h.tab _))

set_option maxHeartbeats 2000000 in
set_option maxRecDepth 100000 in
theorem l03Scale_any (m : Int) (d : Nat) (k : Int) (A : Option Addr) (c : Nat) (t : List (List Int)) (w : World) (hs : Pl.Ok m d t) (hr : RP w A t) (k1 : 0 ≤ k) (k2 : k < m) :
    Calls Try.prog 69 #[.int .i64 m, .int .i64 k, .slice A t.length c] w fun e w' => ∃ v, e = .returned v ∧ OwnR w' w.heap.size w'.heap.size v (Pl.tab m d fun i j => Pl.pc t i j * k) ∧ Below w.heap.size w w' := by
  have HR := Lib.hid hr
  have HS := Lib.hid hs
  have hl := hs.len
  have hd2 := hs.d2
  obtain ⟨L, hL⟩ : ∃ L, t.length = L := ⟨_, rfl⟩
  have HL := Lib.hid (hL.symm.trans hl)
  have hLb : L ≤ 11 := by omega
  rw [hL]
  clear hr hs hL hl
  go_enter Try.func69, Try.ntmps69
  go_wp2
  go_loopw [7, 8] (fun r i wr => ∃ q : Nat, q ≤ L ∧ i = .int .i64 q ∧ OwnR wr w.heap.size wr.heap.size r ((Pl.tab m d fun i j => Pl.pc t i j * k).take q) ∧ Below w.heap.size w wr) (fun _ i _ => L - (intOf i).toNat)
  case atStart => exact ⟨0, Nat.zero_le _, rfl, by simpa using OwnR.none0 w, below_one _ _⟩
  case round =>
    obtain ⟨q, hq, rfl, hown, hbel⟩ := hrel
    have HB := Lib.hid hbel
    have HO := Lib.hid hown
    have hsz := hbel.size
    clear hown
    by_cases hlt : q < L
    · have hLd := HL.out
      obtain ⟨b, off, A1, c1, rfl, hb, hc, -, hri⟩ := HR.out.at q (by rw [HS.out.len]; omega)
      have e1 := (hbel.cell (p := ⟨b, off + q, none⟩) hb).trans hc
      have HA := Lib.hid (l02ScaleR_any m (d - q) k A1 c1 _ wr (HS.out.rowOk q (by omega)) (hri.below hbel) k1 k2)
      have hst : (Pl.tab m d fun i j => Pl.pc t i j * k).take (q + 1) = (Pl.tab m d fun i j => Pl.pc t i j * k).take q ++ [scaR m (d - q) (Pl.rw' t q) k] := Pl.tab_take_succ m d _ q (by omega)
      have HLEN := Lib.hid (show ((Pl.tab m d fun i j => Pl.pc t i j * k).take q).length ≤ 1000000000000 by rw [List.length_take, Pl.tab_length]; omega)
      obtain ⟨N, hN⟩ : ∃ N, (Pl.rw' t q).length = N := ⟨_, rfl⟩
      obtain ⟨row, hrow⟩ : ∃ row, scaR m (d - q) (Pl.rw' t q) k = row := ⟨_, rfl⟩
      rw [hrow] at HA hst
      rw [hN] at e1 HA
      have HST := Lib.hid hst
      have j0 : (0 : Int) ≤ (q : Int) := by omega
      have j1 : (q : Int) < (L : Int) := by omega
      clear hst hN hrow hri hc hLd hbel
      go_wp2_with fail
      refine HA.out.mono ?_
      rintro e w5 ⟨u, rfl, hou, hb5⟩
      obtain ⟨Au, cu, rfl, -⟩ := hou.form
      go_wp2_with (at_builtin; refine wp_pushU _ _ _ (by rfl) (by rfl) Try.underlying22 w.heap.size wr.heap.size _ _ (by rfl) (HO.out.keep hb5) hb5.size (.slice Au row.length cu) row (hou.more hsz) (fun g hg => (hou.lt g hg).1) w5.heap.size rfl (by rfl) HLEN.out (Nat.le_trans hsz hb5.size) ?_; intro v' w1 ho1 hpb)
      have HB1 := Lib.hid ((HB.out.trans (hb5.mono hsz)).trans hpb)
      have HO1 := Lib.hid ho1
      clear ho1 hpb hou hb5
      go_wp2
      go_roundw
      case rel => exact ⟨q + 1, by omega, by go_num, by rw [HST.out]; exact HO1.out, HB1.out⟩
      case measure => simp only [intOf]; omega
    · obtain rfl : q = L := by omega
      have ho := HO.out
      rw [HL.out, Pl.tab_take_all] at ho
      have HF := Lib.hid ho
      clear ho
      go_wp2
      go_ret
      exact ⟨_, rfl, HF.out, HB.out⟩
theorem codePN_bad {m : Int} {t : List (List Int)} (k : Int) (h : isP m t = false) : codePN m t k = 1 := by unfold codePN; rw [h]; rfl
theorem codePN_good {m : Int} {t : List (List Int)} (k : Int) (h : isP m t = true) : codePN m t k = if inB k 0 (m - 1) = true then 0 else 2 := by unfold codePN; rw [if_pos h]
set_option maxHeartbeats 4000000 in
set_option maxRecDepth 100000 in
theorem ScalePlane_any (m : Int) (A : Option Addr) (c : Nat) (t : List (List Int)) (k : Int) (w : World) (hz : szT t ≤ 1048576) (hr : RP w A t) :
    Calls Try.prog 26 #[.agg #[.int .i64 m, .slice A t.length c], .int .i64 k] w fun e w' => ∃ s, e = .returned (.tuple #[.agg #[.int .i64 (scaP m t k).1, s], .int .i64 (scaP m t k).2.2]) ∧ OwnR w' w.heap.size w'.heap.size s (scaP m t k).2.1 ∧ Below w.heap.size w w' := by
  obtain ⟨W, hW, b1, v3, b4, hwb⟩ := pro1P w m A t.length c
  have B1 := Lib.hid b1
  have V3 := Lib.hid v3
  have HB := Lib.hid hwb
  have HW := Lib.hid hW
  have HC := Lib.hid (codeOfPlanes1_any (w.heap.size + 1 + 1) m A c t W hz (hr.below hwb) b4)
  by_cases h0 : isP m t = true
  · obtain ⟨d, e1, ok⟩ := plOk_of h0
    have hc := HC.out
    rw [codeP1_yes h0] at hc
    have HC0 := Lib.hid hc
    have hcn : codeN m [k] = if inB k 0 (m - 1) = true then 0 else 2 := by
      unfold codeN allIn
      rw [if_pos ((isM_iff m).2 ⟨ok.m1, ok.m2⟩)]
      simp
    by_cases hk : inB k 0 (m - 1) = true
    · obtain ⟨k1, k2⟩ := (inB_iff _ _ _).1 hk
      rw [if_pos hk] at hcn
      have HA : Hid (scaP m t k = (m, (Pl.tab m d fun i j => Pl.pc t i j * k), 0)) := Lib.hid (by unfold scaP onePi; rw [codePN_good k h0, if_pos hk, if_pos rfl, e1]; rfl)
      rw [HA.out]
      have HG := Lib.hid (fun W0 => gridOf_nat m A t.length c d W0 e1 (by have := ok.d2; omega))
      have HP := Lib.hid (fun W0 (h : Below W.heap.size W W0) => gscaled_any m d A c t k W0 ok ((hr.below hwb).below h) (by have := ok.m2; omega) (by have := ok.m2; omega))
      have HN := Lib.hid (fun (W0 : World) => by have := codeOfNumbers_any m (some ⟨W0.heap.size, 0, none⟩) 1 [k] (W0.alloc (.cells #[.int .i64 k] 2)) (by simp) (OwnI.one W0 k).ri; rw [hcn] at this; exact this)
      obtain ⟨T, hT⟩ : ∃ T, Pl.tab m d (fun i j => Pl.pc t i j * k) = T := ⟨_, rfl⟩
      rw [hT] at HP ⊢
      clear b1 v3 b4 hwb hW hr hc HC h0 ok hT e1 hz hk hcn
      go_enter Try.func26, Try.ntmps26
      go_wp2_with fail
      rw [HW.out]
      refine HC0.out.mono ?_
      rintro e w1 ⟨rfl, hb1⟩
      obtain ⟨x1, x2, x3⟩ := B1.out.keep hb1
      have hb1a := below_alloc (.cells #[.int .i64 k] 2) hb1
      obtain ⟨z1, z2, z3⟩ := B1.out.keep hb1a
      go_wp2_with fail
      refine (HN.out w1).mono ?_
      rintro e w' ⟨rfl, rfl⟩
      go_wp2_with fail
      refine (HG.out _).mono ?_
      rintro e w2 ⟨rfl, hb2⟩
      go_wp2_with fail
      refine (HP.out _ (below_step hb1a hb2)).mono ?_
      rintro e w3 ⟨s, rfl, ho, hb3⟩
      obtain ⟨A2, c2, rfl, -⟩ := ho.len
      go_wp2_with fail
      refine (plane_any _ _ _ _ _ _).mono ?_
      rintro e w4 ⟨rfl, hb4⟩
      have hb := below_step (below_step (below_step hb1a hb2) hb3) hb4
      have hv := V3.out.keep hb
      obtain ⟨q0, q1, q2, q3⟩ := hv.tells2
      obtain ⟨f0, f1, f2, f3⟩ := fin_plane (w := w) hv (ho.keep hb4) (.inl (by have := V3.out.lt; have := (below_step hb1a hb2).size; omega)) (by omega) hb4.size (below_step HB.out hb) (.int .i64 m) (.slice A2 T.length c2)
      have F2 := Lib.hid (f2.low (show w.heap.size ≤ w2.heap.size by have := V3.out.lt; have := (below_step hb1a hb2).size; omega))
      have F3 := Lib.hid f3
      clear f2 f3 hv ho hb
      go_wp2
      exact bodyPost_ret (v := .tuple #[.agg #[.int .i64 m, .slice A2 T.length c2], .int .i64 0]) (by simp [results, Try.results26, go_sem, f0, f1]) rfl ⟨_, rfl, F2.out, F3.out⟩
    · rw [if_neg hk] at hcn
      have HA : Hid (scaP m t k = (0, [], 2)) := Lib.hid (by unfold scaP onePi; rw [codePN_good k h0, if_neg hk, if_neg (by decide)])
      rw [HA.out]
      have HN := Lib.hid (fun (W0 : World) => by have := codeOfNumbers_any m (some ⟨W0.heap.size, 0, none⟩) 1 [k] (W0.alloc (.cells #[.int .i64 k] 2)) (by simp) (OwnI.one W0 k).ri; rw [hcn] at this; exact this)
      clear b1 v3 b4 hwb hW hr hc HC h0 ok e1 hz hk hcn
      go_enter Try.func26, Try.ntmps26
      go_wp2_with fail
      rw [HW.out]
      refine HC0.out.mono ?_
      rintro e w1 ⟨rfl, hb1⟩
      obtain ⟨x1, x2, x3⟩ := B1.out.keep hb1
      have hb1a := below_alloc (.cells #[.int .i64 k] 2) hb1
      go_wp2_with fail
      refine (HN.out w1).mono ?_
      rintro e w' ⟨rfl, rfl⟩
      have hv := V3.out.keep (hb1a)
      obtain ⟨q0, q1, q2, q3⟩ := hv.tells2
      obtain ⟨f0, f1, f2, f3⟩ := fin_plane (w := w) hv (OwnR.nil _ w.heap.size 0) (.inr (Nat.zero_le _)) (by omega) (Nat.zero_le _) (below_step HB.out (hb1a)) (.int .i64 0) (.slice none 0 0)
      have F2 := Lib.hid f2
      have F3 := Lib.hid f3
      clear f2 f3 hv
      go_wp2
      exact bodyPost_ret (v := .tuple #[.agg #[.int .i64 0, .slice none 0 0], .int .i64 (2)]) (by simp [results, Try.results26, go_sem, f0, f1]) rfl ⟨_, rfl, F2.out, F3.out⟩
  · have h0' : isP m t = false := by simpa using h0
    have hc := HC.out
    rw [codeP1_no h0'] at hc
    have HC0 := Lib.hid hc
    have HA : Hid (scaP m t k = (0, [], 1)) := Lib.hid (by unfold scaP onePi; rw [codePN_bad k h0', if_neg (by decide)])
    rw [HA.out]
    clear b1 v3 b4 hwb hW hr hz hc HC h0 h0'
    go_enter Try.func26, Try.ntmps26
    go_wp2_with fail
    rw [HW.out]
    refine HC0.out.mono ?_
    rintro e w1 ⟨rfl, hb1⟩
    have hv := V3.out.keep (hb1)
    obtain ⟨q0, q1, q2, q3⟩ := hv.tells2
    obtain ⟨f0, f1, f2, f3⟩ := fin_plane (w := w) hv (OwnR.nil _ w.heap.size 0) (.inr (Nat.zero_le _)) (by omega) (Nat.zero_le _) (below_step HB.out (hb1)) (.int .i64 0) (.slice none 0 0)
    have F2 := Lib.hid f2
    have F3 := Lib.hid f3
    clear f2 f3 hv
    go_wp2
    exact bodyPost_ret (v := .tuple #[.agg #[.int .i64 0, .slice none 0 0], .int .i64 (1)]) (by simp [results, Try.results26, go_sem, f0, f1]) rfl ⟨_, rfl, F2.out, F3.out⟩
set_option maxHeartbeats 4000000 in
set_option maxRecDepth 100000 in
theorem sScalePlane_any (m : Int) (A : Option Addr) (c : Nat) (t : List (List Int)) (k : Int) (w : World) (hz : szT t ≤ 1048576) (hr : RP w A t) :
    Calls Try.prog 25 #[.agg #[.int .i64 m, .slice A t.length c], .int .i64 k] w fun e w' => ∃ s, e = .returned (.tuple #[.agg #[.int .i64 (scaP m t k).1, s], .int .i64 (scaP m t k).2.2]) ∧ OwnR w' w.heap.size w'.heap.size s (scaP m t k).2.1 ∧ Below w.heap.size w w' := by
  obtain ⟨W, hW, b1, v3, hwb⟩ := spro1P w m A t.length c
  have B1 := Lib.hid b1
  have V3 := Lib.hid v3
  have HB := Lib.hid hwb
  have HW := Lib.hid hW
  have HC := Lib.hid (l03Is_z m A c t W hz (hr.below hwb))
  by_cases h0 : isP m t = true
  · obtain ⟨d, e1, ok⟩ := plOk_of h0
    have hc := HC.out
    rw [h0] at hc
    have HC0 := Lib.hid hc
    by_cases hk : inB k 0 (m - 1) = true
    · obtain ⟨k1, k2⟩ := (inB_iff _ _ _).1 hk
      have HA : Hid (scaP m t k = (m, (Pl.tab m d fun i j => Pl.pc t i j * k), 0)) := Lib.hid (by unfold scaP onePi; rw [codePN_good k h0, if_pos hk, if_pos rfl, e1]; rfl)
      rw [HA.out]
      have HP := Lib.hid (fun W0 (h : Below W.heap.size W W0) => l03Scale_any m d k A c t W0 ok ((hr.below hwb).below h) k1 (by omega))
      have m2 := ok.m2
      have m1 := ok.m1
      have HI := Lib.hid (fun W0 => by have := l01In_any k 0 (m - 1) W0; rw [hk] at this; exact this)
      obtain ⟨T, hT⟩ : ∃ T, Pl.tab m d (fun i j => Pl.pc t i j * k) = T := ⟨_, rfl⟩
      obtain ⟨L, hL⟩ : ∃ L, t.length = L := ⟨_, rfl⟩
      rw [hT] at HP ⊢
      rw [hL] at HW B1 HP HC0 ⊢
      clear b1 v3 hwb hW hr hc HC h0 ok hT e1 hz hk hL
      go_enter Try.func25, Try.ntmps25
      go_wp2_with fail
      rw [HW.out]
      refine HC0.out.mono ?_
      rintro e w0 ⟨rfl, hb0⟩
      obtain ⟨x1, x2, x3⟩ := B1.out.keep hb0
      go_wp2_with fail
      refine (HI.out _).mono ?_
      rintro e w' ⟨rfl, rfl⟩
      go_wp2
      go_region_held3 (fun w' => w'.cell? ⟨w.heap.size, 0, none⟩ = some (.int .i64 m) ∧ w'.cell? ⟨w.heap.size, 1, none⟩ = some (.slice A L c) ∧ w.heap.size < w'.heap.size) (first | exact ⟨x1, x2, x3⟩ | exact box_store (by omega) (by assumption) | exact box_call (by assumption) (by assumption)) (first
        | (go_at_call 69; refine (HP.out _ (below_step hb0 (below_drew0 _))).mono ?_; rintro e2 w2 ⟨s, rfl, ho, hb2⟩; obtain ⟨A2, c2, rfl, _⟩ := ho.len)
        | (go_at_call 61; refine (l03Make_any _ _ _ _ _).mono ?_; rintro e3 w3 ⟨rfl, hb3⟩; have hv := V3.out.keep (below_step (below_step (below_step hb0 (below_drew0 _)) hb2) hb3); obtain ⟨q0, q1, q2, q3⟩ := hv.tells2))
      all_goals
        have hw3 := below_step (below_step (below_step hb0 (below_drew0 _)) hb2) hb3
        have hz1 := (below_step hb0 (below_drew0 _)).size
        have hz2 := V3.out.lt
        obtain ⟨f0, f1, f2, f3⟩ := fin_plane (w := w) hv (ho.keep hb3) (.inl (by omega)) (by omega) hb3.size (below_step HB.out hw3) (.int .i64 m) (.slice A2 T.length c2)
        have F2 := Lib.hid (f2.low (lo' := w.heap.size) (by omega))
        have F3 := Lib.hid f3
        clear f2 f3 ho hb0 hb2 hb3 hv hw3
        go_wp2
        exact bodyPost_ret (v := .tuple #[.agg #[.int .i64 m, .slice A2 T.length c2], .int .i64 0]) (by simp [results, Try.results25, go_sem, f0, f1]) rfl ⟨_, rfl, F2.out, F3.out⟩
    · have HA : Hid (scaP m t k = (0, [], 2)) := Lib.hid (by unfold scaP onePi; rw [codePN_good k h0, if_neg hk, if_neg (by decide)])
      rw [HA.out]
      have hk' : inB k 0 (m - 1) = false := by simpa using hk
      have HI := Lib.hid (fun W0 => by have := l01In_any k 0 (m - 1) W0; rw [hk'] at this; exact this)
      have m2 := ok.m2
      have m1 := ok.m1
      clear b1 v3 hwb hW hr hc HC h0 ok e1 hz hk hk'
      go_enter Try.func25, Try.ntmps25
      go_wp2_with fail
      rw [HW.out]
      refine HC0.out.mono ?_
      rintro e w0 ⟨rfl, hb0⟩
      obtain ⟨x1, x2, x3⟩ := B1.out.keep hb0
      go_wp2_with fail
      refine (HI.out _).mono ?_
      rintro e w' ⟨rfl, rfl⟩
      have hv := V3.out.keep (hb0)
      obtain ⟨q0, q1, q2, q3⟩ := hv.tells2
      obtain ⟨f0, f1, f2, f3⟩ := fin_plane (w := w) hv (OwnR.nil _ w.heap.size 0) (.inr (Nat.zero_le _)) (by omega) (Nat.zero_le _) (below_step HB.out (hb0)) (.int .i64 0) (.slice none 0 0)
      have F2 := Lib.hid f2
      have F3 := Lib.hid f3
      clear f2 f3 hv
      go_wp2
      exact bodyPost_ret (v := .tuple #[.agg #[.int .i64 0, .slice none 0 0], .int .i64 (2)]) (by simp [results, Try.results25, go_sem, f0, f1]) rfl ⟨_, rfl, F2.out, F3.out⟩
  · have h0' : isP m t = false := by simpa using h0
    have hc := HC.out
    rw [h0'] at hc
    have HC0 := Lib.hid hc
    have HA : Hid (scaP m t k = (0, [], 1)) := Lib.hid (by unfold scaP onePi; rw [codePN_bad k h0', if_neg (by decide)])
    rw [HA.out]
    clear b1 v3 hwb hW hr hz hc HC h0 h0'
    go_enter Try.func25, Try.ntmps25
    go_wp2_with fail
    rw [HW.out]
    refine HC0.out.mono ?_
    rintro e w1 ⟨rfl, hb1⟩
    have hv := V3.out.keep (hb1)
    obtain ⟨q0, q1, q2, q3⟩ := hv.tells2
    obtain ⟨f0, f1, f2, f3⟩ := fin_plane (w := w) hv (OwnR.nil _ w.heap.size 0) (.inr (Nat.zero_le _)) (by omega) (Nat.zero_le _) (below_step HB.out (hb1)) (.int .i64 0) (.slice none 0 0)
    have F2 := Lib.hid f2
    have F3 := Lib.hid f3
    clear f2 f3 hv
    go_wp2
    exact bodyPost_ret (v := .tuple #[.agg #[.int .i64 0, .slice none 0 0], .int .i64 (1)]) (by simp [results, Try.results25, go_sem, f0, f1]) rfl ⟨_, rfl, F2.out, F3.out⟩
end Go.Proofs.Ytjgpdgoclianlaa
