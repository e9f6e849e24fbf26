/- Contracts of CoordinatePlane, of the program and of the model. -/
import Derived.Test.YtjgpdgoclianlaaGse
import Derived.Test.YtjgpdgoclianlaaPtu
namespace Go.Proofs.Ytjgpdgoclianlaa
open Go.RowKit Go.WideShapes Go.ChangeShapes Go.ChangeAt

/-- the table of a coordinate -/
def corT (m : Int) (d : Nat) (k : Int) : List (List Int) := Pl.tab m d (gosF (Ser.cut m d (Ser.mon 1 1)) k)
/-- the model of CoordinatePlane -/
def corP (m d k : Int) : Int × List (List Int) × Int :=
  if isM m = true then (if inB d 1 10 = true ∧ inB k 0 1 = true then (m, corT m d.toNat k, 0) else (0, [], 2)) else (0, [], 1)
theorem corP_len (m d k : Int) : szT (corP m d k).2.1 ≤ 1048576 := by
  unfold corP
  by_cases hm : isM m = true
  · rw [if_pos hm]
    obtain ⟨m1, m2⟩ := (isM_iff m).1 hm
    by_cases h : inB d 1 10 = true ∧ inB k 0 1 = true
    · rw [if_pos h]
      obtain ⟨d1, d2⟩ := (inB_iff _ _ _).1 h.1
      exact szT_ok (Pl.Ok.of_tab m1 m2 (by omega) (by omega) _)
    · rw [if_neg h]; exact Nat.zero_le _
  · rw [if_neg hm]; exact Nat.zero_le _
theorem var0 (w : World) : ∃ W, w.alloc (.cells #[.int .i64 0, .slice none 0 0] 27) = W ∧ VarC 27 W w.heap.size #[.int .i64 0, .slice none 0 0] ∧ Below w.heap.size w W :=
  ⟨_, rfl, VarC.new _ _ _, below_one _ _⟩
set_option maxHeartbeats 4000000 in
set_option maxRecDepth 100000 in
theorem CoordinatePlane_any (m d k : Int) (w : World) :
    Calls Try.prog 36 #[.int .i64 m, .int .i64 d, .int .i64 k] w fun e w' => ∃ s, e = .returned (.tuple #[.agg #[.int .i64 (corP m d k).1, s], .int .i64 (corP m d k).2.2]) ∧ OwnR w' w.heap.size w'.heap.size s (corP m d k).2.1 ∧ Below w.heap.size w w' := by
  obtain ⟨W, hW, v3, hwb⟩ := var0 w
  have V3 := Lib.hid v3
  have HB := Lib.hid hwb
  have HW := Lib.hid hW
  have HM := Lib.hid (fun W0 => IsModulus_any m W0)
  have HI := Lib.hid (fun W0 => isWithin_any d 1 10 W0)
  have HJ := Lib.hid (fun W0 => isWithin_any k 0 1 W0)
  clear v3 hwb hW
  by_cases hm : isM m = true
  · obtain ⟨m1, m2⟩ := (isM_iff m).1 hm
    rw [hm] at HM
    by_cases hd : inB d 1 10 = true
    · rw [hd] at HI
      obtain ⟨d1, d2⟩ := (inB_iff _ _ _).1 hd
      by_cases hk : inB k 0 1 = true
      · rw [hk] at HJ
        obtain ⟨e, he⟩ : ∃ e : Nat, (e : Int) = d := ⟨d.toNat, by omega⟩
        subst he
        have HA : Hid (corP m (e : Int) k = (m, corT m e k, 0)) := Lib.hid (by unfold corP; rw [if_pos hm, if_pos ⟨hd, hk⟩, show (e : Int).toNat = e by omega])
        rw [HA.out]
        have HN := Lib.hid (fun W0 => monomial_any m e 1 1 W0 (by omega) m2 (by omega) (by omega) (by omega))
        have HG := Lib.hid (fun (W0 : World) (A0 : Option Addr) (c0 : Nat) (h : RI W0 A0 (Ser.cut m e (Ser.mon 1 1))) => gridOfSeries_any m e A0 c0 _ k W0 ⟨m1, m2, by omega, by omega, Ser.cut_length _ _ _, Ser.cut_red (by omega) _ _⟩ h)
        obtain ⟨T, hT⟩ : ∃ T, corT m e k = T := ⟨_, rfl⟩
        change Hid (∀ (W0 : World) (A0 : Option Addr) (c0 : Nat) (h : RI W0 A0 (Ser.cut m e (Ser.mon 1 1))), Calls Try.prog 81 #[.agg #[.int .i64 m, .slice A0 (Ser.cut m e (Ser.mon 1 1)).length c0], .int .i64 k] W0 fun e1 w' => ∃ v, e1 = .returned (.agg #[.int .i64 m, .int .i64 e, v]) ∧ OwnR w' W0.heap.size w'.heap.size v (corT m e k) ∧ Below W0.heap.size W0 w') at HG
        rw [hT] at HG ⊢
        obtain ⟨l, hl⟩ : ∃ l, Ser.cut m e (Ser.mon 1 1) = l := ⟨_, rfl⟩
        rw [hl] at HG HN
        clear hm hd hk hT hl
        go_enter Try.func36, Try.ntmps36
        go_wp2_with fail
        rw [HW.out]
        refine (HM.out _).mono ?_
        rintro e w' ⟨rfl, rfl⟩
        go_wp2_with fail
        refine (HI.out _).mono ?_
        rintro e w' ⟨rfl, rfl⟩
        go_wp2_with fail
        refine (HJ.out _).mono ?_
        rintro e w' ⟨rfl, rfl⟩
        go_wp2_with fail
        refine (HN.out _).mono ?_
        rintro e w2 ⟨v, rfl, ho1, hb1⟩
        obtain ⟨A1, c1, rfl, -⟩ := ho1.form
        have HR := Lib.hid ho1.ri
        clear ho1
        go_wp2_with fail
        refine (HG.out _ _ _ HR.out).mono ?_
        rintro e w3 ⟨s, rfl, ho, hb3⟩
        obtain ⟨A2, c2, rfl, -⟩ := ho.len
        go_wp2_with fail
        refine (plane_any _ _ _ _ _ _).mono ?_
        rintro e w4 ⟨rfl, hb4⟩
        have hb := below_step (below_step (hb1) hb3) hb4
        have hv := V3.out.keep hb
        obtain ⟨q0, q1, q2, q3⟩ := hv.tells2
        obtain ⟨f0, f1, f2, f3⟩ := fin_plane (w := w) hv (ho.keep hb4) (.inl (by have := V3.out.lt; have := (hb1).size; omega)) (by omega) hb4.size (below_step HB.out hb) (.int .i64 m) (.slice A2 T.length c2)
        have F2 := Lib.hid (f2.low (show w.heap.size ≤ w2.heap.size by have := V3.out.lt; have := (hb1).size; omega))
        have F3 := Lib.hid f3
        clear f2 f3 hv ho hb
        go_wp2
        exact bodyPost_ret (v := .tuple #[.agg #[.int .i64 m, .slice A2 T.length c2], .int .i64 0]) (by simp [results, Try.results36, go_sem, f0, f1]) rfl ⟨_, rfl, F2.out, F3.out⟩
      · have hk' : inB k 0 1 = false := by simpa using hk
        rw [hk'] at HJ
        have HA : Hid (corP m d k = (0, [], 2)) := Lib.hid (by unfold corP; rw [if_pos hm, if_neg (fun h => hk h.2)])
        rw [HA.out]
        clear hm hd hk hk'
        go_enter Try.func36, Try.ntmps36
        go_wp2_with fail
        rw [HW.out]
        refine (HM.out _).mono ?_
        rintro e w' ⟨rfl, rfl⟩
        go_wp2_with fail
        refine (HI.out _).mono ?_
        rintro e w' ⟨rfl, rfl⟩
        go_wp2_with fail
        refine (HJ.out _).mono ?_
        rintro e w' ⟨rfl, rfl⟩
        have hv := V3.out.keep (Below.refl _ _)
        obtain ⟨q0, q1, q2, q3⟩ := hv.tells2
        obtain ⟨f0, f1, f2, f3⟩ := fin_plane (w := w) hv (OwnR.nil _ w.heap.size 0) (.inr (Nat.zero_le _)) (by omega) (Nat.zero_le _) (below_step HB.out (Below.refl _ _)) (.int .i64 0) (.slice none 0 0)
        have F2 := Lib.hid f2
        have F3 := Lib.hid f3
        clear f2 f3 hv
        go_wp2
        exact bodyPost_ret (v := .tuple #[.agg #[.int .i64 0, .slice none 0 0], .int .i64 (2)]) (by simp [results, Try.results36, go_sem, f0, f1]) rfl ⟨_, rfl, F2.out, F3.out⟩
    · have hd' : inB d 1 10 = false := by simpa using hd
      rw [hd'] at HI
      have HA : Hid (corP m d k = (0, [], 2)) := Lib.hid (by unfold corP; rw [if_pos hm, if_neg (fun h => hd h.1)])
      rw [HA.out]
      clear hm hd hd'
      go_enter Try.func36, Try.ntmps36
      go_wp2_with fail
      rw [HW.out]
      refine (HM.out _).mono ?_
      rintro e w' ⟨rfl, rfl⟩
      go_wp2_with fail
      refine (HI.out _).mono ?_
      rintro e w' ⟨rfl, rfl⟩
      have hv := V3.out.keep (Below.refl _ _)
      obtain ⟨q0, q1, q2, q3⟩ := hv.tells2
      obtain ⟨f0, f1, f2, f3⟩ := fin_plane (w := w) hv (OwnR.nil _ w.heap.size 0) (.inr (Nat.zero_le _)) (by omega) (Nat.zero_le _) (below_step HB.out (Below.refl _ _)) (.int .i64 0) (.slice none 0 0)
      have F2 := Lib.hid f2
      have F3 := Lib.hid f3
      clear f2 f3 hv
      go_wp2
      exact bodyPost_ret (v := .tuple #[.agg #[.int .i64 0, .slice none 0 0], .int .i64 (2)]) (by simp [results, Try.results36, go_sem, f0, f1]) rfl ⟨_, rfl, F2.out, F3.out⟩
  · have hm' : isM m = false := by simpa using hm
    rw [hm'] at HM
    have HA : Hid (corP m d k = (0, [], 1)) := Lib.hid (by unfold corP; rw [if_neg hm])
    rw [HA.out]
    clear hm hm'
    go_enter Try.func36, Try.ntmps36
    go_wp2_with fail
    rw [HW.out]
    refine (HM.out _).mono ?_
    rintro e w' ⟨rfl, rfl⟩
    have hv := V3.out.keep (Below.refl _ _)
    obtain ⟨q0, q1, q2, q3⟩ := hv.tells2
    obtain ⟨f0, f1, f2, f3⟩ := fin_plane (w := w) hv (OwnR.nil _ w.heap.size 0) (.inr (Nat.zero_le _)) (by omega) (Nat.zero_le _) (below_step HB.out (Below.refl _ _)) (.int .i64 0) (.slice none 0 0)
    have F2 := Lib.hid f2
    have F3 := Lib.hid f3
    clear f2 f3 hv
    go_wp2
    exact bodyPost_ret (v := .tuple #[.agg #[.int .i64 0, .slice none 0 0], .int .i64 (1)]) (by simp [results, Try.results36, go_sem, f0, f1]) rfl ⟨_, rfl, F2.out, F3.out⟩
theorem corT_put {m : Int} {d : Nat} (m1 : 2 ≤ m) (d1 : 1 ≤ d) (k : Nat) (hk : k ≤ 1) : (Pl.tab m d fun _ _ => 0).set (1 - k) ((Pl.rw' (Pl.tab m d fun _ _ => 0) (1 - k)).set k 1) = corT m d k := by
  have h1 : (1 : Int) % m = 1 := Int.emod_eq_of_lt (by omega) (by omega)
  have key : ∀ n, n ≤ d → Ser.co (Ser.cut m d (Ser.mon 1 1)) n = if n = 1 then 1 else 0 := by
    intro n hn
    rw [Ser.co_cut hn]
    unfold Ser.mon
    split
    · exact h1
    · exact Int.zero_emod _
  unfold corT
  refine Pl.tab_put (by omega) ?_ (fun i j hij hne => ?_)
  · unfold gosF
    by_cases h : k = 0
    · subst h
      have e0 : ((0 : Nat) : Int) = 0 := rfl
      rw [if_pos e0, if_pos rfl, key _ (by omega), if_pos rfl]; exact h1
    · obtain rfl : k = 1 := by omega
      rw [if_neg (by decide), if_pos rfl, key _ (by omega), if_pos rfl]; exact h1
  · unfold gosF
    by_cases h : k = 0
    · subst h
      have e0 : ((0 : Nat) : Int) = 0 := rfl
      rw [if_pos e0]
      by_cases hj : j = 0
      · rw [if_pos hj, key _ (by omega), if_neg (by omega)]
      · rw [if_neg hj]
    · obtain rfl : k = 1 := by omega
      rw [if_neg (by decide)]
      by_cases hi : i = 0
      · rw [if_pos hi, key _ (by omega), if_neg (by omega)]
      · rw [if_neg hi]
set_option maxHeartbeats 4000000 in
set_option maxRecDepth 100000 in
theorem sCoordinatePlane_any (m d k : Int) (w : World) :
    Calls Try.prog 35 #[.int .i64 m, .int .i64 d, .int .i64 k] w fun e w' => ∃ s, e = .returned (.tuple #[.agg #[.int .i64 (corP m d k).1, s], .int .i64 (corP m d k).2.2]) ∧ OwnR w' w.heap.size w'.heap.size s (corP m d k).2.1 ∧ Below w.heap.size w w' := by
  obtain ⟨W, hW, v3, hwb⟩ := var0 w
  have V3 := Lib.hid v3
  have HB := Lib.hid hwb
  have HW := Lib.hid hW
  have HM := Lib.hid (fun W0 => l01Modulus_any m W0)
  have HI := Lib.hid (fun W0 => l01In_any d 1 10 W0)
  have HJ := Lib.hid (fun W0 => l01In_any k 0 1 W0)
  clear v3 hwb hW
  by_cases hm : isM m = true
  · obtain ⟨m1, m2⟩ := (isM_iff m).1 hm
    rw [hm] at HM
    by_cases hd : inB d 1 10 = true
    · rw [hd] at HI
      obtain ⟨d1, d2⟩ := (inB_iff _ _ _).1 hd
      by_cases hk : inB k 0 1 = true
      · rw [hk] at HJ
        obtain ⟨k1, k2⟩ := (inB_iff _ _ _).1 hk
        obtain ⟨e, he⟩ : ∃ e : Nat, (e : Int) = d := ⟨d.toNat, by omega⟩
        obtain ⟨q, hq⟩ : ∃ q : Nat, (q : Int) = k := ⟨k.toNat, by omega⟩
        subst he hq
        have HA : Hid (corP m (e : Int) (q : Int) = (m, corT m e q, 0)) := Lib.hid (by unfold corP; rw [if_pos hm, if_pos ⟨hd, hk⟩, show (e : Int).toNat = e by omega])
        rw [HA.out]
        have HZ := Lib.hid (fun W0 => l03Zero_any m e W0 (by omega))
        have HPUT := Lib.hid (corT_put m1 (show 1 ≤ e by omega) q (by omega))
        obtain ⟨T, hT⟩ : ∃ T, corT m e q = T := ⟨_, rfl⟩
        rw [hT] at HPUT ⊢
        have hTl : T.length = e + 1 := by rw [← hT]; exact Pl.tab_length _ _ _
        have HTL := Lib.hid hTl
        have hsub : (1 : Int) - (q : Int) = ((1 - q : Nat) : Int) := by omega
        have HQ := Lib.hid hsub
        clear hm hd hk hT hTl hsub
        go_enter Try.func35, Try.ntmps35
        go_wp2_with fail
        rw [HW.out]
        refine (HM.out _).mono ?_
        rintro e w' ⟨rfl, rfl⟩
        go_wp2_with fail
        refine (HI.out _).mono ?_
        rintro e w' ⟨rfl, rfl⟩
        go_wp2_with fail
        refine (HJ.out _).mono ?_
        rintro e w' ⟨rfl, rfl⟩
        go_wp2_with fail
        refine (HZ.out _).mono ?_
        rintro e1 w3 ⟨v, rfl, ho, hb3⟩
        obtain ⟨g, cv, rfl⟩ := ho.openv (by rw [Pl.tab_length]; omega)
        rw [Pl.tab_length] at ho ⊢
        obtain ⟨b2, c3, g1, g2, g3, g4, hcel⟩ := ho.numB (1 - q) q (e - (1 - q) + 1) (by rw [Pl.tab_length]; omega) (by rw [Pl.tab_row m e _ _ (by omega), Ser.cut_length]) (by omega)
        obtain ⟨c4, c5, c6, c7⟩ := hcel w3 (Below.refl _ _)
        have h8 := c7 1
        rw [HPUT.out] at h8
        obtain ⟨r, hr⟩ : ∃ r, 1 - q = r := ⟨_, rfl⟩
        obtain ⟨M, hM⟩ : ∃ M, e - r + 1 = M := ⟨_, rfl⟩
        have hqr : (1 : Int) - (q : Int) = (r : Int) := by omega
        rw [hr] at c4
        rw [hM] at c4
        have i1 : (0 : Int) ≤ (r : Int) := by omega
        have i2 : (r : Int) < (e : Int) + 1 := by omega
        have i3 : (q : Int) < (M : Int) := by omega
        have HB2 := Lib.hid (hb3.setCell (p := ⟨b2, q, none⟩) g2 (.int .i64 1))
        obtain ⟨w4, hw4⟩ : ∃ w4, w3.setCell ⟨b2, q, none⟩ (.int .i64 1) = w4 := ⟨_, rfl⟩
        have ho4 := h8.more (show w3.heap.size ≤ (w3.setCell ⟨b2, q, none⟩ (.int .i64 1)).heap.size by simp [World.setCell])
        rw [hw4] at ho4 HB2
        have HO4 := Lib.hid ho4
        have HW4 := Lib.hid hw4
        clear hcel c7 h8 ho ho4 hw4 hb3 hr hM
        go_wp2_with fail
        rw [HW4.out]
        refine (l03Make_any _ _ _ _ _).mono ?_
        rintro e2 w5 ⟨rfl, hb5⟩
        have hb := below_step HB2.out hb5
        have hv := V3.out.keep hb
        obtain ⟨q0, q1, q2, q3⟩ := hv.tells2
        obtain ⟨f0, f1, f2, f3⟩ := fin_plane (w := w) hv (HO4.out.keep hb5) (.inl V3.out.lt) (Nat.le_refl _) hb5.size (below_step HB.out hb) (.int .i64 m) (.slice (some ⟨g, 0, none⟩) (e + 1) cv)
        have F2 := Lib.hid (f2.low (lo' := w.heap.size) HB.out.size)
        have F3 := Lib.hid f3
        clear f2 f3 hv hb hb5
        go_wp2
        exact bodyPost_ret (v := .tuple #[.agg #[.int .i64 m, .slice (some ⟨g, 0, none⟩) (e + 1) cv], .int .i64 0]) (by simp [results, Try.results35, go_sem, f0, f1]) rfl ⟨_, rfl, F2.out, F3.out⟩
      · have hk' : inB k 0 1 = false := by simpa using hk
        rw [hk'] at HJ
        have HA : Hid (corP m d k = (0, [], 2)) := Lib.hid (by unfold corP; rw [if_pos hm, if_neg (fun h => hk h.2)])
        rw [HA.out]
        clear hm hd hk hk'
        go_enter Try.func35, Try.ntmps35
        go_wp2_with fail
        rw [HW.out]
        refine (HM.out _).mono ?_
        rintro e w' ⟨rfl, rfl⟩
        go_wp2_with fail
        refine (HI.out _).mono ?_
        rintro e w' ⟨rfl, rfl⟩
        go_wp2_with fail
        refine (HJ.out _).mono ?_
        rintro e w' ⟨rfl, rfl⟩
        have hv := V3.out.keep (Below.refl _ _)
        obtain ⟨q0, q1, q2, q3⟩ := hv.tells2
        obtain ⟨f0, f1, f2, f3⟩ := fin_plane (w := w) hv (OwnR.nil _ w.heap.size 0) (.inr (Nat.zero_le _)) (by omega) (Nat.zero_le _) (below_step HB.out (Below.refl _ _)) (.int .i64 0) (.slice none 0 0)
        have F2 := Lib.hid f2
        have F3 := Lib.hid f3
        clear f2 f3 hv
        go_wp2
        exact bodyPost_ret (v := .tuple #[.agg #[.int .i64 0, .slice none 0 0], .int .i64 (2)]) (by simp [results, Try.results35, go_sem, f0, f1]) rfl ⟨_, rfl, F2.out, F3.out⟩
    · have hd' : inB d 1 10 = false := by simpa using hd
      rw [hd'] at HI
      have HA : Hid (corP m d k = (0, [], 2)) := Lib.hid (by unfold corP; rw [if_pos hm, if_neg (fun h => hd h.1)])
      rw [HA.out]
      clear hm hd hd'
      go_enter Try.func35, Try.ntmps35
      go_wp2_with fail
      rw [HW.out]
      refine (HM.out _).mono ?_
      rintro e w' ⟨rfl, rfl⟩
      go_wp2_with fail
      refine (HI.out _).mono ?_
      rintro e w' ⟨rfl, rfl⟩
      have hv := V3.out.keep (Below.refl _ _)
      obtain ⟨q0, q1, q2, q3⟩ := hv.tells2
      obtain ⟨f0, f1, f2, f3⟩ := fin_plane (w := w) hv (OwnR.nil _ w.heap.size 0) (.inr (Nat.zero_le _)) (by omega) (Nat.zero_le _) (below_step HB.out (Below.refl _ _)) (.int .i64 0) (.slice none 0 0)
      have F2 := Lib.hid f2
      have F3 := Lib.hid f3
      clear f2 f3 hv
      go_wp2
      exact bodyPost_ret (v := .tuple #[.agg #[.int .i64 0, .slice none 0 0], .int .i64 (2)]) (by simp [results, Try.results35, go_sem, f0, f1]) rfl ⟨_, rfl, F2.out, F3.out⟩
  · have hm' : isM m = false := by simpa using hm
    rw [hm'] at HM
    have HA : Hid (corP m d k = (0, [], 1)) := Lib.hid (by unfold corP; rw [if_neg hm])
    rw [HA.out]
    clear hm hm'
    go_enter Try.func35, Try.ntmps35
    go_wp2_with fail
    rw [HW.out]
    refine (HM.out _).mono ?_
    rintro e w' ⟨rfl, rfl⟩
    have hv := V3.out.keep (Below.refl _ _)
    obtain ⟨q0, q1, q2, q3⟩ := hv.tells2
    obtain ⟨f0, f1, f2, f3⟩ := fin_plane (w := w) hv (OwnR.nil _ w.heap.size 0) (.inr (Nat.zero_le _)) (by omega) (Nat.zero_le _) (below_step HB.out (Below.refl _ _)) (.int .i64 0) (.slice none 0 0)
    have F2 := Lib.hid f2
    have F3 := Lib.hid f3
    clear f2 f3 hv
    go_wp2
    exact bodyPost_ret (v := .tuple #[.agg #[.int .i64 0, .slice none 0 0], .int .i64 (1)]) (by simp [results, Try.results35, go_sem, f0, f1]) rfl ⟨_, rfl, F2.out, F3.out⟩
end Go.Proofs.Ytjgpdgoclianlaa
