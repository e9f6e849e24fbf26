/- Contract of the model's PartialPlane. -/
import Derived.Test.YtjgpdgoclianlaaPpa
namespace Go.Proofs.Ytjgpdgoclianlaa
open Go.RowKit Go.WideShapes Go.ChangeShapes Go.ChangeAt

set_option maxHeartbeats 8000000 in
set_option maxRecDepth 100000 in
theorem sPartialPlane_any (m : Int) (A : Option Addr) (c : Nat) (t : List (List Int)) (k : Int) (w : World) (hz : szT t ≤ 1048576) (hr : RP w A t) :
    Calls Try.prog 50 #[.agg #[.int .i64 m, .slice A t.length c], .int .i64 k] w fun e w' => ∃ s, e = .returned (.tuple #[.agg #[.int .i64 (parP m t k).1, s], .int .i64 (parP m t k).2.2]) ∧ OwnR w' w.heap.size w'.heap.size s (parP m t k).2.1 ∧ Below w.heap.size w w' := by
  obtain ⟨W, hW, b1, v3, hwb⟩ := spro1P w m A t.length c
  have B1 := Lib.hid b1
  have V3 := Lib.hid v3
  have HB := Lib.hid hwb
  have HW := Lib.hid hW
  have HC := Lib.hid (l03Is_z m A c t W hz (hr.below hwb))
  by_cases h0 : isP m t = true
  · obtain ⟨d, e1, ok⟩ := plOk_of h0
    have hc := HC.out
    rw [h0] at hc
    have HC0 := Lib.hid hc
    have HG := Lib.hid (fun W0 => l03Degree_any m A t.length c d W0 e1 (by have := ok.d2; omega))
    by_cases hk : inB k 0 1 = true
    · obtain ⟨k1, k2⟩ := (inB_iff _ _ _).1 hk
      have HI := Lib.hid (fun W0 => by have := l01In_any k 0 1 W0; rw [hk] at this; exact this)
      by_cases hd1 : d = 1
      · have HA : Hid (parP m t k = (0, [], 5)) := Lib.hid (by unfold parP; rw [if_pos h0, if_pos hk, if_pos (by omega)])
        rw [HA.out]
        have hd1' : (d : Int) = 1 := by omega
        rw [hd1'] at HG
        clear b1 v3 hwb hW hr hc HC h0 ok e1 hk hd1 hd1'
        go_enter Try.func50, Try.ntmps50
        go_wp2_with fail
        rw [HW.out]
        refine HC0.out.mono ?_
        rintro e w1 ⟨rfl, hb1⟩
        obtain ⟨x1, x2, x3⟩ := B1.out.keep hb1
        go_wp2_with fail
        refine (HI.out _).mono ?_
        rintro e w' ⟨rfl, rfl⟩
        go_wp2_with fail
        refine (HG.out _).mono ?_
        rintro e w2 ⟨rfl, hb2⟩
        have hv := V3.out.keep (below_step hb1 hb2)
        obtain ⟨q0, q1, q2, q3⟩ := hv.tells2
        obtain ⟨f0, f1, f2, f3⟩ := fin_plane (w := w) hv (OwnR.nil _ w.heap.size 0) (.inr (Nat.zero_le _)) (by omega) (Nat.zero_le _) (below_step HB.out (below_step hb1 hb2)) (.int .i64 0) (.slice none 0 0)
        have F2 := Lib.hid f2
        have F3 := Lib.hid f3
        clear f2 f3 hv
        go_wp2
        exact bodyPost_ret (v := .tuple #[.agg #[.int .i64 0, .slice none 0 0], .int .i64 (5)]) (by simp [results, Try.results50, go_sem, f0, f1]) rfl ⟨_, rfl, F2.out, F3.out⟩
      · obtain ⟨D, hD⟩ : ∃ D, d = D + 1 := ⟨d - 1, by have := ok.d1; omega⟩
        have HA : Hid (parP m t k = (m, parT m D t k, 0)) := Lib.hid (by unfold parP; rw [if_pos h0, if_pos hk, if_neg (by omega), show t.length - 2 = D by omega])
        rw [HA.out]
        have hd3 : ¬ (d : Int) = 1 := by omega
        obtain ⟨n1, n2⟩ : ((d : Int) == 1) = false ∧ ((d : Int) != 1) = true := ⟨by simpa using hd3, by simpa using hd3⟩
        have ok2 : ∀ f, Pl.Ok m d (Pl.tab m d f) := fun f => ok.tab f
        have ok3 : ∀ f, Pl.Ok m D (Pl.tab m D f) := fun f => Pl.Ok.of_tab ok.m1 ok.m2 (by omega) (by have := ok.d2; omega) f
        by_cases hk0 : k = 0
        · subst hk0
          have HP := Lib.hid (fun W0 (h : Below W.heap.size W W0) => by have := l03Partial_any m d D A c t W0 hD ok ((hr.below hwb).below h); rw [parT_zero] at this; exact this)
          obtain ⟨T, hT⟩ : ∃ T, parT m D t 0 = T := ⟨_, rfl⟩
          rw [hT] at HP ⊢
          obtain ⟨L, hL⟩ : ∃ L, t.length = L := ⟨_, rfl⟩
          rw [hL] at HW B1 HP HC0 HG ⊢
          clear b1 v3 hwb hW hr hc HC h0 ok e1 hk hd1 hT hD ok2 ok3 hL
          go_enter Try.func50, Try.ntmps50
          go_wp2_with fail
          rw [HW.out]
          refine HC0.out.mono ?_
          rintro e w1 ⟨rfl, hb1⟩
          obtain ⟨y1, y2, y3⟩ := B1.out.keep hb1
          go_wp2_with fail
          refine (HI.out _).mono ?_
          rintro e w' ⟨rfl, rfl⟩
          go_wp2_with fail
          refine (HG.out _).mono ?_
          rintro e w0 ⟨rfl, hb0b⟩
          have hb0 := below_step hb1 hb0b
          clear y1 y2 y3 hb0b
          obtain ⟨x1, x2, x3⟩ := B1.out.keep hb0
          go_wp2
          go_region_held3 (fun w' => w'.cell? ⟨w.heap.size, 0, none⟩ = some (.int .i64 m) ∧ w'.cell? ⟨w.heap.size, 1, none⟩ = some (.slice A L c) ∧ w.heap.size < w'.heap.size) (first | exact ⟨x1, x2, x3⟩ | exact box_store (by omega) (by assumption) | exact box_call (by assumption) (by assumption)) (first
            | (go_at_call 102; refine (HP.out _ (below_step hb0 (below_drew0 _))).mono ?_; rintro e2 w2 ⟨s, rfl, ho, hb2⟩; obtain ⟨A2, c2, rfl, _⟩ := ho.len)
            | (go_at_call 61; refine (l03Make_any _ _ _ _ _).mono ?_; rintro e3 w3 ⟨rfl, hb3⟩; have hv := V3.out.keep (below_step (below_step (below_step hb0 (below_drew0 _)) hb2) hb3); obtain ⟨q0, q1, q2, q3⟩ := hv.tells2))
          all_goals
            have hw3 := below_step (below_step (below_step hb0 (below_drew0 _)) hb2) hb3
            have hz1 := (below_step hb0 (below_drew0 _)).size
            have hz2 := V3.out.lt
            obtain ⟨f0, f1, f2, f3⟩ := fin_plane (w := w) hv (ho.keep hb3) (.inl (by omega)) (by omega) hb3.size (below_step HB.out hw3) (.int .i64 m) (.slice A2 T.length c2)
            have F2 := Lib.hid (f2.low (lo' := w.heap.size) (by omega))
            have F3 := Lib.hid f3
            clear f2 f3 ho hb0 hb2 hb3 hv hw3
            go_wp2
            exact bodyPost_ret (v := .tuple #[.agg #[.int .i64 m, .slice A2 T.length c2], .int .i64 0]) (by simp [results, Try.results50, go_sem, f0, f1]) rfl ⟨_, rfl, F2.out, F3.out⟩
        · obtain ⟨o1, o2⟩ := ne_facts hk0
          have HP1 := Lib.hid (fun W0 (h : Below W.heap.size W W0) => l03Turn_any m d A c t W0 ok ((hr.below hwb).below h))
          have HP2 := Lib.hid (fun (W0 : World) (A0 : Option Addr) (c0 : Nat) (h : RP W0 A0 (Pl.tab m d fun i j => Pl.pc t j i)) => l03Partial_any m d D A0 c0 _ W0 hD (ok2 _) h)
          have HP3 := Lib.hid (fun (W0 : World) (A0 : Option Addr) (c0 : Nat) (h : RP W0 A0 (Pl.tab m D (derF (Pl.tab m d fun i j => Pl.pc t j i)))) => by have := l03Turn_any m D A0 c0 _ W0 (ok3 _) h; rw [par_turn m D d t k hD hk0] at this; exact this)
          obtain ⟨T1, hT1⟩ : ∃ T1, (Pl.tab m d fun i j => Pl.pc t j i) = T1 := ⟨_, rfl⟩
          rw [hT1] at HP1 HP2 HP3
          obtain ⟨T2, hT2⟩ : ∃ T2, Pl.tab m D (derF T1) = T2 := ⟨_, rfl⟩
          rw [hT2] at HP2 HP3
          obtain ⟨T, hT⟩ : ∃ T, parT m D t k = T := ⟨_, rfl⟩
          rw [hT] at HP3 ⊢
          obtain ⟨L, hL⟩ : ∃ L, t.length = L := ⟨_, rfl⟩
          rw [hL] at HW B1 HP1 HC0 HG ⊢
          clear b1 v3 hwb hW hr hc HC h0 ok e1 hk hd1 hT hD ok2 ok3 hT1 hT2 hL
          go_enter Try.func50, Try.ntmps50
          go_wp2_with fail
          rw [HW.out]
          refine HC0.out.mono ?_
          rintro e w1 ⟨rfl, hb1⟩
          obtain ⟨y1, y2, y3⟩ := B1.out.keep hb1
          go_wp2_with fail
          refine (HI.out _).mono ?_
          rintro e w' ⟨rfl, rfl⟩
          go_wp2_with fail
          refine (HG.out _).mono ?_
          rintro e w0 ⟨rfl, hb0b⟩
          have hb0 := below_step hb1 hb0b
          clear y1 y2 y3 hb0b
          obtain ⟨x1, x2, x3⟩ := B1.out.keep hb0
          go_wp2
          go_region_held3 (fun w' => w'.cell? ⟨w.heap.size, 0, none⟩ = some (.int .i64 m) ∧ w'.cell? ⟨w.heap.size, 1, none⟩ = some (.slice A L c) ∧ w.heap.size < w'.heap.size) (first | exact ⟨x1, x2, x3⟩ | exact box_store (by omega) (by assumption) | exact box_call hb5 (by assumption) | exact box_call hb4 (by assumption) | exact box_call hb3 (by assumption) | exact box_call hb2 (by assumption)) (first
            | (go_at_call 73; with_reducible refine Calls.mono (HP1.out _ (below_step hb0 (below_drew0 _))) ?_; rintro e2 w2 ⟨s1, rfl, ho1, hb2⟩; obtain ⟨A4, c4, rfl, hp1⟩ := ho1.len)
            | (go_at_call 102; refine (HP2.out _ _ _ hp1).mono ?_; rintro e3 w3 ⟨s2, rfl, ho2, hb3⟩; obtain ⟨A5, c5, rfl, hp2⟩ := ho2.len)
            | (go_at_call 73; with_reducible refine Calls.mono (HP3.out _ _ _ hp2) ?_; rintro e4 w4 ⟨s, rfl, ho, hb4⟩; obtain ⟨A2, c2, rfl, -⟩ := ho.len)
            | (go_at_call 61; refine (l03Make_any _ _ _ _ _).mono ?_; rintro e5 w5 ⟨rfl, hb5⟩; have hv := V3.out.keep (below_step (below_step (below_step (below_step (below_step hb0 (below_drew0 _)) hb2) hb3) hb4) hb5); obtain ⟨q0, q1, q2, q3⟩ := hv.tells2))
          all_goals
            have hw3 := below_step (below_step (below_step (below_step (below_step hb0 (below_drew0 _)) hb2) hb3) hb4) hb5
            have hz1 := (below_step (below_step (below_step hb0 (below_drew0 _)) hb2) hb3).size
            have hz2 := V3.out.lt
            obtain ⟨f0, f1, f2, f3⟩ := fin_plane (w := w) hv (ho.keep hb5) (.inl (by omega)) (by omega) hb5.size (below_step HB.out hw3) (.int .i64 m) (.slice A2 T.length c2)
            have F2 := Lib.hid (f2.low (lo' := w.heap.size) (by omega))
            have F3 := Lib.hid f3
            clear f2 f3 ho hb0 hb2 hb3 hb4 hb5 hv hw3 ho1 ho2 hp1 hp2
            go_wp2
            exact bodyPost_ret (v := .tuple #[.agg #[.int .i64 m, .slice A2 T.length c2], .int .i64 0]) (by simp [results, Try.results50, go_sem, f0, f1]) rfl ⟨_, rfl, F2.out, F3.out⟩
    · have HA : Hid (parP m t k = (0, [], 2)) := Lib.hid (by unfold parP; rw [if_pos h0, if_neg hk])
      rw [HA.out]
      have hk' : inB k 0 1 = false := by simpa using hk
      have HI := Lib.hid (fun W0 => by have := l01In_any k 0 1 W0; rw [hk'] at this; exact this)
      clear b1 v3 hwb hW hr hc HC h0 ok e1 hk hk'
      go_enter Try.func50, Try.ntmps50
      go_wp2_with fail
      rw [HW.out]
      refine HC0.out.mono ?_
      rintro e w2 ⟨rfl, hb1⟩
      go_wp2_with fail
      refine (HI.out _).mono ?_
      rintro e w' ⟨rfl, rfl⟩
      have hv := V3.out.keep (hb1)
      obtain ⟨q0, q1, q2, q3⟩ := hv.tells2
      obtain ⟨f0, f1, f2, f3⟩ := fin_plane (w := w) hv (OwnR.nil _ w.heap.size 0) (.inr (Nat.zero_le _)) (by omega) (Nat.zero_le _) (below_step HB.out (hb1)) (.int .i64 0) (.slice none 0 0)
      have F2 := Lib.hid f2
      have F3 := Lib.hid f3
      clear f2 f3 hv
      go_wp2
      exact bodyPost_ret (v := .tuple #[.agg #[.int .i64 0, .slice none 0 0], .int .i64 (2)]) (by simp [results, Try.results50, go_sem, f0, f1]) rfl ⟨_, rfl, F2.out, F3.out⟩
  · have h0' : isP m t = false := by simpa using h0
    have hc := HC.out
    rw [h0'] at hc
    have HC0 := Lib.hid hc
    have HA : Hid (parP m t k = (0, [], 1)) := Lib.hid (by unfold parP; rw [if_neg h0])
    rw [HA.out]
    clear b1 v3 hwb hW hr hc HC h0 h0'
    go_enter Try.func50, Try.ntmps50
    go_wp2_with fail
    rw [HW.out]
    refine HC0.out.mono ?_
    rintro e w1 ⟨rfl, hb1⟩
    have hv := V3.out.keep (hb1)
    obtain ⟨q0, q1, q2, q3⟩ := hv.tells2
    obtain ⟨f0, f1, f2, f3⟩ := fin_plane (w := w) hv (OwnR.nil _ w.heap.size 0) (.inr (Nat.zero_le _)) (by omega) (Nat.zero_le _) (below_step HB.out (hb1)) (.int .i64 0) (.slice none 0 0)
    have F2 := Lib.hid f2
    have F3 := Lib.hid f3
    clear f2 f3 hv
    go_wp2
    exact bodyPost_ret (v := .tuple #[.agg #[.int .i64 0, .slice none 0 0], .int .i64 (1)]) (by simp [results, Try.results50, go_sem, f0, f1]) rfl ⟨_, rfl, F2.out, F3.out⟩
end Go.Proofs.Ytjgpdgoclianlaa
