/- Contracts of ApplySeries, of the program and of the model. -/
import Derived.Test.YtjgpdgoclianlaaPaq
import Derived.Test.YtjgpdgoclianlaaPco
namespace Go.Proofs.Ytjgpdgoclianlaa
open Go.RowKit Go.WideShapes Go.ChangeShapes Go.ChangeAt

/-- the model of ApplySeries -/
def appP (m : Int) (l : List Int) (m' : Int) (t : List (List Int)) : Int × List (List Int) × Int :=
  if codePS m' t m l = 0 then (if Pl.pc t 0 0 = 0 then (m', Pl.hor m' (t.length - 1) l (Pl.pc t) t.length, 0) else (0, [], 5)) else (0, [], codePS m' t m l)
theorem appP_len (m : Int) (l : List Int) (m' : Int) (t : List (List Int)) : szT (appP m l m' t).2.1 ≤ 1048576 := by
  unfold appP
  split
  · rename_i h
    obtain ⟨_, d, e, _, s, _⟩ := codePS_ok h
    split
    · exact szT_ok (Pl.hor_ok s.m1 s.m2 (by have := s.d1; omega) (by have := s.d2; omega) l _ _ : Pl.Ok m' (t.length - 1) _)
    · show szT [] ≤ 1048576
      decide
  · show szT [] ≤ 1048576
    decide
/-- a series' box, a plane's box, the result's variable, the list of the one series -/
theorem proA (w : World) (m : Int) (A : Option Addr) (n c : Nat) (m' : Int) (A' : Option Addr) (n' c' : Nat) : ∃ W, (((w.alloc (.cells #[.int .i64 m, .slice A n c] 49)).alloc (.cells #[.int .i64 m', .slice A' n' c'] 27)).alloc (.cells #[.int .i64 0, .slice none 0 0] 27)).alloc (.cells #[.int .i64 m, .slice A n c] 49) = W ∧
    Box W w.heap.size m A n c ∧ Box W (w.heap.size + 1) m' A' n' c' ∧ VarC 27 W (w.heap.size + 1 + 1) #[.int .i64 0, .slice none 0 0] ∧ Box W (w.heap.size + 1 + 1 + 1) m A n c ∧ Below w.heap.size w W := by
  refine ⟨_, rfl, (((Box.newT _ _ _ _ _ _).keep (below_one _ _)).keep (below_one _ _)).keep (below_one _ _), ?_, ?_, ?_, below_alloc _ (below_alloc _ (below_alloc _ (below_one _ _)))⟩
  · have := ((Box.newT 27 (w.alloc (.cells #[.int .i64 m, .slice A n c] 49)) m' A' n' c').keep (below_one _ (.cells #[.int .i64 0, .slice none 0 0] 27))).keep (below_one _ (.cells #[.int .i64 m, .slice A n c] 49))
    simpa using this
  · have := (VarC.new 27 ((w.alloc (.cells #[.int .i64 m, .slice A n c] 49)).alloc (.cells #[.int .i64 m', .slice A' n' c'] 27)) #[.int .i64 0, .slice none 0 0]).keep (below_one _ (.cells #[.int .i64 m, .slice A n c] 49))
    simpa using this
  · have := Box.newT 49 (((w.alloc (.cells #[.int .i64 m, .slice A n c] 49)).alloc (.cells #[.int .i64 m', .slice A' n' c'] 27)).alloc (.cells #[.int .i64 0, .slice none 0 0] 27)) m A n c
    simpa using this
theorem kp2_call {w w' : World} {a1 a2 a3 a4 : Addr} {x y z u : Value} (hb : Below w.heap.size w w') (hs : (w.cell? a1 = some x ∧ w.cell? a2 = some y) ∧ (w.cell? a3 = some z ∧ w.cell? a4 = some u)) : (w'.cell? a1 = some x ∧ w'.cell? a2 = some y) ∧ (w'.cell? a3 = some z ∧ w'.cell? a4 = some u) :=
  ⟨kp_call hb hs.1, kp_call hb hs.2⟩
theorem kp2_store {w : World} {a1 a2 a3 a4 b : Addr} {x y z u v : Value} (h1 : b.block ≠ a1.block) (h2 : b.block ≠ a2.block) (h3 : b.block ≠ a3.block) (h4 : b.block ≠ a4.block) (hs : (w.cell? a1 = some x ∧ w.cell? a2 = some y) ∧ (w.cell? a3 = some z ∧ w.cell? a4 = some u)) : ((w.setCell b v).cell? a1 = some x ∧ (w.setCell b v).cell? a2 = some y) ∧ ((w.setCell b v).cell? a3 = some z ∧ (w.setCell b v).cell? a4 = some u) :=
  ⟨kp_store h1 h2 hs.1, kp_store h3 h4 hs.2⟩
theorem kp2_store2 {w : World} {g g1 g2 i1 i2 i3 i4 : Nat} {x y z u v v' : Value} (h1 : g ≠ g1) (h2 : g ≠ g2) (hs : (w.cell? ⟨g1, i1, none⟩ = some x ∧ w.cell? ⟨g1, i2, none⟩ = some y) ∧ (w.cell? ⟨g2, i3, none⟩ = some z ∧ w.cell? ⟨g2, i4, none⟩ = some u)) :
    (((w.setCell ⟨g, 0, none⟩ v).setCell ⟨g, 1, none⟩ v').cell? ⟨g1, i1, none⟩ = some x ∧ ((w.setCell ⟨g, 0, none⟩ v).setCell ⟨g, 1, none⟩ v').cell? ⟨g1, i2, none⟩ = some y) ∧ (((w.setCell ⟨g, 0, none⟩ v).setCell ⟨g, 1, none⟩ v').cell? ⟨g2, i3, none⟩ = some z ∧ ((w.setCell ⟨g, 0, none⟩ v).setCell ⟨g, 1, none⟩ v').cell? ⟨g2, i4, none⟩ = some u) :=
  kp2_store h1 h1 h2 h2 (kp2_store h1 h1 h2 h2 hs)
set_option maxHeartbeats 8000000 in
set_option maxRecDepth 100000 in
theorem ApplySeries_any (m : Int) (A : Option Addr) (c : Nat) (l : List Int) (m' : Int) (A' : Option Addr) (c' : Nat) (t : List (List Int)) (w : World) (hl : l.length ≤ 1048576) (hz : szT t ≤ 1048576) (hr : RI w A l) (hr' : RP w A' t) :
    Calls Try.prog 47 #[.agg #[.int .i64 m, .slice A l.length c], .agg #[.int .i64 m', .slice A' t.length c']] w fun e w' => ∃ s, e = .returned (.tuple #[.agg #[.int .i64 (appP m l m' t).1, s], .int .i64 (appP m l m' t).2.2]) ∧ OwnR w' w.heap.size w'.heap.size s (appP m l m' t).2.1 ∧ Below w.heap.size w w' := by
  obtain ⟨W, hW, b1, b2, v3, b4, hwb⟩ := proA w m A l.length c m' A' t.length c'
  have B1 := Lib.hid b1
  have B2 := Lib.hid b2
  have V3 := Lib.hid v3
  have HB := Lib.hid hwb
  have HW := Lib.hid hW
  have HC := Lib.hid (codePS_any (w.heap.size + 1 + 1 + 1) m' A' c' t m A c l W hz hl (hr'.below hwb) (hr.below hwb) b4)
  by_cases h0 : codePS m' t m l = 0
  · obtain ⟨rfl, d, e1, e2, ok', ok⟩ := codePS_ok h0
    have hc := HC.out
    rw [h0] at hc
    have HC0 := Lib.hid hc
    obtain ⟨b0, off, rfl⟩ := hr'.some (by omega)
    obtain ⟨b', off', c4, L, N, hL, hN, k1, k2, k3⟩ := b2.num ok' (hr'.below hwb) 0 0 (Nat.zero_le _)
    have k2b := k2
    rw [Nat.add_zero] at k2 k3
    have HN := Lib.hid (fun W0 (h : Below W.heap.size W W0) => by
      obtain ⟨b', off', c4, L, N, hL, hN, k1, k2, k3⟩ := (b2.keep h).num ok' ((hr'.below hwb).below h) 0 0 (Nat.zero_le _)
      rw [Nat.add_zero] at k2 k3
      exact (⟨b', off', c4, L, N, hL, hN, k1, k2, k3⟩ : ∃ b' off' c4 L N, L = d + 1 ∧ N = d - 0 + 1 ∧ W0.cell? ⟨w.heap.size + 1, 1, none⟩ = some (.slice (some ⟨b0, off, none⟩) L c') ∧ W0.cell? ⟨b0, off, none⟩ = some (.slice (some ⟨b', off', none⟩) N c4) ∧ W0.cell? ⟨b', off', none⟩ = some (.int .i64 (Pl.pc t 0 0))))
    clear k1 k2 k3 k2b hL hN
    by_cases h00 : Pl.pc t 0 0 = 0
    · have HA : Hid (appP m l m t = (m, Pl.hor m d l (Pl.pc t) (d + 1), 0)) := Lib.hid (by unfold appP; rw [if_pos h0, if_pos h00, e1]; rfl)
      rw [HA.out]
      have HG := Lib.hid (fun W0 => gridOf_nat m (some ⟨b0, off, none⟩) t.length c' d W0 e1 (by have := ok'.d2; omega))
      have HP := Lib.hid (fun W0 (h : Below W.heap.size W W0) => appliedTo_any m d A c l (some ⟨b0, off, none⟩) c' t W0 ok ok' h00 ((hr.below hwb).below h) ((hr'.below hwb).below h))
      rw [h00] at HN
      obtain ⟨T, hT⟩ : ∃ T, Pl.hor m d l (Pl.pc t) (d + 1) = T := ⟨_, rfl⟩
      rw [hT] at HP ⊢
      obtain ⟨Lt, hLt⟩ : ∃ L, t.length = L := ⟨_, rfl⟩
      obtain ⟨Ll, hLl⟩ : ∃ L, l.length = L := ⟨_, rfl⟩
      rw [hLt] at HC0 HG HP HW B2 ⊢
      rw [hLl] at HP HW B1 ⊢
      clear b1 b2 v3 b4 hwb hW hr hr' hc HC h0 ok ok' hT e1 e2 hz hl h00 hLt hLl
      go_enter Try.func47, Try.ntmps47
      go_wp2_with fail
      rw [HW.out]
      refine HC0.out.mono ?_
      rintro e w1 ⟨rfl, hb1⟩
      obtain ⟨x1, x2, -⟩ := B1.out.keep hb1
      obtain ⟨y1, y2, -⟩ := B2.out.keep hb1
      obtain ⟨b', off', c4, L, N, hL, hN, k1, k2, k3⟩ := HN.out w1 hb1
      have z1 : (0 : Int) < (L : Int) := by omega
      have z2 : (0 : Int) < (N : Int) := by omega
      have e5 : L = Lt := by
        have e4 := k1.symm.trans y2
        injection e4 with e4
        injection e4
      subst e5
      clear hL hN k1
      go_wp2
      go_region_held3 (fun w' => (w'.cell? ⟨w.heap.size, 0, none⟩ = some (.int .i64 m) ∧ w'.cell? ⟨w.heap.size, 1, none⟩ = some (.slice A Ll c)) ∧ (w'.cell? ⟨w.heap.size + 1, 0, none⟩ = some (.int .i64 m) ∧ w'.cell? ⟨w.heap.size + 1, 1, none⟩ = some (.slice (some ⟨b0, off, none⟩) L c'))) (first | exact ⟨⟨x1, x2⟩, ⟨y1, y2⟩⟩ | exact kp2_store2 (by omega) (by omega) (by assumption) | exact kp2_call hb5 (by assumption) | exact kp2_call hb4 (by assumption) | exact kp2_call hb2 (by assumption)) (first
        | (go_at_call 55; refine (HG.out _).mono ?_; rintro e2 w2 ⟨rfl, hb2⟩)
        | (go_at_call 98; refine (HP.out _ (below_step (below_step hb1 (below_drew0 _)) hb2)).mono ?_; rintro e4 w4 ⟨s, rfl, ho, hb4⟩; obtain ⟨A2, c2, rfl, -⟩ := ho.len)
        | (go_at_call 65; refine (plane_any _ _ _ _ _ _).mono ?_; rintro e5 w5 ⟨rfl, hb5⟩; have hv := V3.out.keep (below_step (below_step (below_step (below_step hb1 (below_drew0 _)) hb2) hb4) hb5); obtain ⟨q0, q1, q2, q3⟩ := hv.tells2))
      all_goals
        have hw3 : Below W.heap.size W w5 := below_step (below_step (below_step (below_step hb1 (below_drew0 _)) hb2) hb4) hb5
        have hz1 := (below_step (below_step hb1 (below_drew0 _)) hb2).size
        have hz2 := V3.out.lt
        obtain ⟨f0, f1, f2, f3⟩ := fin_plane (w := w) hv (ho.keep hb5) (.inl (by omega)) (by omega) hb5.size (below_step HB.out hw3) (.int .i64 m) (.slice A2 T.length c2)
        have F2 := Lib.hid (f2.low (lo' := w.heap.size) (by omega))
        have F3 := Lib.hid f3
        clear f2 f3 ho hb5 hb4 hv hw3
        go_wp2
        exact bodyPost_ret (v := .tuple #[.agg #[.int .i64 m, .slice A2 T.length c2], .int .i64 0]) (by simp [results, Try.results47, go_sem, f0, f1]) rfl ⟨_, rfl, F2.out, F3.out⟩
    · have HA : Hid (appP m l m t = (0, [], 5)) := Lib.hid (by unfold appP; rw [if_pos h0, if_neg h00])
      rw [HA.out]
      obtain ⟨n1, n2⟩ := ne_facts h00
      obtain ⟨X, hX⟩ : ∃ X, Pl.pc t 0 0 = X := ⟨_, rfl⟩
      rw [hX] at HN n1 n2 h00
      clear b1 b2 v3 b4 hwb hW hr hr' hc HC h0 ok ok' e1 e2 hz hl hX
      go_enter Try.func47, Try.ntmps47
      go_wp2_with fail
      rw [HW.out]
      refine HC0.out.mono ?_
      rintro e w1 ⟨rfl, hb1⟩
      obtain ⟨b', off', c4, L, N, hL, hN, k1, k2, k3⟩ := HN.out w1 hb1
      have z1 : (0 : Int) < (L : Int) := by omega
      have z2 : (0 : Int) < (N : Int) := by omega
      clear hL hN
      have hv := V3.out.keep (hb1)
      obtain ⟨q0, q1, q2, q3⟩ := hv.tells2
      obtain ⟨f0, f1, f2, f3⟩ := fin_plane (w := w) hv (OwnR.nil _ w.heap.size 0) (.inr (Nat.zero_le _)) (by omega) (Nat.zero_le _) (below_step HB.out (hb1)) (.int .i64 0) (.slice none 0 0)
      have F2 := Lib.hid f2
      have F3 := Lib.hid f3
      clear f2 f3 hv
      go_wp2
      exact bodyPost_ret (v := .tuple #[.agg #[.int .i64 0, .slice none 0 0], .int .i64 (5)]) (by simp [results, Try.results47, go_sem, f0, f1]) rfl ⟨_, rfl, F2.out, F3.out⟩
  · have HA : Hid (appP m l m' t = (0, [], codePS m' t m l)) := Lib.hid (by unfold appP; rw [if_neg h0])
    rw [HA.out]
    clear b1 b2 v3 b4 hwb hW hr hr' hz hl
    obtain ⟨n1, n2⟩ := ne_facts h0
    obtain ⟨C, hC⟩ : ∃ C, codePS m' t m l = C := ⟨_, rfl⟩
    have hc := HC.out
    rw [hC] at n1 n2 h0 hc ⊢
    have HC0 := Lib.hid hc
    clear hc HC hC
    go_enter Try.func47, Try.ntmps47
    go_wp2_with fail
    rw [HW.out]
    refine HC0.out.mono ?_
    rintro e w1 ⟨rfl, hb1⟩
    have hv := V3.out.keep (hb1)
    obtain ⟨q0, q1, q2, q3⟩ := hv.tells2
    obtain ⟨f0, f1, f2, f3⟩ := fin_plane (w := w) hv (OwnR.nil _ w.heap.size 0) (.inr (Nat.zero_le _)) (by omega) (Nat.zero_le _) (below_step HB.out (hb1)) (.int .i64 0) (.slice none 0 0)
    have F2 := Lib.hid f2
    have F3 := Lib.hid f3
    clear f2 f3 hv
    go_wp2
    exact bodyPost_ret (v := .tuple #[.agg #[.int .i64 0, .slice none 0 0], .int .i64 (C)]) (by simp [results, Try.results47, go_sem, f0, f1]) rfl ⟨_, rfl, F2.out, F3.out⟩
set_option maxHeartbeats 8000000 in
set_option maxRecDepth 100000 in
theorem sApplySeries_any (m : Int) (A : Option Addr) (c : Nat) (l : List Int) (m' : Int) (A' : Option Addr) (c' : Nat) (t : List (List Int)) (w : World) (hl : l.length ≤ 1048576) (hz : szT t ≤ 1048576) (hr : RI w A l) (hr' : RP w A' t) :
    Calls Try.prog 46 #[.agg #[.int .i64 m, .slice A l.length c], .agg #[.int .i64 m', .slice A' t.length c']] w fun e w' => ∃ s, e = .returned (.tuple #[.agg #[.int .i64 (appP m l m' t).1, s], .int .i64 (appP m l m' t).2.2]) ∧ OwnR w' w.heap.size w'.heap.size s (appP m l m' t).2.1 ∧ Below w.heap.size w w' := by
  obtain ⟨W, hW, b1, b2, v3, b4, hwb⟩ := proA w m A l.length c m' A' t.length c'
  have B1 := Lib.hid b1
  have B2 := Lib.hid b2
  have V3 := Lib.hid v3
  have HB := Lib.hid hwb
  have HW := Lib.hid hW
  have HC := Lib.hid (l03Fits1_any (w.heap.size + 1 + 1 + 1) m' A' c' t m A c l W hz hl (hr'.below hwb) (hr.below hwb) b4)
  by_cases h0 : codePS m' t m l = 0
  · obtain ⟨rfl, d, e1, e2, ok', ok⟩ := codePS_ok h0
    have hc := HC.out
    rw [h0] at hc
    have HC0 := Lib.hid hc
    obtain ⟨b0, off, rfl⟩ := hr'.some (by omega)
    have HN := Lib.hid (fun W0 (h : Below W.heap.size W W0) => by
      obtain ⟨b', off', c4, L, N, hL, hN, k1, k2, k3⟩ := (b2.keep h).num ok' ((hr'.below hwb).below h) 0 0 (Nat.zero_le _)
      rw [Nat.add_zero] at k2 k3
      exact (⟨b', off', c4, L, N, hL, hN, k1, k2, k3⟩ : ∃ b' off' c4 L N, L = d + 1 ∧ N = d - 0 + 1 ∧ W0.cell? ⟨w.heap.size + 1, 1, none⟩ = some (.slice (some ⟨b0, off, none⟩) L c') ∧ W0.cell? ⟨b0, off, none⟩ = some (.slice (some ⟨b', off', none⟩) N c4) ∧ W0.cell? ⟨b', off', none⟩ = some (.int .i64 (Pl.pc t 0 0))))
    by_cases h00 : Pl.pc t 0 0 = 0
    · have HA : Hid (appP m l m t = (m, Pl.hor m d l (Pl.pc t) (d + 1), 0)) := Lib.hid (by unfold appP; rw [if_pos h0, if_pos h00, e1]; rfl)
      rw [HA.out]
      have HP := Lib.hid (fun W0 (h : Below W.heap.size W W0) => l03After_any m d A c l (some ⟨b0, off, none⟩) c' t W0 ok ok' ((hr.below hwb).below h) ((hr'.below hwb).below h))
      rw [h00] at HN
      obtain ⟨T, hT⟩ : ∃ T, Pl.hor m d l (Pl.pc t) (d + 1) = T := ⟨_, rfl⟩
      rw [hT] at HP ⊢
      obtain ⟨Lt, hLt⟩ : ∃ L, t.length = L := ⟨_, rfl⟩
      obtain ⟨Ll, hLl⟩ : ∃ L, l.length = L := ⟨_, rfl⟩
      rw [hLt] at HC0 HP HW B2 ⊢
      rw [hLl] at HP HW B1 ⊢
      clear b1 b2 v3 b4 hwb hW hr hr' hc HC h0 ok ok' hT e1 e2 hz hl h00 hLt hLl
      go_enter Try.func46, Try.ntmps46
      go_wp2_with fail
      rw [HW.out]
      refine HC0.out.mono ?_
      rintro e w1 ⟨rfl, hb1⟩
      obtain ⟨x1, x2, -⟩ := B1.out.keep hb1
      obtain ⟨y1, y2, -⟩ := B2.out.keep hb1
      obtain ⟨b', off', c4, L, N, hL, hN, k1, k2, k3⟩ := HN.out w1 hb1
      have z1 : (0 : Int) < (L : Int) := by omega
      have z2 : (0 : Int) < (N : Int) := by omega
      have e5 : L = Lt := by
        have e4 := k1.symm.trans y2
        injection e4 with e4
        injection e4
      subst e5
      clear hL hN k1
      go_wp2
      go_region_held3 (fun w' => (w'.cell? ⟨w.heap.size, 0, none⟩ = some (.int .i64 m) ∧ w'.cell? ⟨w.heap.size, 1, none⟩ = some (.slice A Ll c)) ∧ (w'.cell? ⟨w.heap.size + 1, 0, none⟩ = some (.int .i64 m) ∧ w'.cell? ⟨w.heap.size + 1, 1, none⟩ = some (.slice (some ⟨b0, off, none⟩) L c'))) (first | exact ⟨⟨x1, x2⟩, ⟨y1, y2⟩⟩ | exact kp2_store2 (by omega) (by omega) (by assumption) | exact kp2_call hb3 (by assumption) | exact kp2_call hb2 (by assumption)) (first
        | (go_at_call 96; refine (HP.out _ (below_step hb1 (below_drew0 _))).mono ?_; rintro e2 w2 ⟨s, rfl, ho, hb2⟩; obtain ⟨A2, c2, rfl, _⟩ := ho.len)
        | (go_at_call 61; refine (l03Make_any _ _ _ _ _).mono ?_; rintro e3 w3 ⟨rfl, hb3⟩; have hv := V3.out.keep (below_step (below_step (below_step hb1 (below_drew0 _)) hb2) hb3); obtain ⟨q0, q1, q2, q3⟩ := hv.tells2))
      all_goals
        have hw3 := below_step (below_step (below_step hb1 (below_drew0 _)) hb2) hb3
        have hz1 := (below_step hb1 (below_drew0 _)).size
        have hz2 := V3.out.lt
        obtain ⟨f0, f1, f2, f3⟩ := fin_plane (w := w) hv (ho.keep hb3) (.inl (by omega)) (by omega) hb3.size (below_step HB.out hw3) (.int .i64 m) (.slice A2 T.length c2)
        have F2 := Lib.hid (f2.low (lo' := w.heap.size) (by omega))
        have F3 := Lib.hid f3
        clear f2 f3 ho hb1 hb2 hb3 hv hw3
        go_wp2
        exact bodyPost_ret (v := .tuple #[.agg #[.int .i64 m, .slice A2 T.length c2], .int .i64 0]) (by simp [results, Try.results46, go_sem, f0, f1]) rfl ⟨_, rfl, F2.out, F3.out⟩
    · have HA : Hid (appP m l m t = (0, [], 5)) := Lib.hid (by unfold appP; rw [if_pos h0, if_neg h00])
      rw [HA.out]
      obtain ⟨n1, n2⟩ := ne_facts h00
      obtain ⟨X, hX⟩ : ∃ X, Pl.pc t 0 0 = X := ⟨_, rfl⟩
      rw [hX] at HN n1 n2 h00
      clear b1 b2 v3 b4 hwb hW hr hr' hc HC h0 ok ok' e1 e2 hz hl hX
      go_enter Try.func46, Try.ntmps46
      go_wp2_with fail
      rw [HW.out]
      refine HC0.out.mono ?_
      rintro e w1 ⟨rfl, hb1⟩
      obtain ⟨b', off', c4, L, N, hL, hN, k1, k2, k3⟩ := HN.out w1 hb1
      have z1 : (0 : Int) < (L : Int) := by omega
      have z2 : (0 : Int) < (N : Int) := by omega
      clear hL hN
      have hv := V3.out.keep (hb1)
      obtain ⟨q0, q1, q2, q3⟩ := hv.tells2
      obtain ⟨f0, f1, f2, f3⟩ := fin_plane (w := w) hv (OwnR.nil _ w.heap.size 0) (.inr (Nat.zero_le _)) (by omega) (Nat.zero_le _) (below_step HB.out (hb1)) (.int .i64 0) (.slice none 0 0)
      have F2 := Lib.hid f2
      have F3 := Lib.hid f3
      clear f2 f3 hv
      go_wp2
      exact bodyPost_ret (v := .tuple #[.agg #[.int .i64 0, .slice none 0 0], .int .i64 (5)]) (by simp [results, Try.results46, go_sem, f0, f1]) rfl ⟨_, rfl, F2.out, F3.out⟩
  · have HA : Hid (appP m l m' t = (0, [], codePS m' t m l)) := Lib.hid (by unfold appP; rw [if_neg h0])
    rw [HA.out]
    clear b1 b2 v3 b4 hwb hW hr hr' hz hl
    obtain ⟨n1, n2⟩ := ne_facts h0
    obtain ⟨C, hC⟩ : ∃ C, codePS m' t m l = C := ⟨_, rfl⟩
    have hc := HC.out
    rw [hC] at n1 n2 h0 hc ⊢
    have HC0 := Lib.hid hc
    clear hc HC hC
    go_enter Try.func46, Try.ntmps46
    go_wp2_with fail
    rw [HW.out]
    refine HC0.out.mono ?_
    rintro e w1 ⟨rfl, hb1⟩
    have hv := V3.out.keep (hb1)
    obtain ⟨q0, q1, q2, q3⟩ := hv.tells2
    obtain ⟨f0, f1, f2, f3⟩ := fin_plane (w := w) hv (OwnR.nil _ w.heap.size 0) (.inr (Nat.zero_le _)) (by omega) (Nat.zero_le _) (below_step HB.out (hb1)) (.int .i64 0) (.slice none 0 0)
    have F2 := Lib.hid f2
    have F3 := Lib.hid f3
    clear f2 f3 hv
    go_wp2
    exact bodyPost_ret (v := .tuple #[.agg #[.int .i64 0, .slice none 0 0], .int .i64 (C)]) (by simp [results, Try.results46, go_sem, f0, f1]) rfl ⟨_, rfl, F2.out, F3.out⟩
end Go.Proofs.Ytjgpdgoclianlaa
