/- Contracts of CutPlane and ChangePlane, of the program. -/
import Derived.Test.YtjgpdgoclianlabGrd
import Derived.Test.YtjgpdgoclianlabGop
namespace Go.Proofs.Ytjgpdgoclianlab
open Go.RowKit Go.WideShapes Go.ChangeShapes Go.ChangeAt

set_option maxHeartbeats 1000000 in
theorem withinC_any (i j g : Nat) (m : Int) (d : Nat) (A : Option Addr) (c : Nat) (t : List (List Int)) (W : World) (hb : GBox W g m d A t.length c) (hs : Pl.Ok m d t) (hr : RP W A t) (hij : i + j ≤ d) :
    Calls Try.prog 157 #[.int .i64 i, .int .i64 j, .pointer (some ⟨g, 0, none⟩)] W fun e w' => e = .returned (.int .i64 (Pl.pc t i j)) ∧ Below W.heap.size W w' := by
  obtain ⟨b, off, rfl⟩ := hr.some (by rw [hs.len]; omega)
  obtain ⟨p1, p2, p3, L, N, hL, hN, x1, x2, x3⟩ := hb.num hs hr i j hij
  obtain ⟨X, hX⟩ : ∃ X, Pl.pc t i j = X := ⟨_, rfl⟩
  rw [hX] at x3 ⊢
  have j1 : (0 : Int) ≤ (i : Int) := by omega
  have j2 : (i : Int) < (L : Int) := by omega
  have j3 : (0 : Int) ≤ (j : Int) := by omega
  have j4 : (j : Int) < (N : Int) := by omega
  clear hb hr hs hX hL hN
  go_enter Try.func157, Try.ntmps157
  go_wp2
  go_ret
  exact ⟨rfl, Below.refl _ _⟩
set_option maxHeartbeats 2000000 in
set_option maxRecDepth 100000 in
theorem within_any (m : Int) (d : Nat) (A : Option Addr) (c : Nat) (t : List (List Int)) (k : Int) (e : Nat) (w : World) (hs : Pl.Ok m d t) (hr : RP w A t) (k1 : 1 ≤ k) (k2 : k ≤ 10000) (he : e ≤ d) :
    Calls Try.prog 90 #[.agg #[.int .i64 m, .int .i64 d, .slice A t.length c], .agg #[.int .i64 k, .int .i64 e]] w fun e' w' => ∃ v, e' = .returned (.agg #[.int .i64 k, .int .i64 e, v]) ∧ OwnR w' w.heap.size w'.heap.size v (Pl.tab k e (Pl.pc t)) ∧ Below w.heap.size w w' := by
  obtain ⟨W, hW⟩ : ∃ W, ((w.alloc (.cells #[.int .i64 m, .int .i64 d, .slice A t.length c] 76)).alloc (.cells #[.int .i64 k, .int .i64 e] 74)).alloc (.cells #[.int .i64 0, .int .i64 0, .slice none 0 0] 76) = W := ⟨_, rfl⟩
  have hwb : Below w.heap.size w W := by rw [← hW]; exact below_alloc _ (below_alloc _ (below_one _ _))
  have b1 : GBox W w.heap.size m d A t.length c := by rw [← hW]; exact ((GBox.new _ _ _ _ _ _ _).keep (below_one _ _)).keep (below_one _ _)
  have v3 : VarC 76 W (w.heap.size + 1 + 1) #[.int .i64 0, .int .i64 0, .slice none 0 0] := by
    rw [← hW]
    have := VarC.new 76 ((w.alloc (.cells #[.int .i64 m, .int .i64 d, .slice A t.length c] 76)).alloc (.cells #[.int .i64 k, .int .i64 e] 74)) #[.int .i64 0, .int .i64 0, .slice none 0 0]
    simpa using this
  have HS := Lib.hid (filled_any k e 157 #[.pointer (some ⟨w.heap.size, 0, none⟩)] (Pl.pc t) W k1 k2 (by have := hs.d2; omega)
    (fun i j hij => by have := hs.pc i j; have := hs.m2; omega) (enters_fn Try.func157 (of_decide_eq_true (by kernel_rfl)) rfl)
    (fun i j W1 hij hb => withinC_any i j _ m d A c t W1 (b1.keep hb) hs ((hr.below hwb).below hb) (by omega)))
  have HB := Lib.hid hwb
  have HW := Lib.hid hW
  have V3 := Lib.hid v3
  obtain ⟨T, hT⟩ : ∃ T, Pl.tab k e (Pl.pc t) = T := ⟨_, rfl⟩
  rw [hT] at HS ⊢
  clear b1 v3 hwb hW hr hs hT
  go_enter Try.func90, Try.ntmps90
  go_wp2_with fail
  rw [HW.out]
  refine HS.out.mono ?_
  rintro e' w2 ⟨v, rfl, ho, hb⟩
  obtain ⟨A2, c2, rfl, -⟩ := ho.len
  have hv := V3.out.keep hb
  obtain ⟨q0, q1, q2, q3, q4, q5⟩ := hv.tells3
  obtain ⟨f0, f1, f2, f3, f4⟩ := fin_grid (w := w) hv ho (by have := V3.out.lt; omega) (by omega) (Nat.le_refl _) (below_step HB.out hb) (.int .i64 k) (.int .i64 e) (.slice A2 T.length c2)
  have F3 := Lib.hid (f3.low (show w.heap.size ≤ W.heap.size from HB.out.size))
  have F4 := Lib.hid f4
  unfold set3 at f0 f1 f2
  clear f3 f4 ho hv hb
  go_wp2
  exact bodyPost_ret (v := .agg #[.int .i64 k, .int .i64 e, .slice A2 T.length c2]) (by simp [results, Try.results90, go_sem, f0, f1, f2]) rfl ⟨_, rfl, F3.out, F4.out⟩
/-- the model of CutPlane -/
def cutP (m : Int) (t : List (List Int)) (k : Int) : Int × List (List Int) × Int :=
  if isP m t = true then (if inB k 1 ((t.length : Int) - 1) = true then (m, Pl.tab m k.toNat (Pl.pc t), 0) else (0, [], 2)) else (0, [], 1)
theorem cutP_len (m : Int) (t : List (List Int)) (k : Int) : szT (cutP m t k).2.1 ≤ 1048576 := by
  unfold cutP
  by_cases h : isP m t = true
  · rw [if_pos h]
    obtain ⟨d, e, ok⟩ := plOk_of h
    by_cases hk : inB k 1 ((t.length : Int) - 1) = true
    · rw [if_pos hk]
      have := (inB_iff _ _ _).1 hk
      exact szT_ok (Pl.Ok.of_tab ok.m1 ok.m2 (by omega) (by have := ok.d2; omega) _)
    · rw [if_neg hk]; exact Nat.zero_le _
  · rw [if_neg h]; exact Nat.zero_le _
/-- the model of ChangePlane -/
def chaP (m : Int) (t : List (List Int)) (k : Int) : Int × List (List Int) × Int :=
  if isP m t = true then (if isM k = true ∧ m % k = 0 then (k, Pl.tab k (t.length - 1) (Pl.pc t), 0) else (0, [], 2)) else (0, [], 1)
theorem chaP_len (m : Int) (t : List (List Int)) (k : Int) : szT (chaP m t k).2.1 ≤ 1048576 := by
  unfold chaP
  by_cases h : isP m t = true
  · rw [if_pos h]
    obtain ⟨d, e, ok⟩ := plOk_of h
    by_cases hk : isM k = true ∧ m % k = 0
    · rw [if_pos hk]
      have := (isM_iff _).1 hk.1
      exact szT_ok (Pl.Ok.of_tab this.1 this.2 (by have := ok.d1; omega) (by have := ok.d2; omega) _)
    · rw [if_neg hk]; exact Nat.zero_le _
  · rw [if_neg h]; exact Nat.zero_le _
set_option maxHeartbeats 4000000 in
set_option maxRecDepth 100000 in
theorem CutPlane_any (m : Int) (A : Option Addr) (c : Nat) (t : List (List Int)) (k : Int) (w : World) (hz : szT t ≤ 1048576) (hr : RP w A t) :
    Calls Try.prog 19 #[.agg #[.int .i64 m, .slice A t.length c], .int .i64 k] w fun e w' => ∃ s, e = .returned (.tuple #[.agg #[.int .i64 (cutP m t k).1, s], .int .i64 (cutP m t k).2.2]) ∧ OwnR w' w.heap.size w'.heap.size s (cutP m t k).2.1 ∧ Below w.heap.size w w' := by
  obtain ⟨W, hW, b1, v3, b4, hwb⟩ := pro1P w m A t.length c
  have B1 := Lib.hid b1
  have V3 := Lib.hid v3
  have HB := Lib.hid hwb
  have HW := Lib.hid hW
  have HC := Lib.hid (codeOfPlanes1_any (w.heap.size + 1 + 1) m A c t W hz (hr.below hwb) b4)
  have hfd := field_frame
  have hfd2 := fun (a b : Value) (W : World) => (show (Instr.field 74 (.agg #[a, b]) 1).run Try.prog W = .ok b W by kernel_rfl)
  by_cases h0 : isP m t = true
  · obtain ⟨d, e1, ok⟩ := plOk_of h0
    have hc := HC.out
    rw [codeP1_yes h0] at hc
    have HC0 := Lib.hid hc
    have HG := Lib.hid (fun W0 => gridOf_nat m A t.length c d W0 e1 (by have := ok.d2; omega))
    have he : (t.length : Int) - 1 = (d : Int) := by omega
    by_cases hk : inB k 1 (d : Int) = true
    · obtain ⟨k1, k2⟩ := (inB_iff _ _ _).1 hk
      obtain ⟨q, hq⟩ : ∃ q : Nat, (q : Int) = k := ⟨k.toNat, by omega⟩
      subst hq
      have HI := Lib.hid (fun W0 => by have := isWithin_any (q : Int) 1 (d : Int) W0; rw [hk] at this; exact this)
      have HA : Hid (cutP m t (q : Int) = (m, Pl.tab m q (Pl.pc t), 0)) := Lib.hid (by unfold cutP; rw [if_pos h0, he, if_pos hk, show (q : Int).toNat = q by omega])
      rw [HA.out]
      have HP := Lib.hid (fun W0 (h : Below W.heap.size W W0) => within_any m d A c t m q W0 ok ((hr.below hwb).below h) (by have := ok.m1; omega) ok.m2 (by omega))
      obtain ⟨T, hT⟩ : ∃ T, Pl.tab m q (Pl.pc t) = T := ⟨_, rfl⟩
      rw [hT] at HP ⊢
      obtain ⟨L, hL⟩ : ∃ L, t.length = L := ⟨_, rfl⟩
      rw [hL] at HG B1 HW HP ⊢
      clear b1 v3 b4 hwb hW hr hc HC h0 ok e1 hk hT hL he hz
      go_enter Try.func19, Try.ntmps19
      go_wp2_with fail
      rw [HW.out]
      refine HC0.out.mono ?_
      rintro e w1 ⟨rfl, hb1⟩
      obtain ⟨y1, y2, y3⟩ := B1.out.keep hb1
      go_wp2_with fail
      refine (HG.out _).mono ?_
      rintro e w2 ⟨rfl, hb2⟩
      go_wp2_with fail
      refine (HI.out _).mono ?_
      rintro e w' ⟨rfl, rfl⟩
      have hb0 := below_step hb1 hb2
      clear y1 y2 y3 hb2
      obtain ⟨x1, x2, x3⟩ := B1.out.keep hb0
      go_wp2
      go_region_held3 (fun w' => w'.cell? ⟨w.heap.size, 0, none⟩ = some (.int .i64 m) ∧ w'.cell? ⟨w.heap.size, 1, none⟩ = some (.slice A L c) ∧ w.heap.size < w'.heap.size) (first | exact ⟨x1, x2, x3⟩ | exact box_store (by omega) (by assumption) | exact box_call hb5 (by assumption) | exact box_call hb4 (by assumption) | exact box_call hg2 (by assumption) | exact box_call hg1 (by assumption)) (first
        | (go_at_call 81; first | (have hgx := hg1; clear hgx; refine (HG.out _).mono ?_; rintro e2 wg2 ⟨rfl, hg2⟩) | (refine (HG.out _).mono ?_; rintro e2 wg1 ⟨rfl, hg1⟩))
        | (go_at_call 90; refine (HP.out _ (by first | exact below_step (below_step (below_step hb0 (below_drew0 _)) hg1) hg2 | exact below_step (below_step hb0 (below_drew0 _)) hg1)).mono ?_; rintro e4 w4 ⟨s, rfl, ho, hb4⟩; obtain ⟨A2, c2, rfl, -⟩ := ho.len)
        | (go_at_call 91; refine (plane_any _ _ _ _ _ _).mono ?_; rintro e5 w5 ⟨rfl, hb5⟩; have hv := V3.out.keep (by first | exact below_step (below_step (below_step (below_step (below_step hb0 (below_drew0 _)) hg1) hg2) hb4) hb5 | exact below_step (below_step (below_step (below_step hb0 (below_drew0 _)) hg1) hb4) hb5); obtain ⟨q0, q1, q2, q3⟩ := hv.tells2))
      all_goals
        have hw3 : Below W.heap.size W w5 := (by first | exact below_step (below_step (below_step (below_step (below_step hb0 (below_drew0 _)) hg1) hg2) hb4) hb5 | exact below_step (below_step (below_step (below_step hb0 (below_drew0 _)) hg1) hb4) hb5)
        have hz1 : W.heap.size ≤ _ := (by first | exact (below_step (below_step (below_step hb0 (below_drew0 _)) hg1) hg2).size | exact (below_step (below_step hb0 (below_drew0 _)) hg1).size)
        have hz2 := V3.out.lt
        obtain ⟨f0, f1, f2, f3⟩ := fin_plane (w := w) hv (ho.keep hb5) (.inl (by omega)) (by omega) hb5.size (below_step HB.out hw3) (.int .i64 m) (.slice A2 T.length c2)
        have F2 := Lib.hid (f2.low (lo' := w.heap.size) (by omega))
        have F3 := Lib.hid f3
        clear f2 f3 ho hb5 hb4 hv hw3
        go_wp2
        exact bodyPost_ret (v := .tuple #[.agg #[.int .i64 m, .slice A2 T.length c2], .int .i64 0]) (by simp [results, Try.results19, go_sem, f0, f1]) rfl ⟨_, rfl, F2.out, F3.out⟩
    · have HA : Hid (cutP m t k = (0, [], 2)) := Lib.hid (by unfold cutP; rw [if_pos h0, he, if_neg hk])
      rw [HA.out]
      have hk' : inB k 1 (d : Int) = false := by simpa using hk
      have HI := Lib.hid (fun W0 => by have := isWithin_any k 1 (d : Int) W0; rw [hk'] at this; exact this)
      clear b1 v3 b4 hwb hW hr hc HC h0 ok e1 hk hk' he hz
      go_enter Try.func19, Try.ntmps19
      go_wp2_with fail
      rw [HW.out]
      refine HC0.out.mono ?_
      rintro e w1 ⟨rfl, hb1⟩
      obtain ⟨y1, y2, y3⟩ := B1.out.keep hb1
      go_wp2_with fail
      refine (HG.out _).mono ?_
      rintro e w2 ⟨rfl, hb2⟩
      go_wp2_with fail
      refine (HI.out _).mono ?_
      rintro e w' ⟨rfl, rfl⟩
      have hv := V3.out.keep (below_step hb1 hb2)
      obtain ⟨q0, q1, q2, q3⟩ := hv.tells2
      obtain ⟨f0, f1, f2, f3⟩ := fin_plane (w := w) hv (OwnR.nil _ w.heap.size 0) (.inr (Nat.zero_le _)) (by omega) (Nat.zero_le _) (below_step HB.out (below_step hb1 hb2)) (.int .i64 0) (.slice none 0 0)
      have F2 := Lib.hid f2
      have F3 := Lib.hid f3
      clear f2 f3 hv
      go_wp2
      exact bodyPost_ret (v := .tuple #[.agg #[.int .i64 0, .slice none 0 0], .int .i64 (2)]) (by simp [results, Try.results19, go_sem, f0, f1]) rfl ⟨_, rfl, F2.out, F3.out⟩
  · skip
    have h0' : isP m t = false := by simpa using h0
    have hc := HC.out
    rw [codeP1_no h0'] at hc
    have HC0 := Lib.hid hc
    have HA : Hid (cutP m t k = (0, [], 1)) := Lib.hid (by unfold cutP; rw [if_neg h0])
    rw [HA.out]
    clear b1 v3 b4 hwb hW hr hc HC h0 h0' hz
    go_enter Try.func19, Try.ntmps19
    go_wp2_with fail
    rw [HW.out]
    refine HC0.out.mono ?_
    rintro e w1 ⟨rfl, hb1⟩
    have hv := V3.out.keep (hb1)
    obtain ⟨q0, q1, q2, q3⟩ := hv.tells2
    obtain ⟨f0, f1, f2, f3⟩ := fin_plane (w := w) hv (OwnR.nil _ w.heap.size 0) (.inr (Nat.zero_le _)) (by omega) (Nat.zero_le _) (below_step HB.out (hb1)) (.int .i64 0) (.slice none 0 0)
    have F2 := Lib.hid f2
    have F3 := Lib.hid f3
    clear f2 f3 hv
    go_wp2
    exact bodyPost_ret (v := .tuple #[.agg #[.int .i64 0, .slice none 0 0], .int .i64 (1)]) (by simp [results, Try.results19, go_sem, f0, f1]) rfl ⟨_, rfl, F2.out, F3.out⟩
set_option maxHeartbeats 4000000 in
set_option maxRecDepth 100000 in
theorem ChangePlane_any (m : Int) (A : Option Addr) (c : Nat) (t : List (List Int)) (k : Int) (w : World) (hz : szT t ≤ 1048576) (hr : RP w A t) :
    Calls Try.prog 22 #[.agg #[.int .i64 m, .slice A t.length c], .int .i64 k] w fun e w' => ∃ s, e = .returned (.tuple #[.agg #[.int .i64 (chaP m t k).1, s], .int .i64 (chaP m t k).2.2]) ∧ OwnR w' w.heap.size w'.heap.size s (chaP m t k).2.1 ∧ Below w.heap.size w w' := by
  obtain ⟨W, hW, b1, v3, b4, hwb⟩ := pro1P w m A t.length c
  have B1 := Lib.hid b1
  have V3 := Lib.hid v3
  have HB := Lib.hid hwb
  have HW := Lib.hid hW
  have HC := Lib.hid (codeOfPlanes1_any (w.heap.size + 1 + 1) m A c t W hz (hr.below hwb) b4)
  have hfd := field_frame
  have hfd2 := fun (a b : Value) (W : World) => (show (Instr.field 74 (.agg #[a, b]) 1).run Try.prog W = .ok b W by kernel_rfl)
  by_cases h0 : isP m t = true
  · obtain ⟨d, e1, ok⟩ := plOk_of h0
    have hc := HC.out
    rw [codeP1_yes h0] at hc
    have HC0 := Lib.hid hc
    have HG := Lib.hid (fun W0 => gridOf_nat m A t.length c d W0 e1 (by have := ok.d2; omega))
    have m1 := ok.m1
    have m2 := ok.m2
    by_cases hk : isM k = true
    · obtain ⟨k1, k2⟩ := (isM_iff _).1 hk
      have HI := Lib.hid (fun W0 => by have := IsModulus_any k W0; rw [hk] at this; exact this)
      by_cases hd : m % k = 0
      · have HA : Hid (chaP m t k = (k, Pl.tab k d (Pl.pc t), 0)) := Lib.hid (by unfold chaP; rw [if_pos h0, if_pos ⟨hk, hd⟩, e1]; rfl)
        rw [HA.out]
        have HP := Lib.hid (fun W0 (h : Below W.heap.size W W0) => within_any m d A c t k d W0 ok ((hr.below hwb).below h) (by omega) k2 (Nat.le_refl _))
        obtain ⟨T, hT⟩ : ∃ T, Pl.tab k d (Pl.pc t) = T := ⟨_, rfl⟩
        rw [hT] at HP ⊢
        obtain ⟨L, hL⟩ : ∃ L, t.length = L := ⟨_, rfl⟩
        rw [hL] at HG B1 HW HP ⊢
        clear b1 v3 b4 hwb hW hr hc HC h0 ok e1 hk hT hL hz
        go_enter Try.func22, Try.ntmps22
        go_wp2_with fail
        rw [HW.out]
        refine HC0.out.mono ?_
        rintro e w1 ⟨rfl, hb0⟩
        obtain ⟨x1, x2, x3⟩ := B1.out.keep hb0
        go_wp2_with fail
        refine (HI.out _).mono ?_
        rintro e w' ⟨rfl, rfl⟩
        go_wp2
        go_region_held3 (fun w' => w'.cell? ⟨w.heap.size, 0, none⟩ = some (.int .i64 m) ∧ w'.cell? ⟨w.heap.size, 1, none⟩ = some (.slice A L c) ∧ w.heap.size < w'.heap.size) (first | exact ⟨x1, x2, x3⟩ | exact box_store (by omega) (by assumption) | exact box_call hb5 (by assumption) | exact box_call hb4 (by assumption) | exact box_call hg2 (by assumption) | exact box_call hg1 (by assumption)) (first
          | (go_at_call 81; first | (have hgx := hg1; clear hgx; refine (HG.out _).mono ?_; rintro e2 wg2 ⟨rfl, hg2⟩) | (refine (HG.out _).mono ?_; rintro e2 wg1 ⟨rfl, hg1⟩))
          | (go_at_call 90; refine (HP.out _ (by first | exact below_step (below_step (below_step hb0 (below_drew0 _)) hg1) hg2 | exact below_step (below_step hb0 (below_drew0 _)) hg1)).mono ?_; rintro e4 w4 ⟨s, rfl, ho, hb4⟩; obtain ⟨A2, c2, rfl, -⟩ := ho.len)
          | (go_at_call 91; refine (plane_any _ _ _ _ _ _).mono ?_; rintro e5 w5 ⟨rfl, hb5⟩; have hv := V3.out.keep (by first | exact below_step (below_step (below_step (below_step (below_step hb0 (below_drew0 _)) hg1) hg2) hb4) hb5 | exact below_step (below_step (below_step (below_step hb0 (below_drew0 _)) hg1) hb4) hb5); obtain ⟨q0, q1, q2, q3⟩ := hv.tells2))
        all_goals
          have hw3 : Below W.heap.size W w5 := (by first | exact below_step (below_step (below_step (below_step (below_step hb0 (below_drew0 _)) hg1) hg2) hb4) hb5 | exact below_step (below_step (below_step (below_step hb0 (below_drew0 _)) hg1) hb4) hb5)
          have hz1 : W.heap.size ≤ _ := (by first | exact (below_step (below_step (below_step hb0 (below_drew0 _)) hg1) hg2).size | exact (below_step (below_step hb0 (below_drew0 _)) hg1).size)
          have hz2 := V3.out.lt
          obtain ⟨f0, f1, f2, f3⟩ := fin_plane (w := w) hv (ho.keep hb5) (.inl (by omega)) (by omega) hb5.size (below_step HB.out hw3) (.int .i64 k) (.slice A2 T.length c2)
          have F2 := Lib.hid (f2.low (lo' := w.heap.size) (by omega))
          have F3 := Lib.hid f3
          clear f2 f3 ho hb5 hb4 hv hw3
          go_wp2
          exact bodyPost_ret (v := .tuple #[.agg #[.int .i64 k, .slice A2 T.length c2], .int .i64 0]) (by simp [results, Try.results22, go_sem, f0, f1]) rfl ⟨_, rfl, F2.out, F3.out⟩
      · have HA : Hid (chaP m t k = (0, [], 2)) := Lib.hid (by unfold chaP; rw [if_pos h0, if_neg (fun h => hd h.2)])
        rw [HA.out]
        obtain ⟨n1, n2⟩ := ne_facts hd
        clear b1 v3 b4 hwb hW hr hc HC h0 ok e1 hk hz
        go_enter Try.func22, Try.ntmps22
        go_wp2_with fail
        rw [HW.out]
        refine HC0.out.mono ?_
        rintro e w1 ⟨rfl, hb0⟩
        obtain ⟨x1, x2, x3⟩ := B1.out.keep hb0
        go_wp2_with fail
        refine (HI.out _).mono ?_
        rintro e w' ⟨rfl, rfl⟩
        have hv := V3.out.keep (hb0)
        obtain ⟨q0, q1, q2, q3⟩ := hv.tells2
        obtain ⟨f0, f1, f2, f3⟩ := fin_plane (w := w) hv (OwnR.nil _ w.heap.size 0) (.inr (Nat.zero_le _)) (by omega) (Nat.zero_le _) (below_step HB.out (hb0)) (.int .i64 0) (.slice none 0 0)
        have F2 := Lib.hid f2
        have F3 := Lib.hid f3
        clear f2 f3 hv
        go_wp2
        exact bodyPost_ret (v := .tuple #[.agg #[.int .i64 0, .slice none 0 0], .int .i64 (2)]) (by simp [results, Try.results22, go_sem, f0, f1]) rfl ⟨_, rfl, F2.out, F3.out⟩
    · have HA : Hid (chaP m t k = (0, [], 2)) := Lib.hid (by unfold chaP; rw [if_pos h0, if_neg (fun h => hk h.1)])
      rw [HA.out]
      have hk' : isM k = false := by simpa using hk
      have HI := Lib.hid (fun W0 => by have := IsModulus_any k W0; rw [hk'] at this; exact this)
      clear b1 v3 b4 hwb hW hr hc HC h0 ok e1 hk hk' hz
      go_enter Try.func22, Try.ntmps22
      go_wp2_with fail
      rw [HW.out]
      refine HC0.out.mono ?_
      rintro e w1 ⟨rfl, hb0⟩
      go_wp2_with fail
      refine (HI.out _).mono ?_
      rintro e w' ⟨rfl, rfl⟩
      have hv := V3.out.keep (hb0)
      obtain ⟨q0, q1, q2, q3⟩ := hv.tells2
      obtain ⟨f0, f1, f2, f3⟩ := fin_plane (w := w) hv (OwnR.nil _ w.heap.size 0) (.inr (Nat.zero_le _)) (by omega) (Nat.zero_le _) (below_step HB.out (hb0)) (.int .i64 0) (.slice none 0 0)
      have F2 := Lib.hid f2
      have F3 := Lib.hid f3
      clear f2 f3 hv
      go_wp2
      exact bodyPost_ret (v := .tuple #[.agg #[.int .i64 0, .slice none 0 0], .int .i64 (2)]) (by simp [results, Try.results22, go_sem, f0, f1]) rfl ⟨_, rfl, F2.out, F3.out⟩
  · skip
    have h0' : isP m t = false := by simpa using h0
    have hc := HC.out
    rw [codeP1_no h0'] at hc
    have HC0 := Lib.hid hc
    have HA : Hid (chaP m t k = (0, [], 1)) := Lib.hid (by unfold chaP; rw [if_neg h0])
    rw [HA.out]
    clear b1 v3 b4 hwb hW hr hc HC h0 h0' hz
    go_enter Try.func22, Try.ntmps22
    go_wp2_with fail
    rw [HW.out]
    refine HC0.out.mono ?_
    rintro e w1 ⟨rfl, hb1⟩
    have hv := V3.out.keep (hb1)
    obtain ⟨q0, q1, q2, q3⟩ := hv.tells2
    obtain ⟨f0, f1, f2, f3⟩ := fin_plane (w := w) hv (OwnR.nil _ w.heap.size 0) (.inr (Nat.zero_le _)) (by omega) (Nat.zero_le _) (below_step HB.out (hb1)) (.int .i64 0) (.slice none 0 0)
    have F2 := Lib.hid f2
    have F3 := Lib.hid f3
    clear f2 f3 hv
    go_wp2
    exact bodyPost_ret (v := .tuple #[.agg #[.int .i64 0, .slice none 0 0], .int .i64 (1)]) (by simp [results, Try.results22, go_sem, f0, f1]) rfl ⟨_, rfl, F2.out, F3.out⟩
end Go.Proofs.Ytjgpdgoclianlab
