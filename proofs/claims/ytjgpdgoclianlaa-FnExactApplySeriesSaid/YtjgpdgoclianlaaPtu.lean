/- Contracts of TurnPlane, of the program and of the model. -/
import Derived.Test.YtjgpdgoclianlaaGtu
import Derived.Test.YtjgpdgoclianlaaPsh
namespace Go.Proofs.Ytjgpdgoclianlaa
open Go.RowKit Go.WideShapes Go.ChangeShapes Go.ChangeAt

set_option maxHeartbeats 1000000 in
set_option maxRecDepth 100000 in
theorem l03Zero_any (m : Int) (d : Nat) (w : World) (hd : d ≤ 1000) :
    Calls Try.prog 79 #[.int .i64 d] w fun e w' => ∃ v, e = .returned v ∧ OwnR w' w.heap.size w'.heap.size v (Pl.tab m d fun _ _ => 0) ∧ Below w.heap.size w w' := by
  have HM2 := Lib.hid (fun (n : Nat) (W : World) (hn : n ≤ 1001) => run_make_row' (P := Try.prog) 45 2 (.int .i64 0) 8 Try.underlying45 info64 rfl .i64 .i64 n (by omega) (by omega) W)
  go_enter Try.func79, Try.ntmps79
  go_wp2
  go_loopw [3, 4] (fun r i wr => ∃ k : Nat, k ≤ d + 1 ∧ i = .int .i64 k ∧ OwnR wr w.heap.size wr.heap.size r ((Pl.tab m d fun _ _ => 0).take k) ∧ Below w.heap.size w wr) (fun _ i _ => d + 1 - (intOf i).toNat)
  case atStart => exact ⟨0, Nat.zero_le _, rfl, by simpa using OwnR.none0 w, below_one _ _⟩
  case round =>
    obtain ⟨k, hk, rfl, hown, hbel⟩ := hrel
    have HB := Lib.hid hbel
    have HO := Lib.hid hown
    have hsz := hbel.size
    clear hbel
    by_cases hlt : k < d + 1
    · obtain ⟨N, hN⟩ : ∃ N, d - k + 1 = N := ⟨_, rfl⟩
      have hmk := fun W => HM2.out N W (by omega)
      have HN := Lib.hid hN
      have hlen : ((Pl.tab m d fun _ _ => 0).take k).length ≤ 1000000000000 := by rw [List.length_take, Pl.tab_length]; omega
      have hrow : Ser.cut m (d - k) (fun _ => 0) = List.replicate N 0 := by rw [Ser.cut_zero, hN]
      have hst : (Pl.tab m d fun _ _ => 0).take (k + 1) = (Pl.tab m d fun _ _ => 0).take k ++ [List.replicate N 0] := by rw [Pl.tab_take_succ m d _ k (by omega), hrow]
      have HST := Lib.hid hst
      have hd1 : (d : Int) - (k : Int) + 1 = (N : Int) := by omega
      have hkd : (k : Int) ≤ (d : Int) := by omega
      have hNm : N ≤ maxLen := by unfold maxLen; omega
      clear hst hrow hN hown
      go_wp2_with (at_builtin; refine wp_pushU _ _ _ (by rfl) (by rfl) Try.underlying22 w.heap.size wr.heap.size _ _ (by rfl) (HO.out.keep (below_one _ _)) (below_one wr _).size (.slice (some ⟨wr.heap.size, 0, none⟩) N N) (List.replicate N 0) ((OwnI.made wr N hNm).more hsz) (fun g hg => made_from hg) (wr.heap.size + 1) (by simp) (by rfl) hlen (Nat.le_trans hsz (below_one wr _).size) ?_; intro v' w1 ho1 hpb)
      have HO1 := Lib.hid ho1
      have HB1 := Lib.hid ((HB.out.trans ((below_one wr (.cells (madeCells #[.int .i64 0] N) 2)).mono hsz)).trans hpb)
      clear ho1 hpb
      go_wp2
      go_roundw
      case rel => exact ⟨k + 1, by omega, by go_num, by rw [HST.out]; exact HO1.out, HB1.out⟩
      case measure => simp only [intOf]; omega
    · obtain rfl : k = d + 1 := by omega
      have ho := HO.out
      rw [Pl.tab_take_all] at ho
      have HF := Lib.hid ho
      clear ho hown
      go_wp2
      go_ret
      exact ⟨_, rfl, HF.out, HB.out⟩
/-- what the model's exchange has written: all rows below i, and row i below j -/
def turF (t : List (List Int)) (i j : Nat) : Nat → Nat → Int := fun p q => if q < i ∨ (q = i ∧ p < j) then Pl.pc t q p else 0
theorem turF_zero (m : Int) (d : Nat) (t : List (List Int)) : Pl.tab m d (turF t 0 0) = Pl.tab m d fun _ _ => 0 := Pl.tab_congr (Pl.Eq.of m d (fun p q _ => by unfold turF; rw [if_neg (by omega)]))
theorem turF_next (m : Int) (d : Nat) (t : List (List Int)) (i N : Nat) (h : d - i + 1 ≤ N) : Pl.tab m d (turF t i N) = Pl.tab m d (turF t (i + 1) 0) :=
  Pl.tab_congr (Pl.Eq.of m d (fun p q hpq => by
    unfold turF
    by_cases h1 : q < i + 1
    · rw [if_pos (by omega), if_pos (by omega)]
    · rw [if_neg (by omega), if_neg (by omega)]))
theorem turF_end (m : Int) (d : Nat) (t : List (List Int)) : Pl.tab m d (turF t (d + 1) 0) = Pl.tab m d fun i j => Pl.pc t j i :=
  Pl.tab_congr (Pl.Eq.of m d (fun p q hpq => by unfold turF; rw [if_pos (by omega)]))
theorem turF_step {m : Int} {d : Nat} {t : List (List Int)} (hs : Pl.Ok m d t) (i j : Nat) (h : i + j ≤ d) :
    (Pl.tab m d (turF t i j)).set j ((Pl.rw' (Pl.tab m d (turF t i j)) j).set i (Pl.pc t i j)) = Pl.tab m d (turF t i (j + 1)) := by
  refine Pl.tab_put (by omega) ?_ (fun p q hpq hne => ?_)
  · unfold turF
    rw [if_pos (by omega), Int.emod_eq_of_lt (hs.pc i j).1 (hs.pc i j).2]
  · unfold turF
    by_cases h1 : q < i ∨ (q = i ∧ p < j)
    · rw [if_pos h1, if_pos (by omega)]
    · rw [if_neg h1, if_neg (by omega)]

set_option maxHeartbeats 2000000 in
set_option maxRecDepth 100000 in
theorem l03Turn_any (m : Int) (d : Nat) (A : Option Addr) (c : Nat) (t : List (List Int)) (w : World) (hs : Pl.Ok m d t) (hr : RP w A t) :
    Calls Try.prog 73 #[.slice A t.length c] w fun e w' => ∃ v, e = .returned v ∧ OwnR w' w.heap.size w'.heap.size v (Pl.tab m d fun i j => Pl.pc t j i) ∧ Below w.heap.size w w' := by
  have HR := Lib.hid hr
  have HS := Lib.hid hs
  have HD := Lib.hid hs.len
  have hd2 := hs.d2
  have HZ := Lib.hid (l03Zero_any m d w (by omega))
  obtain ⟨L, hL⟩ : ∃ L, t.length = L := ⟨_, rfl⟩
  have HL := Lib.hid hL
  have hLd : (L : Int) - 1 = (d : Int) := by have := hs.len; omega
  have hLb : L ≤ 11 := by have := hs.len; omega
  rw [hL]
  clear hr hs hL
  go_enter Try.func73, Try.ntmps73
  go_wp2_with fail
  refine HZ.out.mono ?_
  rintro e w1 ⟨v, rfl, ho, hb⟩
  rw [← turF_zero m d t] at ho
  obtain ⟨g, cv, rfl⟩ := ho.openv (by rw [Pl.tab_length]; omega)
  rw [Pl.tab_length] at ho ⊢
  have HO1 := Lib.hid ho
  have HB1 := Lib.hid hb
  clear ho hb
  go_wp2
  go_loopw [4] (fun i wr => ∃ k : Nat, k ≤ L ∧ i = .int .i64 k ∧ OwnR wr w.heap.size wr.heap.size (.slice (some ⟨g, 0, none⟩) (d + 1) cv) (Pl.tab m d (turF t k 0)) ∧ Below w.heap.size w wr) (fun i _ => L - (intOf i).toNat)
  case atStart => exact ⟨0, Nat.zero_le _, rfl, HO1.out, HB1.out⟩
  case round =>
    clear HO1 HB1
    obtain ⟨k, hk, rfl, hown, hbel⟩ := hrel
    have HB := Lib.hid hbel
    have HO := Lib.hid hown
    clear hown hbel
    by_cases hlt : k < L
    · obtain ⟨N, hN⟩ : ∃ N, d - k + 1 = N := ⟨_, rfl⟩
      have HN := Lib.hid hN
      have hN1 : N ≤ 11 := by omega
      have j0 : (0 : Int) ≤ (k : Int) := by omega
      have j1 : (k : Int) < (L : Int) := by omega
      clear hN
      go_wp2
      go_loopw [5] (fun i wr => ∃ j : Nat, j ≤ N ∧ i = .int .i64 j ∧ OwnR wr w.heap.size wr.heap.size (.slice (some ⟨g, 0, none⟩) (d + 1) cv) (Pl.tab m d (turF t k j)) ∧ Below w.heap.size w wr) (fun i _ => N - (intOf i).toNat)
      case atStart => exact ⟨0, Nat.zero_le _, rfl, HO.out, HB.out⟩
      case round =>
        clear HO HB
        obtain ⟨j, hj, rfl, hown, hbel⟩ := hrel
        have HB := Lib.hid hbel
        have HO := Lib.hid hown
        obtain ⟨bb, off, A', c', rfl, hbb, hc, -, hri⟩ := HR.out.at k (by have := HL.out; omega)
        have hck := (hbel.cell (p := ⟨bb, off + k, none⟩) hbb).trans hc
        rw [HS.out.row k (by omega), HN.out] at hck
        by_cases hjt : j < N
        · have hNk := HN.out
          obtain ⟨b2, off2, rfl, hb2, hc2⟩ := hri.at j (by rw [HS.out.row k (by omega)]; omega)
          have hc3 := (hbel.cell (p := ⟨b2, off2 + j, none⟩) hb2).trans hc2
          have hst := turF_step HS.out k j (by omega)
          change wr.cell? _ = some (.int .i64 (Pl.pc t k j)) at hc3
          obtain ⟨X, hX⟩ : ∃ X, Pl.pc t k j = X := ⟨_, rfl⟩
          rw [hX] at hc3 hst
          obtain ⟨b, c3, g1, g2, g3, g4, hcel⟩ := HO.out.numB j k (d - j + 1) (by rw [Pl.tab_length]; omega) (by rw [Pl.tab_row m d _ j (by omega), Ser.cut_length]) (by omega)
          obtain ⟨c4, c5, c6, c7⟩ := hcel wr (Below.refl _ _)
          have h8 := c7 X
          rw [hst] at h8
          obtain ⟨M, hM⟩ : ∃ M, d - j + 1 = M := ⟨_, rfl⟩
          rw [hM] at c4
          have HO2 := Lib.hid (h8.more (show wr.heap.size ≤ (wr.setCell ⟨b, k, none⟩ (.int .i64 X)).heap.size by simp [World.setCell]))
          have HB2 := Lib.hid (hbel.setCell (p := ⟨b, k, none⟩) g2 (.int .i64 X))
          have i0 : (0 : Int) ≤ (j : Int) := by omega
          have i1 : (j : Int) < (N : Int) := by omega
          have i2 : (j : Int) < (d : Int) + 1 := by omega
          have i3 : (k : Int) < (M : Int) := by omega
          clear hNk hc2 hX hst hcel c7 h8 hM hown hbel hri hc
          go_wp2
          go_roundw
          case rel => exact ⟨j + 1, by omega, by go_num, HO2.out, HB2.out⟩
          case measure => simp only [intOf]; omega
        · obtain rfl : j = N := by omega
          have ho := HO.out
          rw [turF_next m d t k j (by have := HN.out; omega)] at ho
          have HO2 := Lib.hid ho
          clear ho hown hbel hri hc HO
          go_wp2
          go_roundw
          case rel => exact ⟨k + 1, by omega, by go_num, HO2.out, HB.out⟩
          case measure => simp only [intOf]; omega
    · obtain rfl : k = d + 1 := by omega
      have ho := HO.out
      rw [turF_end] at ho
      have HF := Lib.hid ho
      clear ho
      go_wp2
      go_ret
      exact ⟨_, rfl, HF.out, HB.out⟩
def turP := oneP fun m d t => Pl.tab m d fun i j => Pl.pc t j i
theorem turP_len (m : Int) (t : List (List Int)) : szT (turP m t).2.1 ≤ 1048576 := oneP_len _ m t (fun _ h => szT_ok (h.tab _))
set_option maxHeartbeats 4000000 in
set_option maxRecDepth 100000 in
theorem TurnPlane_any (m : Int) (A : Option Addr) (c : Nat) (t : List (List Int)) (w : World) (hz : szT t ≤ 1048576) (hr : RP w A t) :
    Calls Try.prog 30 #[.agg #[.int .i64 m, .slice A t.length c]] w fun e w' => ∃ s, e = .returned (.tuple #[.agg #[.int .i64 (turP m t).1, s], .int .i64 (turP m t).2.2]) ∧ OwnR w' w.heap.size w'.heap.size s (turP m t).2.1 ∧ Below w.heap.size w w' := by
  obtain ⟨W, hW, b1, v3, b4, hwb⟩ := pro1P w m A t.length c
  have B1 := Lib.hid b1
  have V3 := Lib.hid v3
  have HB := Lib.hid hwb
  have HW := Lib.hid hW
  have HC := Lib.hid (codeOfPlanes1_any (w.heap.size + 1 + 1) m A c t W hz (hr.below hwb) b4)
  by_cases h0 : codeP1 m t = 0
  · obtain ⟨d, e1, ok⟩ := plOk_of (codeP1_zero h0)
    have HA : Hid (turP m t = (m, (Pl.tab m d fun i j => Pl.pc t j i), 0)) := Lib.hid (by unfold turP oneP; rw [if_pos h0, e1]; rfl)
    rw [HA.out]
    have HG := Lib.hid (fun W0 => gridOf_nat m A t.length c d W0 e1 (by have := ok.d2; omega))
    have HP := Lib.hid (fun W0 (h : Below W.heap.size W W0) => turned_any m d A c t W0 ok ((hr.below hwb).below h))
    have hc := HC.out
    rw [h0] at hc
    have HC0 := Lib.hid hc
    obtain ⟨T, hT⟩ : ∃ T, (Pl.tab m d fun i j => Pl.pc t j i) = T := ⟨_, rfl⟩
    rw [hT] at HP ⊢
    clear b1 v3 b4 hwb hW hr hc HC h0 ok hT e1 hz
    go_enter Try.func30, Try.ntmps30
    go_wp2_with fail
    rw [HW.out]
    refine HC0.out.mono ?_
    rintro e w1 ⟨rfl, hb1⟩
    obtain ⟨x1, x2, x3⟩ := B1.out.keep hb1
    go_wp2_with fail
    refine (HG.out _).mono ?_
    rintro e w2 ⟨rfl, hb2⟩
    go_wp2_with fail
    refine (HP.out _ (below_step hb1 hb2)).mono ?_
    rintro e w3 ⟨s, rfl, ho, hb3⟩
    obtain ⟨A2, c2, rfl, -⟩ := ho.len
    go_wp2_with fail
    refine (plane_any _ _ _ _ _ _).mono ?_
    rintro e w4 ⟨rfl, hb4⟩
    have hb := below_step (below_step (below_step hb1 hb2) hb3) hb4
    have hv := V3.out.keep hb
    obtain ⟨q0, q1, q2, q3⟩ := hv.tells2
    obtain ⟨f0, f1, f2, f3⟩ := fin_plane (w := w) hv (ho.keep hb4) (.inl (by have := V3.out.lt; have := (below_step hb1 hb2).size; omega)) (by omega) hb4.size (below_step HB.out hb) (.int .i64 m) (.slice A2 T.length c2)
    have F2 := Lib.hid (f2.low (show w.heap.size ≤ w2.heap.size by have := V3.out.lt; have := (below_step hb1 hb2).size; omega))
    have F3 := Lib.hid f3
    clear f2 f3 hv ho hb
    go_wp2
    exact bodyPost_ret (v := .tuple #[.agg #[.int .i64 m, .slice A2 T.length c2], .int .i64 0]) (by simp [results, Try.results30, go_sem, f0, f1]) rfl ⟨_, rfl, F2.out, F3.out⟩
  · have HA : Hid (turP m t = (0, [], codeP1 m t)) := Lib.hid (by unfold turP oneP; rw [if_neg h0])
    rw [HA.out]
    clear b1 v3 b4 hwb hW hr hz
    obtain ⟨n1, n2⟩ := ne_facts h0
    obtain ⟨C, hC⟩ : ∃ C, codeP1 m t = C := ⟨_, rfl⟩
    have hc := HC.out
    rw [hC] at n1 n2 h0 hc ⊢
    have HC0 := Lib.hid hc
    clear hc HC hC
    go_enter Try.func30, Try.ntmps30
    go_wp2_with fail
    rw [HW.out]
    refine HC0.out.mono ?_
    rintro e w1 ⟨rfl, hb1⟩
    have hv := V3.out.keep (hb1)
    obtain ⟨q0, q1, q2, q3⟩ := hv.tells2
    obtain ⟨f0, f1, f2, f3⟩ := fin_plane (w := w) hv (OwnR.nil _ w.heap.size 0) (.inr (Nat.zero_le _)) (by omega) (Nat.zero_le _) (below_step HB.out (hb1)) (.int .i64 0) (.slice none 0 0)
    have F2 := Lib.hid f2
    have F3 := Lib.hid f3
    clear f2 f3 hv
    go_wp2
    exact bodyPost_ret (v := .tuple #[.agg #[.int .i64 0, .slice none 0 0], .int .i64 (C)]) (by simp [results, Try.results30, go_sem, f0, f1]) rfl ⟨_, rfl, F2.out, F3.out⟩
set_option maxHeartbeats 4000000 in
set_option maxRecDepth 100000 in
theorem sTurnPlane_any (m : Int) (A : Option Addr) (c : Nat) (t : List (List Int)) (w : World) (hz : szT t ≤ 1048576) (hr : RP w A t) :
    Calls Try.prog 29 #[.agg #[.int .i64 m, .slice A t.length c]] w fun e w' => ∃ s, e = .returned (.tuple #[.agg #[.int .i64 (turP m t).1, s], .int .i64 (turP m t).2.2]) ∧ OwnR w' w.heap.size w'.heap.size s (turP m t).2.1 ∧ Below w.heap.size w w' := by
  obtain ⟨W, hW, b1, v3, hwb⟩ := spro1P w m A t.length c
  have B1 := Lib.hid b1
  have V3 := Lib.hid v3
  have HB := Lib.hid hwb
  have HW := Lib.hid hW
  have HC := Lib.hid (l03Is_z m A c t W hz (hr.below hwb))
  by_cases h0 : isP m t = true
  · obtain ⟨d, e1, ok⟩ := plOk_of h0
    have HA : Hid (turP m t = (m, (Pl.tab m d fun i j => Pl.pc t j i), 0)) := Lib.hid (by unfold turP oneP; rw [if_pos (codeP1_yes h0), e1]; rfl)
    rw [HA.out]
    have HP := Lib.hid (fun W0 (h : Below W.heap.size W W0) => l03Turn_any m d A c t W0 ok ((hr.below hwb).below h))
    have hc := HC.out
    rw [h0] at hc
    have HC0 := Lib.hid hc
    obtain ⟨T, hT⟩ : ∃ T, (Pl.tab m d fun i j => Pl.pc t j i) = T := ⟨_, rfl⟩
    rw [hT] at HP ⊢
    obtain ⟨L, hL⟩ : ∃ L, t.length = L := ⟨_, rfl⟩
    rw [hL] at HW B1 HP HC0 ⊢
    clear b1 v3 hwb hW hr hc HC h0 ok hT hz e1 hL
    go_enter Try.func29, Try.ntmps29
    go_wp2_with fail
    rw [HW.out]
    refine HC0.out.mono ?_
    rintro e w0 ⟨rfl, hb0⟩
    obtain ⟨x1, x2, x3⟩ := B1.out.keep hb0
    go_wp2
    go_region_held3 (fun w' => w'.cell? ⟨w.heap.size, 0, none⟩ = some (.int .i64 m) ∧ w'.cell? ⟨w.heap.size, 1, none⟩ = some (.slice A L c) ∧ w.heap.size < w'.heap.size) (first | exact ⟨x1, x2, x3⟩ | exact box_store (by omega) (by assumption) | exact box_call (by assumption) (by assumption)) (first
      | (go_at_call 73; refine (HP.out _ (below_step hb0 (below_drew0 _))).mono ?_; rintro e2 w2 ⟨s, rfl, ho, hb2⟩; obtain ⟨A2, c2, rfl, _⟩ := ho.len)
      | (go_at_call 61; refine (l03Make_any _ _ _ _ _).mono ?_; rintro e3 w3 ⟨rfl, hb3⟩; have hv := V3.out.keep (below_step (below_step (below_step hb0 (below_drew0 _)) hb2) hb3); obtain ⟨q0, q1, q2, q3⟩ := hv.tells2))
    all_goals
      have hw3 := below_step (below_step (below_step hb0 (below_drew0 _)) hb2) hb3
      have hz1 := (below_step hb0 (below_drew0 _)).size
      have hz2 := V3.out.lt
      obtain ⟨f0, f1, f2, f3⟩ := fin_plane (w := w) hv (ho.keep hb3) (.inl (by omega)) (by omega) hb3.size (below_step HB.out hw3) (.int .i64 m) (.slice A2 T.length c2)
      have F2 := Lib.hid (f2.low (lo' := w.heap.size) (by omega))
      have F3 := Lib.hid f3
      clear f2 f3 ho hb0 hb2 hb3 hv hw3
      go_wp2
      exact bodyPost_ret (v := .tuple #[.agg #[.int .i64 m, .slice A2 T.length c2], .int .i64 0]) (by simp [results, Try.results29, go_sem, f0, f1]) rfl ⟨_, rfl, F2.out, F3.out⟩
  · have h0' : isP m t = false := by simpa using h0
    have HA : Hid (turP m t = (0, [], 1)) := Lib.hid (by unfold turP oneP; rw [codeP1_no h0', if_neg (by decide)])
    rw [HA.out]
    have hc := HC.out
    rw [h0'] at hc
    have HC0 := Lib.hid hc
    clear b1 v3 hwb hW hr hz hc HC h0 h0'
    go_enter Try.func29, Try.ntmps29
    go_wp2_with fail
    rw [HW.out]
    refine HC0.out.mono ?_
    rintro e w1 ⟨rfl, hb1⟩
    have hv := V3.out.keep (hb1)
    obtain ⟨q0, q1, q2, q3⟩ := hv.tells2
    obtain ⟨f0, f1, f2, f3⟩ := fin_plane (w := w) hv (OwnR.nil _ w.heap.size 0) (.inr (Nat.zero_le _)) (by omega) (Nat.zero_le _) (below_step HB.out (hb1)) (.int .i64 0) (.slice none 0 0)
    have F2 := Lib.hid f2
    have F3 := Lib.hid f3
    clear f2 f3 hv
    go_wp2
    exact bodyPost_ret (v := .tuple #[.agg #[.int .i64 0, .slice none 0 0], .int .i64 (1)]) (by simp [results, Try.results29, go_sem, f0, f1]) rfl ⟨_, rfl, F2.out, F3.out⟩
end Go.Proofs.Ytjgpdgoclianlaa
