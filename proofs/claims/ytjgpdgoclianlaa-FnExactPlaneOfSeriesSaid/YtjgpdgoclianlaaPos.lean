/- Contracts of PlaneOfSeries, of the program and of the model. -/
import Derived.Test.YtjgpdgoclianlaaGse
import Derived.Test.YtjgpdgoclianlaaPtu
import Derived.Test.YtjgpdgoclianlaaTmS
namespace Go.Proofs.Ytjgpdgoclianlaa
open Go.RowKit Go.WideShapes Go.ChangeShapes Go.ChangeAt

/-- the model of PlaneOfSeries -/
def posP (m : Int) (l : List Int) (k : Int) : Int × List (List Int) × Int :=
  if isS m l = true then (if inB k 0 1 = true then (m, Pl.tab m (l.length - 1) (gosF l k), 0) else (0, [], 2)) else (0, [], 1)
theorem ok_ser {m : Int} {d : Nat} {l : List Int} (h : SerOk m d l) (f : Nat → Nat → Int) : Pl.Ok m d (Pl.tab m d f) := Pl.Ok.of_tab h.m1 h.m2 h.d1 h.d2 f
theorem posP_len (m : Int) (l : List Int) (k : Int) : szT (posP m l k).2.1 ≤ 1048576 := by
  unfold posP
  by_cases h : isS m l = true
  · rw [if_pos h]
    obtain ⟨d, e, s⟩ := serOk_of h
    rw [e]
    by_cases hk : inB k 0 1 = true
    · rw [if_pos hk]; exact szT_ok (ok_ser s _)
    · rw [if_neg hk]; exact Nat.zero_le _
  · rw [if_neg h]; exact Nat.zero_le _
/-- a series' box, a plane's variable, the list of the one series -/
theorem pro1T (w : World) (m : Int) (A : Option Addr) (n c : Nat) : ∃ W, ((w.alloc (.cells #[.int .i64 m, .slice A n c] 49)).alloc (.cells #[.int .i64 0, .slice none 0 0] 27)).alloc (.cells #[.int .i64 m, .slice A n c] 49) = W ∧
    Box W w.heap.size m A n c ∧ VarC 27 W (w.heap.size + 1) #[.int .i64 0, .slice none 0 0] ∧ Box W (w.heap.size + 1 + 1) m A n c ∧ Below w.heap.size w W := by
  refine ⟨_, rfl, ((Box.newT _ _ _ _ _ _).keep (below_one _ _)).keep (below_one _ _), ?_, ?_, below_alloc _ (below_alloc _ (below_one _ _))⟩
  · have := (VarC.new 27 (w.alloc (.cells #[.int .i64 m, .slice A n c] 49)) #[.int .i64 0, .slice none 0 0]).keep (below_one _ (.cells #[.int .i64 m, .slice A n c] 49))
    simpa using this
  · have := Box.newT 49 ((w.alloc (.cells #[.int .i64 m, .slice A n c] 49)).alloc (.cells #[.int .i64 0, .slice none 0 0] 27)) m A n c
    simpa using this
theorem spro1T (w : World) (m : Int) (A : Option Addr) (n c : Nat) : ∃ W, (w.alloc (.cells #[.int .i64 m, .slice A n c] 49)).alloc (.cells #[.int .i64 0, .slice none 0 0] 27) = W ∧
    Box W w.heap.size m A n c ∧ VarC 27 W (w.heap.size + 1) #[.int .i64 0, .slice none 0 0] ∧ Below w.heap.size w W := by
  refine ⟨_, rfl, (Box.newT _ _ _ _ _ _).keep (below_one _ _), ?_, below_alloc _ (below_one _ _)⟩
  have := VarC.new 27 (w.alloc (.cells #[.int .i64 m, .slice A n c] 49)) #[.int .i64 0, .slice none 0 0]
  simpa using this
set_option maxHeartbeats 4000000 in
set_option maxRecDepth 100000 in
theorem PlaneOfSeries_any (m : Int) (A : Option Addr) (c : Nat) (l : List Int) (k : Int) (w : World) (hl : l.length ≤ 1048576) (hr : RI w A l) :
    Calls Try.prog 49 #[.agg #[.int .i64 m, .slice A l.length c], .int .i64 k] w fun e w' => ∃ s, e = .returned (.tuple #[.agg #[.int .i64 (posP m l k).1, s], .int .i64 (posP m l k).2.2]) ∧ OwnR w' w.heap.size w'.heap.size s (posP m l k).2.1 ∧ Below w.heap.size w w' := by
  obtain ⟨W, hW, b1, v3, b4, hwb⟩ := pro1T w m A l.length c
  have B1 := Lib.hid b1
  have V3 := Lib.hid v3
  have HB := Lib.hid hwb
  have HW := Lib.hid hW
  have HC := Lib.hid (codeOfSeries1_any (w.heap.size + 1 + 1) m A c l W (by omega) (hr.below hwb) b4)
  by_cases h0 : isS m l = true
  · obtain ⟨d, e1, ok⟩ := serOk_of h0
    have hc := HC.out
    rw [code1_isS h0] at hc
    have HC0 := Lib.hid hc
    by_cases hk : inB k 0 1 = true
    · have HA : Hid (posP m l k = (m, Pl.tab m d (gosF l k), 0)) := Lib.hid (by unfold posP; rw [if_pos h0, if_pos hk, e1]; rfl)
      rw [HA.out]
      have HI := Lib.hid (fun W0 => by have := isWithin_any k 0 1 W0; rw [hk] at this; exact this)
      have HP := Lib.hid (fun W0 (h : Below W.heap.size W W0) => gridOfSeries_any m d A c l k W0 ok ((hr.below hwb).below h))
      obtain ⟨T, hT⟩ : ∃ T, Pl.tab m d (gosF l k) = T := ⟨_, rfl⟩
      rw [hT] at HP ⊢
      clear b1 v3 b4 hwb hW hr hc HC h0 ok hT e1 hk
      go_enter Try.func49, Try.ntmps49
      go_wp2_with fail
      rw [HW.out]
      refine HC0.out.mono ?_
      rintro e w2 ⟨rfl, hb1⟩
      obtain ⟨x1, x2, x3⟩ := B1.out.keep hb1
      go_wp2_with fail
      refine (HI.out _).mono ?_
      rintro e w' ⟨rfl, rfl⟩
      go_wp2_with fail
      refine (HP.out _ hb1).mono ?_
      rintro e w3 ⟨s, rfl, ho, hb3⟩
      obtain ⟨A2, c2, rfl, -⟩ := ho.len
      go_wp2_with fail
      refine (plane_any _ _ _ _ _ _).mono ?_
      rintro e w4 ⟨rfl, hb4⟩
      have hb := below_step (below_step (hb1) hb3) hb4
      have hv := V3.out.keep hb
      obtain ⟨q0, q1, q2, q3⟩ := hv.tells2
      obtain ⟨f0, f1, f2, f3⟩ := fin_plane (w := w) hv (ho.keep hb4) (.inl (by have := V3.out.lt; have := (hb1).size; omega)) (by omega) hb4.size (below_step HB.out hb) (.int .i64 m) (.slice A2 T.length c2)
      have F2 := Lib.hid (f2.low (show w.heap.size ≤ w2.heap.size by have := V3.out.lt; have := (hb1).size; omega))
      have F3 := Lib.hid f3
      clear f2 f3 hv ho hb
      go_wp2
      exact bodyPost_ret (v := .tuple #[.agg #[.int .i64 m, .slice A2 T.length c2], .int .i64 0]) (by simp [results, Try.results49, go_sem, f0, f1]) rfl ⟨_, rfl, F2.out, F3.out⟩
    · have HA : Hid (posP m l k = (0, [], 2)) := Lib.hid (by unfold posP; rw [if_pos h0, if_neg hk])
      rw [HA.out]
      have hk' : inB k 0 1 = false := by simpa using hk
      have HI := Lib.hid (fun W0 => by have := isWithin_any k 0 1 W0; rw [hk'] at this; exact this)
      clear b1 v3 b4 hwb hW hr hc HC h0 ok e1 hk hk'
      go_enter Try.func49, Try.ntmps49
      go_wp2_with fail
      rw [HW.out]
      refine HC0.out.mono ?_
      rintro e w2 ⟨rfl, hb1⟩
      go_wp2_with fail
      refine (HI.out _).mono ?_
      rintro e w' ⟨rfl, rfl⟩
      have hv := V3.out.keep (hb1)
      obtain ⟨q0, q1, q2, q3⟩ := hv.tells2
      obtain ⟨f0, f1, f2, f3⟩ := fin_plane (w := w) hv (OwnR.nil _ w.heap.size 0) (.inr (Nat.zero_le _)) (by omega) (Nat.zero_le _) (below_step HB.out (hb1)) (.int .i64 0) (.slice none 0 0)
      have F2 := Lib.hid f2
      have F3 := Lib.hid f3
      clear f2 f3 hv
      go_wp2
      exact bodyPost_ret (v := .tuple #[.agg #[.int .i64 0, .slice none 0 0], .int .i64 (2)]) (by simp [results, Try.results49, go_sem, f0, f1]) rfl ⟨_, rfl, F2.out, F3.out⟩
  · have h0' : isS m l = false := by simpa using h0
    have hc := HC.out
    rw [code1_no h0'] at hc
    have HC0 := Lib.hid hc
    have HA : Hid (posP m l k = (0, [], 1)) := Lib.hid (by unfold posP; rw [if_neg h0])
    rw [HA.out]
    clear b1 v3 b4 hwb hW hr hc HC h0 h0'
    go_enter Try.func49, Try.ntmps49
    go_wp2_with fail
    rw [HW.out]
    refine HC0.out.mono ?_
    rintro e w1 ⟨rfl, hb1⟩
    have hv := V3.out.keep (hb1)
    obtain ⟨q0, q1, q2, q3⟩ := hv.tells2
    obtain ⟨f0, f1, f2, f3⟩ := fin_plane (w := w) hv (OwnR.nil _ w.heap.size 0) (.inr (Nat.zero_le _)) (by omega) (Nat.zero_le _) (below_step HB.out (hb1)) (.int .i64 0) (.slice none 0 0)
    have F2 := Lib.hid f2
    have F3 := Lib.hid f3
    clear f2 f3 hv
    go_wp2
    exact bodyPost_ret (v := .tuple #[.agg #[.int .i64 0, .slice none 0 0], .int .i64 (1)]) (by simp [results, Try.results49, go_sem, f0, f1]) rfl ⟨_, rfl, F2.out, F3.out⟩
/-- what the model's loop has written: the rows below q -/
def posF (l : List Int) (q : Nat) : Nat → Nat → Int := fun i j => if j = 0 ∧ i < q then Ser.co l i else 0
theorem posF_zero (m : Int) (d : Nat) (l : List Int) : Pl.tab m d (posF l 0) = Pl.tab m d fun _ _ => 0 := Pl.tab_congr (Pl.Eq.of m d (fun i j _ => by unfold posF; rw [if_neg (by omega)]))
theorem posF_end (m : Int) (d : Nat) (l : List Int) : Pl.tab m d (posF l (d + 1)) = Pl.tab m d (gosF l 0) := Pl.tab_congr (Pl.Eq.of m d (fun i j h => by
  unfold posF gosF
  rw [if_pos rfl]
  by_cases hj : j = 0
  · rw [if_pos hj, if_pos ⟨hj, by omega⟩]
  · rw [if_neg hj, if_neg (fun e => hj e.1)]))
theorem posF_step {m : Int} {d : Nat} {l : List Int} (hs : SerOk m d l) (q : Nat) (h : q ≤ d) : (Pl.tab m d (posF l q)).set q ((Pl.rw' (Pl.tab m d (posF l q)) q).set 0 (Ser.co l q)) = Pl.tab m d (posF l (q + 1)) := by
  refine Pl.tab_put (by omega) ?_ (fun i j _ hne => ?_)
  · unfold posF
    rw [if_pos ⟨rfl, by omega⟩, Int.emod_eq_of_lt (hs.red q).1 (hs.red q).2]
  · unfold posF
    by_cases h1 : j = 0 ∧ i < q
    · rw [if_pos h1, if_pos ⟨h1.1, by omega⟩]
    · rw [if_neg h1, if_neg (by omega)]
theorem gosF_one (m : Int) (d : Nat) (l : List Int) : (Pl.tab m d fun i j => Pl.pc (Pl.tab m d (gosF l 0)) j i) = Pl.tab m d (gosF l 1) :=
  Pl.tab_congr (fun i j h => by
    rw [Pl.pc_tab (by omega), Int.emod_emod]
    simp [gosF])
set_option maxHeartbeats 4000000 in
set_option maxRecDepth 100000 in
theorem sPlaneOfSeries_any (m : Int) (A : Option Addr) (c : Nat) (l : List Int) (k : Int) (w : World) (hl : l.length ≤ 1048576) (hr : RI w A l) :
    Calls Try.prog 48 #[.agg #[.int .i64 m, .slice A l.length c], .int .i64 k] w fun e w' => ∃ s, e = .returned (.tuple #[.agg #[.int .i64 (posP m l k).1, s], .int .i64 (posP m l k).2.2]) ∧ OwnR w' w.heap.size w'.heap.size s (posP m l k).2.1 ∧ Below w.heap.size w w' := by
  obtain ⟨W, hW, b1, v3, hwb⟩ := spro1T w m A l.length c
  have B1 := Lib.hid b1
  have V3 := Lib.hid v3
  have HB := Lib.hid hwb
  have HW := Lib.hid hW
  have HR := Lib.hid (hr.below hwb)
  have HC := Lib.hid (l02Is_any m A c l W (by omega) (hr.below hwb))
  by_cases h0 : isS m l = true
  · obtain ⟨d, e1, ok⟩ := serOk_of h0
    have hc := HC.out
    rw [h0] at hc
    have HC0 := Lib.hid hc
    by_cases hk : inB k 0 1 = true
    · have HA : Hid (posP m l k = (m, Pl.tab m d (gosF l k), 0)) := Lib.hid (by unfold posP; rw [if_pos h0, if_pos hk, e1]; rfl)
      rw [HA.out]
      obtain ⟨k1, k2⟩ := (inB_iff _ _ _).1 hk
      have HI := Lib.hid (fun W0 => by have := l01In_any k 0 1 W0; rw [hk] at this; exact this)
      have HD := Lib.hid (fun W0 => l02Degree_any m A l.length c d W0 e1 (by have := ok.d2; omega))
      have HZ := Lib.hid (fun W0 => l03Zero_any m d W0 (by have := ok.d2; omega))
      have HTU := Lib.hid (fun (W0 : World) (A0 : Option Addr) (c0 : Nat) (h : RP W0 A0 (Pl.tab m d (gosF l 0))) => by have := l03Turn_any m d A0 c0 _ W0 (ok_ser ok _) h; rw [gosF_one] at this; exact this)
      have OK := Lib.hid ok
      have hd2 := ok.d2
      obtain ⟨L, hL⟩ : ∃ L, l.length = L := ⟨_, rfl⟩
      have HL := Lib.hid (hL.symm.trans e1)
      have hLb : L ≤ 11 := by omega
      rw [hL] at HW B1 HC0 HD ⊢
      obtain ⟨T, hT⟩ : ∃ T, Pl.tab m d (gosF l k) = T := ⟨_, rfl⟩
      rw [hT]
      have HTT := Lib.hid hT
      clear hT
      clear b1 v3 hwb hW hr hc HC h0 ok e1 hk hL hl
      go_enter Try.func48, Try.ntmps48
      go_wp2_with fail
      rw [HW.out]
      refine HC0.out.mono ?_
      rintro e w1 ⟨rfl, hb1⟩
      obtain ⟨x1, x2, x3⟩ := B1.out.keep hb1
      go_wp2_with fail
      refine (HI.out _).mono ?_
      rintro e w' ⟨rfl, rfl⟩
      go_wp2_with fail
      refine (HD.out _).mono ?_
      rintro e w2 ⟨rfl, hb2⟩
      go_wp2_with fail
      refine (HZ.out _).mono ?_
      rintro e w3 ⟨v, rfl, ho, hb3⟩
      rw [← posF_zero m d l] at ho
      obtain ⟨g, cv, rfl⟩ := ho.openv (by rw [Pl.tab_length]; omega)
      rw [Pl.tab_length] at ho ⊢
      have hw3 := below_step (below_step hb1 hb2) hb3
      have HO1 := Lib.hid ho
      have HB1 := Lib.hid hw3
      have hW2 : W.heap.size ≤ w2.heap.size := (below_step hb1 hb2).size
      clear ho hb3 hw3 hb1 hb2 x1 x2 x3
      go_wp2
      go_loopw [7] (fun i wr => ∃ q : Nat, q ≤ L ∧ i = .int .i64 q ∧ OwnR wr w2.heap.size wr.heap.size (.slice (some ⟨g, 0, none⟩) (d + 1) cv) (Pl.tab m d (posF l q)) ∧ Below W.heap.size W wr) (fun i _ => L - (intOf i).toNat)
      case atStart => exact ⟨0, Nat.zero_le _, rfl, HO1.out, HB1.out⟩
      case round =>
        clear HO1 HB1
        obtain ⟨q, hq, rfl, hown, hbel⟩ := hrel
        have HB' := Lib.hid hbel
        have HO := Lib.hid hown
        obtain ⟨x1, x2, x3⟩ := B1.out.keep hbel
        by_cases hlt : q < L
        · have hLd := HL.out
          obtain ⟨b, off, rfl, hb, hc⟩ := HR.out.at q (by rw [OK.out.len]; omega)
          have hc3 := (hbel.cell (p := ⟨b, off + q, none⟩) hb).trans hc
          have hst := posF_step OK.out q (by omega)
          obtain ⟨X, hX⟩ : ∃ X, Ser.co l q = X := ⟨_, rfl⟩
          rw [hX] at hc3 hst
          obtain ⟨b2, c3, g1, g2, g3, g4, hcel⟩ := HO.out.numB q 0 (d - q + 1) (by rw [Pl.tab_length]; omega) (by rw [Pl.tab_row m d _ q (by omega), Ser.cut_length]) (by omega)
          obtain ⟨c4, c5, c6, c7⟩ := hcel wr (Below.refl _ _)
          have h8 := c7 X
          rw [hst] at h8
          obtain ⟨M, hM⟩ : ∃ M, d - q + 1 = M := ⟨_, rfl⟩
          rw [hM] at c4
          have HO2 := Lib.hid (h8.more (show wr.heap.size ≤ (wr.setCell ⟨b2, 0, none⟩ (.int .i64 X)).heap.size by simp [World.setCell]))
          have HB2 := Lib.hid (hbel.setCell (p := ⟨b2, 0, none⟩) (by show W.heap.size ≤ b2; omega) (.int .i64 X))
          have i0 : (0 : Int) ≤ (q : Int) := by omega
          have i1 : (q : Int) < (L : Int) := by omega
          have i2 : (q : Int) < (d : Int) + 1 := by omega
          have i3 : (0 : Int) < (M : Int) := by omega
          have i4 : 0 < M := by omega
          clear hc hX hst hcel c7 h8 hM hown hbel hLd
          go_wp2
          go_roundw
          case rel => exact ⟨q + 1, by omega, by go_num, HO2.out, HB2.out⟩
          case measure => simp only [intOf]; omega
        · obtain rfl : q = L := by omega
          have ho := HO.out
          rw [HL.out, posF_end] at ho
          by_cases hk1 : k = 1
          · subst hk1
            obtain ⟨A9, c9, e9, hp9⟩ := ho.len
            injection e9 with e9 e9b e9c
            subst e9 e9c
            have HT := Lib.hid (HTU.out wr _ cv hp9)
            rw [Pl.tab_length, HTT.out] at HT
            clear hown e9b ho hp9 HTU HZ
            go_wp2_with fail
            refine HT.out.mono ?_
            rintro e w5 ⟨s, rfl, ho, hb5⟩
            obtain ⟨A2, c2, rfl, -⟩ := ho.len
            obtain ⟨y1, y2, y3⟩ := B1.out.keep (below_step hbel hb5)
            go_wp2_with fail
            refine (l03Make_any _ _ _ _ _).mono ?_
            rintro e w4 ⟨rfl, hb4⟩
            have hb := below_step (below_step hbel hb5) hb4
            have hv := V3.out.keep hb
            obtain ⟨q0, q1, q2, q3⟩ := hv.tells2
            obtain ⟨f0, f1, f2, f3⟩ := fin_plane (w := w) hv (ho.keep hb4) (.inl (by have := V3.out.lt; have := hbel.size; omega)) (by omega) hb4.size (below_step HB.out hb) (.int .i64 m) (.slice A2 T.length c2)
            have F2 := Lib.hid (f2.low (lo' := w.heap.size) (by have := V3.out.lt; have := hbel.size; omega))
            have F3 := Lib.hid f3
            clear f2 f3 hv ho hb hbel hb5 hb4
            go_wp2
            exact bodyPost_ret (v := .tuple #[.agg #[.int .i64 m, .slice A2 T.length c2], .int .i64 0]) (by simp [results, Try.results48, go_sem, f0, f1]) rfl ⟨_, rfl, F2.out, F3.out⟩
          · have hk0 : k = 0 := by omega
            subst hk0
            rw [HTT.out] at ho
            clear hown HTU HZ
            go_wp2_with fail
            refine (l03Make_any _ _ _ _ _).mono ?_
            rintro e w4 ⟨rfl, hb4⟩
            have hb := below_step hbel hb4
            have hv := V3.out.keep hb
            obtain ⟨q0, q1, q2, q3⟩ := hv.tells2
            obtain ⟨f0, f1, f2, f3⟩ := fin_plane (w := w) hv (ho.keep hb4) (.inl (by have := V3.out.lt; omega)) (by omega) hb4.size (below_step HB.out hb) (.int .i64 m) (.slice (some ⟨g, 0, none⟩) (d + 1) cv)
            have F2 := Lib.hid (f2.low (lo' := w.heap.size) (by have := V3.out.lt; omega))
            have F3 := Lib.hid f3
            clear f2 f3 hv ho hb hbel hb4
            go_wp2
            exact bodyPost_ret (v := .tuple #[.agg #[.int .i64 m, .slice (some ⟨g, 0, none⟩) (d + 1) cv], .int .i64 0]) (by simp [results, Try.results48, go_sem, f0, f1]) rfl ⟨_, rfl, F2.out, F3.out⟩
    · have HA : Hid (posP m l k = (0, [], 2)) := Lib.hid (by unfold posP; rw [if_pos h0, if_neg hk])
      rw [HA.out]
      have hk' : inB k 0 1 = false := by simpa using hk
      have HI := Lib.hid (fun W0 => by have := l01In_any k 0 1 W0; rw [hk'] at this; exact this)
      clear b1 v3 hwb hW hr hc HC h0 ok e1 hk hk'
      go_enter Try.func48, Try.ntmps48
      go_wp2_with fail
      rw [HW.out]
      refine HC0.out.mono ?_
      rintro e w2 ⟨rfl, hb1⟩
      go_wp2_with fail
      refine (HI.out _).mono ?_
      rintro e w' ⟨rfl, rfl⟩
      have hv := V3.out.keep (hb1)
      obtain ⟨q0, q1, q2, q3⟩ := hv.tells2
      obtain ⟨f0, f1, f2, f3⟩ := fin_plane (w := w) hv (OwnR.nil _ w.heap.size 0) (.inr (Nat.zero_le _)) (by omega) (Nat.zero_le _) (below_step HB.out (hb1)) (.int .i64 0) (.slice none 0 0)
      have F2 := Lib.hid f2
      have F3 := Lib.hid f3
      clear f2 f3 hv
      go_wp2
      exact bodyPost_ret (v := .tuple #[.agg #[.int .i64 0, .slice none 0 0], .int .i64 (2)]) (by simp [results, Try.results48, go_sem, f0, f1]) rfl ⟨_, rfl, F2.out, F3.out⟩
  · have h0' : isS m l = false := by simpa using h0
    have hc := HC.out
    rw [h0'] at hc
    have HC0 := Lib.hid hc
    have HA : Hid (posP m l k = (0, [], 1)) := Lib.hid (by unfold posP; rw [if_neg h0])
    rw [HA.out]
    clear b1 v3 hwb hW hr hc HC h0 h0'
    go_enter Try.func48, Try.ntmps48
    go_wp2_with fail
    rw [HW.out]
    refine HC0.out.mono ?_
    rintro e w1 ⟨rfl, hb1⟩
    have hv := V3.out.keep (hb1)
    obtain ⟨q0, q1, q2, q3⟩ := hv.tells2
    obtain ⟨f0, f1, f2, f3⟩ := fin_plane (w := w) hv (OwnR.nil _ w.heap.size 0) (.inr (Nat.zero_le _)) (by omega) (Nat.zero_le _) (below_step HB.out (hb1)) (.int .i64 0) (.slice none 0 0)
    have F2 := Lib.hid f2
    have F3 := Lib.hid f3
    clear f2 f3 hv
    go_wp2
    exact bodyPost_ret (v := .tuple #[.agg #[.int .i64 0, .slice none 0 0], .int .i64 (1)]) (by simp [results, Try.results48, go_sem, f0, f1]) rfl ⟨_, rfl, F2.out, F3.out⟩
end Go.Proofs.Ytjgpdgoclianlaa
