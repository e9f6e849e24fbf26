/- Contracts of PowerOfSeries, of the program and of the model. -/
import Derived.Test.YtcnkpfikafaocaaVrs
namespace Go.Proofs.Ytcnkpfikafaocaa
open Go.RowKit Go.WideShapes Go.ChangeShapes Go.ChangeAt

def powM (m : Int) (l : List Int) (k : Int) : Int × List Int × Int :=
  if isS m l = true then (if inB k 0 1000 = true then (m, Ser.powL m (l.length - 1) l k.toNat, 0) else (0, [], 2)) else (0, [], 1)
theorem powM_len (m : Int) (l : List Int) (k : Int) : (powM m l k).2.1.length ≤ 1048576 := by
  unfold powM
  split
  · rename_i h
    obtain ⟨d, e, s⟩ := serOk_of h
    have := s.d2
    split
    · dsimp only; rw [Ser.powL_length]; omega
    · simp
  · simp
theorem SerOk.mul {m : Int} {d : Nat} {l l' : List Int} (h : SerOk m d l) : SerOk m d (Ser.mulL m d l l') := h.cut _

set_option maxHeartbeats 8000000 in
set_option maxRecDepth 100000 in
theorem PowerOfSeries_any (m : Int) (A : Option Addr) (c : Nat) (l : List Int) (k : Int) (w : World) (hl : l.length ≤ 1048576) (hr : RI w A l) :
    Calls Try.prog 29 #[.agg #[.int .i64 m, .slice A l.length c], .int .i64 k] w fun e w' => ∃ s, e = .returned (.tuple #[.agg #[.int .i64 (powM m l k).1, s], .int .i64 (powM m l k).2.2]) ∧ OwnI w' w.heap.size s (powM m l k).2.1 ∧ Below w.heap.size w w' := by
  obtain ⟨W, hW, b1, v3, b4, hwb⟩ := pro1 w m A l.length c
  have B1 := Lib.hid b1
  have V3 := Lib.hid v3
  have HB := Lib.hid hwb
  have HW := Lib.hid hW
  have R1 := Lib.hid (hr.below hwb)
  have HC := Lib.hid (codeOfSeries1_any (w.heap.size + 1 + 1) m A c l W (by omega) R1.out b4)
  clear b1 v3 b4 hwb hW hr
  by_cases h0 : isS m l = true
  · obtain ⟨d, e1, s1⟩ := serOk_of h0
    have hc := HC.out
    rw [code1_isS h0] at hc
    have HC0 := Lib.hid hc
    clear hc HC
    by_cases hk : inB k 0 1000 = true
    · obtain ⟨k1, k2⟩ := (inB_iff _ _ _).1 hk
      obtain ⟨K, rfl⟩ := Int.eq_ofNat_of_zero_le k1
      have HA : Hid (powM m l (K : Int) = (m, Ser.powL m d l K, 0)) := Lib.hid (by unfold powM; rw [if_pos h0, if_pos hk, e1]; rfl)
      rw [HA.out]
      have m1 := s1.m1
      have m2 := s1.m2
      have hd := s1.d2
      have HDG := Lib.hid (fun W0 => degree_nat m A l.length c d W0 e1 (by omega))
      have HMO := Lib.hid (fun W0 => monomial_any m d 0 1 W0 (by omega) m2 (by omega) (by omega) (by omega))
      have HSO := Lib.hid s1
      obtain ⟨L0, hL0⟩ : ∃ L0, Ser.cut m d (Ser.mon 0 1) = L0 := ⟨_, rfl⟩
      have HL0 := Lib.hid (show SerOk m d L0 by rw [← hL0]; exact s1.cut _)
      obtain ⟨R, hR⟩ : ∃ R, Ser.powL m d l K = R := ⟨_, rfl⟩
      have HRR := Lib.hid (show Ser.powS m d K L0 l = R by rw [← hR, ← hL0]; rfl)
      rw [hL0] at HMO
      rw [hR]
      clear hL0 hR e1 s1 h0
      go_enter Try.func29, Try.ntmps29
      go_wp2_with fail
      rw [HW.out]
      refine HC0.out.mono ?_
      rintro e W1 ⟨rfl, hb1⟩
      have Y1 := Lib.hid (B1.out.keep hb1)
      have V1 := Lib.hid (V3.out.keep hb1)
      have R2 := Lib.hid (R1.out.below hb1)
      have HB1 := Lib.hid (below_step HB.out hb1)
      have HSZ : w.heap.size + 1 < W1.heap.size := (V3.out.keep hb1).lt
      clear hb1 HC0 HW
      go_upto_region 6 with (go_at_call 67; refine (isWithin_any _ _ _ _).mono ?_; rintro e w' ⟨rfl, rfl⟩)
      go_cut [7] (fun s7 wx => ∃ g A1 c1, s7 = .pointer (some ⟨g, 0, none⟩) ∧ Var2 wx g (.int .i64 m) (.slice A1 L0.length c1) ∧ OwnI wx W1.heap.size (.slice A1 L0.length c1) L0 ∧ Below W1.heap.size W1 wx ∧ W1.heap.size ≤ g)
      case first =>
        go_region_held3 (fun w' => (w'.cell? ⟨w.heap.size, 0, none⟩ = some (.int .i64 m) ∧ w'.cell? ⟨w.heap.size, 1, none⟩ = some (.slice A l.length c)) ∧ True ∧ Below W1.heap.size W1 w') (first | exact one_in Y1.out (below_drew0 _) | exact one_in Y1.out hka | exact one_in Y1.out hbel | exact one_in Y1.out (below_alloc _ (trd (by assumption))) | exact one_in Y1.out (below_alloc _ hbel) | exact one_in Y1.out (reg_fin2 hwg hgc hv hod hbel m).2.2.1) (first
          | (go_at_call 68; refine (HDG.out _).mono ?_; rintro e wa ⟨rfl, hba⟩; obtain ⟨hka, -⟩ := reg_end (by assumption) hba)
          | (go_at_call 79; refine (HMO.out _).mono ?_; rintro e wd ⟨sd, rfl, hod, hbd⟩; obtain ⟨Ad, cd, rfl, -⟩ := hod.form; obtain ⟨hbel, hle⟩ := reg_end (by assumption) hbd; first | (refine use_it (var_keep ((Var2.new W1 _ _).drew.keep hba) hbd) ?_; rintro ⟨hv, hgc⟩; have hwg := var_at (k := W1.heap.size) hv (Nat.le_refl _); have q0 := hv.c0; have q1 := hv.c1; have q2 := hv.fz 0; have q3 := hv.fz 1) | (refine use_it (var_keep (Var2.new _ _ _).drew hbd) ?_; rintro ⟨hv, hgc⟩; have hwg := var_at (k := W1.heap.size) hv (Nat.le_refl _); have q0 := hv.c0; have q1 := hv.c1; have q2 := hv.fz 0; have q3 := hv.fz 1) | (refine use_it (var_keep (Var2.new _ _ _) hbd) ?_; rintro ⟨hv, hgc⟩; have hwg := var_at (k := W1.heap.size) hv hka.size; have q0 := hv.c0; have q1 := hv.c1; have q2 := hv.fz 0; have q3 := hv.fz 1) | skip))
        all_goals
          go_wp2_with fail
          go_meet
          case rel => first | exact ⟨_, _, _, rfl, reg_new2 hle hod hbel m⟩ | exact ⟨_, _, _, rfl, reg_fin2 hwg hgc hv hod hbel m⟩
      case rest =>
        obtain ⟨w2, hwc⟩ : ∃ w9, w9 = wc := ⟨_, rfl⟩
        subst hwc
        obtain ⟨g7, A7, c7, rfl, v7, o7, hb7, hg7⟩ := hcut
        have O7 := Lib.hid o7
        have V7 := Lib.hid v7
        have V2 := Lib.hid (V1.out.keep hb7)
        have R3 := Lib.hid (R2.out.below hb7)
        have B7 := Lib.hid (below_step HB1.out hb7)
        have G7 := Lib.hid hg7
        obtain ⟨x1, x2⟩ := box_in Y1.out hb7
        have SZ := hb7.size
        clear v7 o7 hb7 Y1 HDG HMO
        go_wp2
        go_loopw [1, 8] (fun s1 s8 wr => ∃ (kk : Nat) (P S : List Int) (g8 : Nat) (Ap : Option Addr) (cp : Nat) (As : Option Addr) (cs : Nat), s1 = .int .i64 kk ∧ s8 = .pointer (some ⟨g8, 0, none⟩) ∧ kk ≤ 1000 ∧ Ser.powS m d kk P S = R ∧ SerOk m d P ∧ SerOk m d S ∧
          Var2 wr g7 (.int .i64 m) (.slice Ap P.length cp) ∧ OwnI wr w.heap.size (.slice Ap P.length cp) P ∧ Var2 wr g8 (.int .i64 m) (.slice As S.length cs) ∧ RI wr As S ∧ Var2 wr (w.heap.size + 1) (.int .i64 0) (.slice none 0 0) ∧ Below w.heap.size w wr ∧ g7 < g8) (fun s1 _ _ => (intOf s1).toNat)
        case atStart =>
          have q1 := below_one w2 (.cells #[.int .i64 m, .slice A l.length c] 26)
          exact ⟨K, L0, l, _, A7, c7, A, c, rfl, rfl, by omega, HRR.out, HL0.out, HSO.out, V7.out.keep q1, (O7.out.keep q1).more (by omega), Var2.new _ _ _, R3.out.below q1, V2.out.keep q1, below_step B7.out q1, V7.out.lt⟩
        case round =>
          obtain ⟨kk, P, S, g8, Ap, cp, As, cs, rfl, rfl, hk9, hpw, sp, ss, vp, op, vs, rs, vr, hbl, hg⟩ := hrel
          have HPW := Lib.hid hpw
          have SP := Lib.hid sp
          have SS := Lib.hid ss
          have VP := Lib.hid vp
          have OP := Lib.hid op
          have VS := Lib.hid vs
          have RS := Lib.hid rs
          have VR := Lib.hid vr
          have HB := Lib.hid hbl
          clear hpw sp ss vp op vs rs vr hbl V7 O7 V2 R3 B7 HRR HL0 HSO V1 R2 HB1
          by_cases hz : kk = 0
          · subst hz
            have hr := HPW.out
            rw [Ser.powS_zero] at hr
            subst hr
            have z1 := VP.out.c0
            have z2 := VP.out.c1
            have z3 := VR.out.c0
            have z4 := VR.out.c1
            have z5 := VR.out.fz 0
            have z6 := VR.out.fz 1
            have f2 := (VR.out.set2 (.int .i64 m) (.slice Ap P.length cp))
            have F1 := f2.c0
            have F2 := f2.c1
            have F3 := Lib.hid (OP.out.set2 VR.out (.int .i64 m) (.slice Ap P.length cp))
            have F4 := Lib.hid (below_set2 HB.out (by omega : w.heap.size ≤ w.heap.size + 1) (.int .i64 m) (.slice Ap P.length cp))
            unfold set2 at F1 F2 F3 F4
            clear f2
            go_wp2
            exact bodyPost_ret (v := .tuple #[.agg #[.int .i64 m, .slice Ap P.length cp], .int .i64 0]) (by simp [results, Try.results29, go_sem, F1, F2]) rfl ⟨_, rfl, F3.out, F4.out⟩
          · have hz2 : 0 < kk := by omega
            clear hz
            by_cases hodd : kk % 2 = 1
            · have HN := Lib.hid (Ser.powS_odd m d P S hodd)
              have i1 : ((kk : Int)).tmod 2 = 1 := by rw [Int.tmod_eq_emod_of_nonneg (by omega)]; omega
              have i2 : ((kk : Int)).tdiv 2 = ((kk / 2 : Nat) : Int) := by rw [Int.tdiv_eq_ediv_of_nonneg (by omega)]; omega
              obtain ⟨y1, y2⟩ := (⟨VP.out.c0, VP.out.c1⟩ : _ ∧ _)
              obtain ⟨y3, y4⟩ := (⟨VS.out.c0, VS.out.c1⟩ : _ ∧ _)
              go_wp2_with fail
              refine (times_any m d Ap cp P m As cs S _ SP.out SS.out OP.out.ri RS.out).mono ?_
              rintro e w3 ⟨s3, rfl, ho3, hb3⟩
              obtain ⟨A3, c3, rfl, -⟩ := ho3.form
              obtain ⟨P2, hP2⟩ : ∃ P2, Ser.mulL m d P S = P2 := ⟨_, rfl⟩
              rw [hP2] at ho3 HN ⊢
              have sp2 : SerOk m d P2 := by rw [← hP2]; exact SP.out.mul
              have SP2 := Lib.hid sp2
              have vp3 := VP.out.keep hb3
              have q5 := vp3.c0
              have q6 := vp3.c1
              have q7 := vp3.fz 0
              have q8 := vp3.fz 1
              clear y1 y2 y3 y4
              obtain ⟨X, hX⟩ : ∃ X, set2 w3 g7 (.int .i64 m) (.slice A3 P2.length c3) = X := ⟨_, rfl⟩
              have VPx := Lib.hid (show Var2 X g7 (.int .i64 m) (.slice A3 P2.length c3) by rw [← hX]; exact vp3.set2 _ _)
              have OPx := Lib.hid (show OwnI X w.heap.size (.slice A3 P2.length c3) P2 by rw [← hX]; exact (ho3.set2 vp3 _ _).more HB.out.size)
              have vsx : Var2 X g8 (.int .i64 m) (.slice As S.length cs) := by rw [← hX]; exact (VS.out.keep hb3).set2' (by omega) _ _
              have VSx := Lib.hid vsx
              have RSx := Lib.hid (show RI X As S by rw [← hX]; exact (RS.out.below hb3).set2 vp3 (by have := SS.out.len; have := SS.out.d1; omega) _ _)
              have VRx := Lib.hid (show Var2 X (w.heap.size + 1) (.int .i64 0) (.slice none 0 0) by rw [← hX]; exact (VR.out.keep hb3).set2' (by have := G7.out; omega) _ _)
              have HBx := Lib.hid (show Below w.heap.size w X by rw [← hX]; exact below_set2 (below_step HB.out hb3) (by have := G7.out; omega) _ _)
              have y3 := vsx.c0
              have y4 := vsx.c1
              have g9 := G7.out
              rw [← hX] at y3 y4
              unfold set2 at y3 y4 hX
              have HX := Lib.hid hX
              clear ho3 hb3 hP2 vp3 vsx sp2 VP OP VS RS VR HB hX
              go_wp2_with fail
              rw [HX.out]
              clear y3 y4 HX
              refine (times_any m d As cs S m As cs S _ SS.out SS.out RSx.out RSx.out).mono ?_
              rintro e w5 ⟨s5, rfl, ho5, hb5⟩
              obtain ⟨A5, c5, rfl, -⟩ := ho5.form
              obtain ⟨S2, hS2⟩ : ∃ S2, Ser.mulL m d S S = S2 := ⟨_, rfl⟩
              rw [hS2] at ho5 HN ⊢
              have ss2 : SerOk m d S2 := by rw [← hS2]; exact SS.out.mul
              have vs5 := VSx.out.keep hb5
              have y5 := vs5.c0
              have y6 := vs5.c1
              have y7 := vs5.fz 0
              have y8 := vs5.fz 1
              have vs6 := vs5.set2 (.int .i64 m) (.slice A5 S2.length c5)
              have y9 := vs6.c0
              have y10 := vs6.c1
              have k1 := ((VPx.out.keep hb5).set2' (g' := g8) (by omega) (.int .i64 m) (.slice A5 S2.length c5)).keep (below_one _ (.cells #[.int .i64 m, .slice A5 S2.length c5] 26))
              have k2 := ((OPx.out.keep hb5).set2 vs5 (.int .i64 m) (.slice A5 S2.length c5)).keep (below_one _ (.cells #[.int .i64 m, .slice A5 S2.length c5] 26))
              have k3 := ((ho5.set2 vs5 (.int .i64 m) (.slice A5 S2.length c5)).keep (below_one _ (.cells #[.int .i64 m, .slice A5 S2.length c5] 26))).ri
              have k4 := ((VRx.out.keep hb5).set2' (g' := g8) (by omega) (.int .i64 m) (.slice A5 S2.length c5)).keep (below_one _ (.cells #[.int .i64 m, .slice A5 S2.length c5] 26))
              have k5 := below_step (below_set2 (below_step HBx.out hb5) (show w.heap.size ≤ g8 by omega) (.int .i64 m) (.slice A5 S2.length c5)) (below_one _ (.cells #[.int .i64 m, .slice A5 S2.length c5] 26))
              have k6 := Var2.new (set2 w5 g8 (.int .i64 m) (.slice A5 S2.length c5)) (.int .i64 m) (.slice A5 S2.length c5)
              rw [show (set2 w5 g8 (.int .i64 m) (.slice A5 S2.length c5)).heap.size = w5.heap.size by simp [set2, World.setCell]] at k6
              have k7 : g7 < w5.heap.size := (VPx.out.keep hb5).lt
              have K1 := Lib.hid k1
              have K2 := Lib.hid k2
              have K3 := Lib.hid k3
              have K4 := Lib.hid k4
              have K5 := Lib.hid k5
              have K6 := Lib.hid k6
              have SS2 := Lib.hid ss2
              unfold set2 at y9 y10
              clear k1 k2 k3 k4 k5 k6 ss2 vs5 vs6 ho5 hb5 hS2
              go_wp2
              go_roundw
              case rel => exact ⟨kk / 2, P2, S2, _, A3, c3, A5, c5, by first | rfl | (rw [i2]) | (simp [i2]) | go_num, rfl, by omega, by rw [← HN.out]; exact HPW.out, SP2.out, SS2.out, K1.out, K2.out, K6.out, K3.out, K4.out, K5.out, k7⟩
              case measure => simp only [intOf]; omega
            · have HN := Lib.hid (Ser.powS_even m d P S (by omega) hodd)
              have i1 : ¬ ((kk : Int)).tmod 2 = 1 := by rw [Int.tmod_eq_emod_of_nonneg (by omega)]; omega
              have i2 : ((kk : Int)).tdiv 2 = ((kk / 2 : Nat) : Int) := by rw [Int.tdiv_eq_ediv_of_nonneg (by omega)]; omega
              have i3 : ¬ ((kk : Int)) % 2 = 1 := by omega
              obtain ⟨n1, n2⟩ : (((kk : Int)) % 2 == 1) = false ∧ (((kk : Int)) % 2 != 1) = true := ⟨by simpa using i3, by simpa using i3⟩
              obtain ⟨y3, y4⟩ := (⟨VS.out.c0, VS.out.c1⟩ : _ ∧ _)
              have VPx := VP
              have OPx := OP
              have VSx := VS
              have RSx := RS
              have VRx := VR
              have HBx := HB
              have g9 := G7.out
              clear VP OP VS RS VR HB hodd
              go_wp2_with fail
              clear y3 y4
              refine (times_any m d As cs S m As cs S _ SS.out SS.out RSx.out RSx.out).mono ?_
              rintro e w5 ⟨s5, rfl, ho5, hb5⟩
              obtain ⟨A5, c5, rfl, -⟩ := ho5.form
              obtain ⟨S2, hS2⟩ : ∃ S2, Ser.mulL m d S S = S2 := ⟨_, rfl⟩
              rw [hS2] at ho5 HN ⊢
              have ss2 : SerOk m d S2 := by rw [← hS2]; exact SS.out.mul
              have vs5 := VSx.out.keep hb5
              have y5 := vs5.c0
              have y6 := vs5.c1
              have y7 := vs5.fz 0
              have y8 := vs5.fz 1
              have vs6 := vs5.set2 (.int .i64 m) (.slice A5 S2.length c5)
              have y9 := vs6.c0
              have y10 := vs6.c1
              have k1 := ((VPx.out.keep hb5).set2' (g' := g8) (by omega) (.int .i64 m) (.slice A5 S2.length c5)).keep (below_one _ (.cells #[.int .i64 m, .slice A5 S2.length c5] 26))
              have k2 := ((OPx.out.keep hb5).set2 vs5 (.int .i64 m) (.slice A5 S2.length c5)).keep (below_one _ (.cells #[.int .i64 m, .slice A5 S2.length c5] 26))
              have k3 := ((ho5.set2 vs5 (.int .i64 m) (.slice A5 S2.length c5)).keep (below_one _ (.cells #[.int .i64 m, .slice A5 S2.length c5] 26))).ri
              have k4 := ((VRx.out.keep hb5).set2' (g' := g8) (by omega) (.int .i64 m) (.slice A5 S2.length c5)).keep (below_one _ (.cells #[.int .i64 m, .slice A5 S2.length c5] 26))
              have k5 := below_step (below_set2 (below_step HBx.out hb5) (show w.heap.size ≤ g8 by omega) (.int .i64 m) (.slice A5 S2.length c5)) (below_one _ (.cells #[.int .i64 m, .slice A5 S2.length c5] 26))
              have k6 := Var2.new (set2 w5 g8 (.int .i64 m) (.slice A5 S2.length c5)) (.int .i64 m) (.slice A5 S2.length c5)
              rw [show (set2 w5 g8 (.int .i64 m) (.slice A5 S2.length c5)).heap.size = w5.heap.size by simp [set2, World.setCell]] at k6
              have k7 : g7 < w5.heap.size := (VPx.out.keep hb5).lt
              have K1 := Lib.hid k1
              have K2 := Lib.hid k2
              have K3 := Lib.hid k3
              have K4 := Lib.hid k4
              have K5 := Lib.hid k5
              have K6 := Lib.hid k6
              have SS2 := Lib.hid ss2
              unfold set2 at y9 y10
              clear k1 k2 k3 k4 k5 k6 ss2 vs5 vs6 ho5 hb5 hS2
              go_wp2
              go_roundw
              case rel => exact ⟨kk / 2, P, S2, _, Ap, cp, A5, c5, by first | rfl | (rw [i2]) | (simp [i2]) | go_num, rfl, by omega, by rw [← HN.out]; exact HPW.out, SP.out, SS2.out, K1.out, K2.out, K6.out, K3.out, K4.out, K5.out, k7⟩
              case measure => simp only [intOf]; omega
    · have HA : Hid (powM m l k = (0, [], 2)) := Lib.hid (by unfold powM; rw [if_pos h0, if_neg hk])
      rw [HA.out]
      have hk' : inB k 0 1000 = false := by simpa using hk
      clear hk h0 e1 s1
      go_enter Try.func29, Try.ntmps29
      go_wp2_with fail
      rw [HW.out]
      refine HC0.out.mono ?_
      rintro e w1 ⟨rfl, hb1⟩
      obtain ⟨x1, x2⟩ := box_in B1.out hb1
      have hv := V3.out.keep hb1
      have q0 := hv.c0
      have q1 := hv.c1
      have q2 := hv.fz 0
      have q3 := hv.fz 1
      obtain ⟨f0, f1, f2, f3⟩ := fin_var (w := w) hv (OwnI.nil _ (w.heap.size + 1 + 1 + 1)) (by omega) (by omega) (below_step HB.out hb1) (.int .i64 0) (.slice none 0 0)
      have F2 := Lib.hid f2
      have F3 := Lib.hid f3
      clear f2 f3 hv
      go_wp2_with (go_at_call 67; refine (isWithin_any _ _ _ _).mono ?_; rintro e w' ⟨rfl, rfl⟩)
      exact bodyPost_ret (v := .tuple #[.agg #[.int .i64 0, .slice none 0 0], .int .i64 2]) (by simp [results, Try.results29, go_sem, f0, f1]) rfl ⟨_, rfl, F2.out, F3.out⟩
  · have h0' : isS m l = false := by simpa using h0
    have HA : Hid (powM m l k = (0, [], 1)) := Lib.hid (by unfold powM; rw [if_neg h0])
    rw [HA.out]
    have hc := HC.out
    rw [code1_no h0'] at hc
    have HC0 := Lib.hid hc
    clear hc HC h0
    go_enter Try.func29, Try.ntmps29
    go_wp2_with fail
    rw [HW.out]
    refine HC0.out.mono ?_
    rintro e w1 ⟨rfl, hb1⟩
    have hv := V3.out.keep hb1
    have q0 := hv.c0
    have q1 := hv.c1
    have q2 := hv.fz 0
    have q3 := hv.fz 1
    obtain ⟨f0, f1, f2, f3⟩ := fin_var (w := w) hv (OwnI.nil _ (w.heap.size + 1 + 1 + 1)) (by omega) (by omega) (below_step HB.out hb1) (.int .i64 0) (.slice none 0 0)
    have F2 := Lib.hid f2
    have F3 := Lib.hid f3
    clear f2 f3 hv
    go_wp2
    exact bodyPost_ret (v := .tuple #[.agg #[.int .i64 0, .slice none 0 0], .int .i64 1]) (by simp [results, Try.results29, go_sem, f0, f1]) rfl ⟨_, rfl, F2.out, F3.out⟩

/-! the model -/
theorem one_list (m : Int) (d : Nat) (m1 : 2 ≤ m) : (List.replicate (d + 1) (0 : Int)).set 0 1 = Ser.one m d := by
  refine Ser.list_ext (by simp [Ser.one, Ser.cut_length]) (fun i hi => ?_)
  rw [List.length_set, List.length_replicate] at hi
  unfold Ser.one
  rw [Ser.co_cut (by omega), Ser.co_set (by simp)]
  unfold Ser.mon
  by_cases h : i = 0
  · rw [if_pos h, if_pos h, Int.emod_eq_of_lt (by omega) (by omega)]
  · rw [if_neg h, if_neg h, Ser.co_zeros, Int.zero_emod]

set_option maxHeartbeats 4000000 in
theorem l02Power_any (m : Int) (d K : Nat) (A : Option Addr) (c : Nat) (l : List Int) (w : World) (hs : SerOk m d l) (hr : RI w A l) (hK : K ≤ 1000) :
    Calls Try.prog 100 #[.int .i64 m, .slice A l.length c, .int .i64 K, .int .i64 d] w fun e w' => ∃ v, e = .returned v ∧ OwnI w' w.heap.size v (Ser.powL m d l K) ∧ Below w.heap.size w w' := by
  have hd := hs.d2
  have hmk : ∀ W : World, (Instr.makeSlice 24 (.int .i64 ((d : Int) + 1)) (.int .i64 ((d : Int) + 1))).run Try.prog W = .ok (.slice (some ⟨W.heap.size, 0, none⟩) (d + 1) (d + 1)) (W.alloc (.cells (madeCells #[.int .i64 0] (d + 1)) 2)) := by
    intro W
    have := run_make_row' (P := Try.prog) 24 2 (.int .i64 0) 8 Try.underlying24 info64 rfl .i64 .i64 (d + 1) (by omega) (by omega) W
    rwa [show ((d + 1 : Nat) : Int) = (d : Int) + 1 by omega] at this
  have ho := OwnI.made w (d + 1) (by unfold maxLen; omega)
  obtain ⟨-, -, o3, o4⟩ := ho.cells
  have q1 := o3 0 (by simp)
  have q2 := o4 0
  have q3 : (List.replicate (d + 1) (0 : Int))[0]?.getD 0 = 0 := by simp
  rw [q3] at q1
  have hset := ho.set 0 1
  rw [one_list m d hs.m1, World.setCell_alloc_at _ _ _ _ _ rfl] at hset
  have hol : (Ser.one m d).length = d + 1 := Ser.cut_length _ _ _
  have HSET := Lib.hid hset
  have HOK := Lib.hid (show SerOk m d (Ser.one m d) from hs.cut _)
  have HS := Lib.hid hs
  have HR := Lib.hid hr
  have HOL := Lib.hid hol
  obtain ⟨R, hR⟩ : ∃ R, Ser.powL m d l K = R := ⟨_, rfl⟩
  have HRR := Lib.hid (show Ser.powS m d K (Ser.one m d) l = R from hR)
  rw [hR]
  have j1 : (0 : Int) < (d : Int) + 1 := by omega
  clear ho o3 o4 q3 hset hs hr hol hR
  go_enter Try.func100, Try.ntmps100
  go_wp2
  go_loopw [1, 2, 9] (fun s1 s2 s9 wr => ∃ (kk : Nat) (P S : List Int) (As : Option Addr) (cs : Nat), s1 = .slice As S.length cs ∧ s2 = .int .i64 kk ∧ kk ≤ 1000 ∧ Ser.powS m d kk P S = R ∧ SerOk m d P ∧ SerOk m d S ∧ OwnI wr w.heap.size s9 P ∧ RI wr As S ∧ Below w.heap.size w wr) (fun _ s2 _ _ => (intOf s2).toNat)
  case atStart =>
    refine ⟨K, _, l, A, c, rfl, rfl, hK, HRR.out, HOK.out, HS.out, HSET.out, HR.out.below (below_one _ _), below_one _ _⟩
  case round =>
    obtain ⟨kk, P, S, As, cs, rfl, rfl, hk9, hpw, sp, ss, op, rs, hbl⟩ := hrel
    have HPW := Lib.hid hpw
    have SP := Lib.hid sp
    have SS := Lib.hid ss
    have OP := Lib.hid op
    have RS := Lib.hid rs
    have HB := Lib.hid hbl
    obtain ⟨Ap, cp, rfl, -⟩ := op.form
    clear hpw sp ss op rs hbl hmk
    by_cases hz : kk = 0
    · subst hz
      have hr := HPW.out
      rw [Ser.powS_zero] at hr
      subst hr
      go_wp2
      go_ret
      exact ⟨_, rfl, OP.out, HB.out⟩
    · have hz2 : 0 < kk := by omega
      clear hz
      by_cases hodd : kk % 2 = 1
      · have HN := Lib.hid (Ser.powS_odd m d P S hodd)
        have i1 : ((kk : Int)).tmod 2 = 1 := by rw [Int.tmod_eq_emod_of_nonneg (by omega)]; omega
        go_wp2_with fail
        refine (l02Times_ok m d Ap cp P As cs S _ SP.out SS.out OP.out.ri RS.out).mono ?_
        rintro e w3 ⟨s3, rfl, ho3, hb3⟩
        go_wp2_with fail
        refine (l02Times_ok m d As cs S As cs S _ SS.out SS.out (RS.out.below hb3) (RS.out.below hb3)).mono ?_
        rintro e w4 ⟨s4, rfl, ho4, hb4⟩
        obtain ⟨A4, c4, rfl, r4⟩ := ho4.form
        have H3 := Lib.hid ((ho3.keep hb4).more HB.out.size)
        have H4 := Lib.hid r4
        have H5 := Lib.hid (below_step (below_step HB.out hb3) hb4)
        clear ho3 hb3 ho4 hb4 r4
        go_wp2
        go_roundw
        case rel => exact ⟨kk / 2, _, _, A4, c4, rfl, by first | rfl | go_num, by omega, by rw [← HN.out]; exact HPW.out, SP.out.mul, SS.out.mul, H3.out, H4.out, H5.out⟩
        case measure => simp only [intOf]; omega
      · have HN := Lib.hid (Ser.powS_even m d P S (by omega) hodd)
        have i3 : ¬ ((kk : Int)) % 2 = 1 := by omega
        obtain ⟨n1, n2⟩ : (((kk : Int)) % 2 == 1) = false ∧ (((kk : Int)) % 2 != 1) = true := ⟨by simpa using i3, by simpa using i3⟩
        clear hodd
        go_wp2_with fail
        refine (l02Times_ok m d As cs S As cs S _ SS.out SS.out RS.out RS.out).mono ?_
        rintro e w4 ⟨s4, rfl, ho4, hb4⟩
        obtain ⟨A4, c4, rfl, r4⟩ := ho4.form
        have H3 := Lib.hid (OP.out.keep hb4)
        have H4 := Lib.hid r4
        have H5 := Lib.hid (below_step HB.out hb4)
        clear ho4 hb4 r4
        go_wp2
        go_roundw
        case rel => exact ⟨kk / 2, _, _, A4, c4, rfl, by first | rfl | go_num, by omega, by rw [← HN.out]; exact HPW.out, SP.out, SS.out.mul, H3.out, H4.out, H5.out⟩
        case measure => simp only [intOf]; omega

set_option maxHeartbeats 4000000 in
set_option maxRecDepth 100000 in
theorem sPowerOfSeries_any (m : Int) (A : Option Addr) (c : Nat) (l : List Int) (k : Int) (w : World) (hl : l.length ≤ 1048576) (hr : RI w A l) :
    Calls Try.prog 46 #[.agg #[.int .i64 m, .slice A l.length c], .int .i64 k] w fun e w' => ∃ s, e = .returned (.tuple #[.agg #[.int .i64 (powM m l k).1, s], .int .i64 (powM m l k).2.2]) ∧ OwnI w' w.heap.size s (powM m l k).2.1 ∧ Below w.heap.size w w' := by
  obtain ⟨W, hW, b1, v3, hwb⟩ := spro1 w m A l.length c
  have B1 := Lib.hid b1
  have V3 := Lib.hid v3
  have HB := Lib.hid hwb
  have HW := Lib.hid hW
  have R1 := Lib.hid (hr.below hwb)
  have HC := Lib.hid (l02Is_any m A c l W (by omega) R1.out)
  clear b1 v3 hwb hW hr
  by_cases h0 : isS m l = true
  · obtain ⟨d, e1, s1⟩ := serOk_of h0
    have hc := HC.out
    rw [h0] at hc
    have HC0 := Lib.hid hc
    clear hc HC
    by_cases hk : inB k 0 1000 = true
    · obtain ⟨k1, k2⟩ := (inB_iff _ _ _).1 hk
      obtain ⟨K, rfl⟩ := Int.eq_ofNat_of_zero_le k1
      have HA : Hid (powM m l (K : Int) = (m, Ser.powL m d l K, 0)) := Lib.hid (by unfold powM; rw [if_pos h0, if_pos hk, e1]; rfl)
      rw [HA.out]
      have HDG := Lib.hid (fun W0 => l02Degree_any m A l.length c d W0 e1 (by have := s1.d2; omega))
      have HS := Lib.hid (fun W0 (h0 : Below W.heap.size W W0) => l02Power_any m d K A c l W0 s1 (R1.out.below h0) (by omega))
      obtain ⟨L, hL⟩ : ∃ L, Ser.powL m d l K = L := ⟨_, rfl⟩
      rw [hL] at HS ⊢
      clear e1 s1 hL h0
      go_enter Try.func46, Try.ntmps46
      go_wp2_with fail
      rw [HW.out]
      refine HC0.out.mono ?_
      rintro e w0 ⟨rfl, hb0⟩
      obtain ⟨x1, x2, x3⟩ := B1.out.keep hb0
      go_wp2_with (go_at_call 99; refine (l01In_any _ _ _ _).mono ?_; rintro e w' ⟨rfl, rfl⟩)
      go_wp2
      go_region_held3 (fun w' => w'.cell? ⟨w.heap.size, 0, none⟩ = some (.int .i64 m) ∧ w'.cell? ⟨w.heap.size, 1, none⟩ = some (.slice A l.length c) ∧ w.heap.size < w'.heap.size) (first | exact ⟨x1, x2, x3⟩ | exact box_store (by omega) (by assumption) | exact box_call (by assumption) (by assumption)) (first
        | (go_at_call 64; refine (HDG.out _).mono ?_; rintro e1 w1 ⟨rfl, hb1⟩)
        | (go_at_call 100; refine (HS.out _ (below_step (below_step hb0 (below_drew0 _)) hb1)).mono ?_; rintro e2 w2 ⟨s, rfl, ho, hb2⟩; obtain ⟨A2, c2, rfl, _⟩ := ho.form)
        | (go_at_call 62; refine (l02Make_any _ _ _ _ _).mono ?_; rintro e3 w3 ⟨rfl, hb3⟩; have hv := V3.out.keep (below_step (below_step (below_step (below_step hb0 (below_drew0 _)) hb1) hb2) hb3); have q0 := hv.c0; have q1 := hv.c1; have q2 := hv.fz 0; have q3 := hv.fz 1))
      all_goals
        have hw3 := below_step (below_step (below_step (below_step hb0 (below_drew0 _)) hb1) hb2) hb3
        have hz1 := (below_step (below_step hb0 (below_drew0 _)) hb1).size
        have hz2 := V3.out.lt
        obtain ⟨f0, f1, f2, f3⟩ := fin_var (w := w) hv (ho.keep hb3) (by omega) (by omega) (below_step HB.out hw3) (.int .i64 m) (.slice A2 L.length c2)
        have F2 := Lib.hid f2
        have F3 := Lib.hid f3
        clear f2 f3 ho hb0 hb1 hb2 hb3 hv hw3
        go_wp2
        exact bodyPost_ret (v := .tuple #[.agg #[.int .i64 m, .slice A2 L.length c2], .int .i64 0]) (by simp [results, Try.results46, go_sem, f0, f1]) rfl ⟨_, rfl, F2.out, F3.out⟩
    · have HA : Hid (powM m l k = (0, [], 2)) := Lib.hid (by unfold powM; rw [if_pos h0, if_neg hk])
      rw [HA.out]
      have hk' : inB k 0 1000 = false := by simpa using hk
      clear h0 hk e1 s1
      go_enter Try.func46, Try.ntmps46
      go_wp2_with fail
      rw [HW.out]
      refine HC0.out.mono ?_
      rintro e w1 ⟨rfl, hb1⟩
      obtain ⟨x1, x2⟩ := box_in B1.out hb1
      have hv := V3.out.keep hb1
      have q0 := hv.c0
      have q1 := hv.c1
      have q2 := hv.fz 0
      have q3 := hv.fz 1
      obtain ⟨f0, f1, f2, f3⟩ := fin_var (w := w) hv (OwnI.nil _ (w.heap.size + 1 + 1 + 1)) (by omega) (by omega) (below_step HB.out hb1) (.int .i64 0) (.slice none 0 0)
      have F2 := Lib.hid f2
      have F3 := Lib.hid f3
      clear f2 f3 hv
      go_wp2_with (go_at_call 99; refine (l01In_any _ _ _ _).mono ?_; rintro e w' ⟨rfl, rfl⟩)
      exact bodyPost_ret (v := .tuple #[.agg #[.int .i64 0, .slice none 0 0], .int .i64 2]) (by simp [results, Try.results46, go_sem, f0, f1]) rfl ⟨_, rfl, F2.out, F3.out⟩
  · have h0' : isS m l = false := by simpa using h0
    have HA : Hid (powM m l k = (0, [], 1)) := Lib.hid (by unfold powM; rw [if_neg h0])
    rw [HA.out]
    have hc := HC.out
    rw [h0'] at hc
    have HC0 := Lib.hid hc
    clear hc HC h0
    go_enter Try.func46, Try.ntmps46
    go_wp2_with fail
    rw [HW.out]
    refine HC0.out.mono ?_
    rintro e w1 ⟨rfl, hb1⟩
    have hv := V3.out.keep hb1
    have q0 := hv.c0
    have q1 := hv.c1
    have q2 := hv.fz 0
    have q3 := hv.fz 1
    obtain ⟨f0, f1, f2, f3⟩ := fin_var (w := w) hv (OwnI.nil _ (w.heap.size + 1 + 1 + 1)) (by omega) (by omega) (below_step HB.out hb1) (.int .i64 0) (.slice none 0 0)
    have F2 := Lib.hid f2
    have F3 := Lib.hid f3
    clear f2 f3 hv
    go_wp2
    exact bodyPost_ret (v := .tuple #[.agg #[.int .i64 0, .slice none 0 0], .int .i64 1]) (by simp [results, Try.results46, go_sem, f0, f1]) rfl ⟨_, rfl, F2.out, F3.out⟩
end Go.Proofs.Ytcnkpfikafaocaa
