/- Contracts of ComposeSeries, of the program. -/
import Derived.Test.YtcnkpfikafaocaaIvs
namespace Go.Proofs.Ytcnkpfikafaocaa
open Go.RowKit Go.WideShapes Go.ChangeShapes Go.ChangeAt

theorem horC_one {m : Int} {d : Nat} {a f : Nat → Int} (h1 : 0 ≤ a d) (h2 : a d < m) : Ser.horC m d a f 1 = Ser.cut m d (Ser.mon 0 (a d)) := by
  refine Ser.list_ext (by rw [Ser.horC_length, Ser.cut_length]) (fun i hi => ?_)
  rw [Ser.horC_length] at hi
  rw [Ser.horC, Ser.co_set (by rw [Ser.cut_length]; omega), Ser.co_cut (a := Ser.mon 0 (a d)) (by omega)]
  unfold Ser.mon
  by_cases h : i = 0
  · rw [if_pos h, if_pos h, Nat.sub_zero, Int.emod_eq_of_lt h1 h2]
  · rw [if_neg h, if_neg h, Ser.co_cut (by omega), Ser.mul_at]
    have e : Ser.co (Ser.horC m d a f 0) = fun _ => 0 := by funext j; rw [Ser.horC, Ser.co_zeros]
    rw [e, Ser.cv_zero_left]

theorem bcb {W w' : World} {g b o : Nat} {m x : Int} {A : Option Addr} {n c : Nat} (h : Box W g m A n c) (hc : W.cell? ⟨b, o, none⟩ = some (.int .i64 x)) (hlt : b < W.heap.size) (hb : Below W.heap.size W w') :
    (w'.cell? ⟨g, 0, none⟩ = some (.int .i64 m) ∧ w'.cell? ⟨g, 1, none⟩ = some (.slice A n c)) ∧ (w'.cell? ⟨b, o, none⟩ = some (.int .i64 x)) ∧ Below W.heap.size W w' := ⟨box_in h hb, (hb.cell (p := ⟨b, o, none⟩) hlt).trans hc, hb⟩
def cmpF (m : Int) (d : Nat) (l l' : List Int) : List Int := Ser.cmpL m d l l'
def cmpM (m : Int) (l : List Int) (m' : Int) (l' : List Int) : Int × List Int × Int :=
  if code2 m l m' l' = 0 then (if Ser.co l' 0 = 0 then (m, Ser.cmpL m (l.length - 1) l l', 0) else (0, [], 5)) else (0, [], code2 m l m' l')
theorem cmpM_len (m : Int) (l : List Int) (m' : Int) (l' : List Int) : (cmpM m l m' l').2.1.length ≤ 1048576 := by
  unfold cmpM
  split
  · rename_i h
    obtain ⟨_, d, e, _, s, _⟩ := code2_ok h
    have := s.d2
    split
    · dsimp only
      rw [Ser.cmpL_length]
      omega
    · simp
  · simp
theorem SerOk.hor {m : Int} {d : Nat} {l l' : List Int} (h : SerOk m d l) (j : Nat) : SerOk m d (Ser.horC m d (Ser.co l) (Ser.co l') j) :=
  ⟨h.m1, h.m2, h.d1, h.d2, Ser.horC_length _ _ _ _ _, Ser.horC_red (by have := h.m1; omega) _ _ _ h.red j⟩

set_option maxHeartbeats 8000000 in
set_option maxRecDepth 100000 in
theorem composed_any (m : Int) (d : Nat) (A : Option Addr) (c : Nat) (l : List Int) (m' : Int) (A' : Option Addr) (c' : Nat) (l' : List Int) (w : World) (hs : SerOk m d l) (hs' : SerOk m d l') (hr : RI w A l) (hr' : RI w A' l') :
    Calls Try.prog 83 #[.agg #[.int .i64 m, .slice A l.length c], .agg #[.int .i64 m', .slice A' l'.length c']] w fun e w' => ∃ v, e = .returned (.agg #[.int .i64 m, v]) ∧ OwnI w' w.heap.size v (Ser.cmpL m d l l') ∧ Below w.heap.size w w' := by
  obtain ⟨W, hW⟩ : ∃ W, (((w.alloc (.cells #[.int .i64 m, .slice A l.length c] 26)).alloc (.cells #[.int .i64 m', .slice A' l'.length c'] 26)).alloc (.cells #[.int .i64 0, .slice none 0 0] 26)) = W := ⟨_, rfl⟩
  obtain ⟨b1, b2, v3, hwb⟩ := box3_new w m m' A A' l.length c l'.length c' W hW
  have B1 := Lib.hid b1
  have B2 := Lib.hid b2
  have V3 := Lib.hid v3
  have HB := Lib.hid hwb
  have HW := Lib.hid hW
  have HR := Lib.hid hr
  have HR' := Lib.hid hr'
  have HSZ : w.heap.size + 1 + 1 < W.heap.size := v3.lt
  have m1 := hs.m1
  have m2 := hs.m2
  have hd := hs.d2
  have hd1 := hs.d1
  have HS := Lib.hid hs
  have HS' := Lib.hid hs'
  obtain ⟨b, off, rfl, hbb, hcd⟩ := hr.at d (by rw [hs.len]; omega)
  have hcd1 := (hwb.cell (p := ⟨b, off + d, none⟩) hbb).trans hcd
  obtain ⟨X, hX⟩ : ∃ X, Ser.co l d = X := ⟨_, rfl⟩
  obtain ⟨r1, r2⟩ := hs.red d
  rw [hX] at hcd1 r1 r2
  have HDG := Lib.hid (fun W0 => degree_nat m (some ⟨b, off, none⟩) l.length c d W0 hs.len (by omega))
  have HMO := Lib.hid (fun W0 => monomial_any m d 0 X W0 (by omega) m2 (by omega) (by omega) (by omega))
  obtain ⟨L0, hL0⟩ : ∃ L0, Ser.cut m d (Ser.mon 0 X) = L0 := ⟨_, rfl⟩
  have HL0 := Lib.hid (show L0 = Ser.horC m d (Ser.co l) (Ser.co l') 1 by rw [← hL0, ← hX]; exact (horC_one (by rw [hX]; exact r1) (by rw [hX]; exact r2)).symm)
  rw [hL0] at HMO
  have z1 : (0 : Int) ≤ (d : Int) := by omega
  have z2 : (d : Int) < (l.length : Int) := by have := hs.len; omega
  have hWb : b < W.heap.size := Nat.lt_of_lt_of_le hbb hwb.size
  clear b1 b2 v3 hwb hW hr hr' hs hs' hcd hX hL0
  go_enter Try.func83, Try.ntmps83
  go_wp2_with fail
  rw [HW.out]
  refine (HDG.out _).mono ?_
  rintro e W1 ⟨rfl, hb1⟩
  have Y1 := Lib.hid (B1.out.keep hb1)
  have Y2 := Lib.hid (B2.out.keep hb1)
  have V1 := Lib.hid (V3.out.keep hb1)
  have HB1 := Lib.hid (below_step HB.out hb1)
  have HSZ1 : w.heap.size + 1 + 1 < W1.heap.size := (V3.out.keep hb1).lt
  have hcd2 := (hb1.cell (p := ⟨b, off + d, none⟩) hWb).trans hcd1
  have hW1b : b < W1.heap.size := Nat.lt_of_lt_of_le hWb hb1.size
  clear hb1 hcd1 HDG B1 B2 V3 HB
  obtain ⟨x1, x2, x3⟩ := Y1.out
  go_wp2
  go_cut [6] (fun s7 wx => ∃ g A1 c1, s7 = .pointer (some ⟨g, 0, none⟩) ∧ Var2 wx g (.int .i64 m) (.slice A1 L0.length c1) ∧ OwnI wx W1.heap.size (.slice A1 L0.length c1) L0 ∧ Below W1.heap.size W1 wx ∧ W1.heap.size ≤ g)
  case first =>
    go_region_held3 (fun w' => (w'.cell? ⟨w.heap.size, 0, none⟩ = some (.int .i64 m) ∧ w'.cell? ⟨w.heap.size, 1, none⟩ = some (.slice (some ⟨b, off, none⟩) l.length c)) ∧ (w'.cell? ⟨b, off + d, none⟩ = some (.int .i64 X)) ∧ Below W1.heap.size W1 w') (first | exact bcb Y1.out hcd2 hW1b (below_drew0 _) | exact bcb Y1.out hcd2 hW1b hbel | exact bcb Y1.out hcd2 hW1b (below_alloc _ (trd (by assumption))) | exact bcb Y1.out hcd2 hW1b (below_alloc _ hbel) | exact bcb Y1.out hcd2 hW1b (reg_fin2 hwg hgc hv hod hbel m).2.2.1 | exact (by assumption)) (first
      | (go_at_call 79; refine (HMO.out _).mono ?_; rintro e wd ⟨sd, rfl, hod, hbd⟩; obtain ⟨Ad, cd, rfl, -⟩ := hod.form; obtain ⟨hbel, hle⟩ := reg_end (by assumption) hbd; first | (refine use_it (var_keep (Var2.new _ _ _).drew hbd) ?_; rintro ⟨hv, hgc⟩; have hwg := var_at (k := W1.heap.size) hv (Nat.le_refl _); have q0 := hv.c0; have q1 := hv.c1; have q2 := hv.fz 0; have q3 := hv.fz 1) | (refine use_it (var_keep (Var2.new _ _ _) hbd) ?_; rintro ⟨hv, hgc⟩; have hwg := var_at (k := W1.heap.size) hv (Nat.le_refl _); have q0 := hv.c0; have q1 := hv.c1; have q2 := hv.fz 0; have q3 := hv.fz 1) | skip))
    all_goals
      go_wp2_with fail
      go_meet
      case rel => first | exact ⟨_, _, _, rfl, reg_new2 hle hod hbel m⟩ | exact ⟨_, _, _, rfl, reg_fin2 hwg hgc hv hod hbel m⟩
  case rest =>
    obtain ⟨w2, hwc⟩ : ∃ w9, w9 = wc := ⟨_, rfl⟩
    subst hwc
    obtain ⟨g7, A7, c7, rfl, v7, o7, hb7, hg7⟩ := hcut
    rw [HL0.out] at v7 o7
    rw [Ser.horC_length] at v7 o7
    have O7 := Lib.hid o7
    have V7 := Lib.hid v7
    have B7 := Lib.hid hb7
    clear v7 o7 hb7 HMO x1 x2 x3 hcd2
    go_wp2
    go_loopw [7] (fun s7 wr => ∃ (j t : Nat) (I : Int) (A1 : Option Addr) (c1 : Nat), j + t = d ∧ I = (t : Int) - 1 ∧ s7 = .int .i64 I ∧ Var2 wr g7 (.int .i64 m) (.slice A1 (d + 1) c1) ∧ OwnI wr W1.heap.size (.slice A1 (d + 1) c1) (Ser.horC m d (Ser.co l) (Ser.co l') (j + 1)) ∧ Below W1.heap.size W1 wr) (fun s7 _ => (intOf s7 + 1).toNat)
    case atStart => exact ⟨0, d, _, A7, c7, by omega, rfl, rfl, V7.out, O7.out, B7.out⟩
    case round =>
      obtain ⟨j, t, I, A1, c1, hjt, hI, rfl, v1, o1, hb1⟩ := hrel
      have VV := Lib.hid v1
      have OO := Lib.hid o1
      have BB := Lib.hid hb1
      have YA := Lib.hid (Y1.out.keep hb1)
      have YB := Lib.hid (Y2.out.keep hb1)
      have VR := Lib.hid (V1.out.keep hb1)
      have RA := Lib.hid (HR.out.below (below_step HB1.out hb1))
      have RB := Lib.hid (HR'.out.below (below_step HB1.out hb1))
      clear v1 o1 hb1 V7 O7 B7
      rcases t with _ | i
      · obtain rfl : j = d := by omega
        obtain rfl : I = -1 := by omega
        clear hI hjt
        have hfin : Ser.horC m j (Ser.co l) (Ser.co l') (j + 1) = Ser.cmpL m j l l' := rfl
        have o1 := OO.out
        rw [hfin] at o1
        have z3 := VV.out.c0
        have z4 := VV.out.c1
        have z5 := VR.out.c0
        have z6 := VR.out.c1
        have z7 := VR.out.fz 0
        have z8 := VR.out.fz 1
        have f2 := (VR.out.set2 (.int .i64 m) (.slice A1 (j + 1) c1))
        have F1 := f2.c0
        have F2 := f2.c1
        have F3 := Lib.hid ((o1.set2 VR.out (.int .i64 m) (.slice A1 (j + 1) c1)).more (show w.heap.size ≤ W1.heap.size by omega))
        have F4 := Lib.hid (below_set2 (below_step HB1.out BB.out) (by omega : w.heap.size ≤ w.heap.size + 1 + 1) (.int .i64 m) (.slice A1 (j + 1) c1))
        unfold set2 at F1 F2 F3 F4
        clear f2 o1 hfin
        go_wp2
        exact bodyPost_ret (v := .agg #[.int .i64 m, .slice A1 (j + 1) c1]) (by simp [results, Try.results83, go_sem, F1, F2]) rfl ⟨_, rfl, F3.out, F4.out⟩
      · obtain rfl : I = (i : Int) := by omega
        clear hI
        have sh : SerOk m d (Ser.horC m d (Ser.co l) (Ser.co l') (j + 1)) := HS.out.hor _
        have ht := times_any m d A1 c1 _ m' A' c' l' wr sh HS'.out (by have := OO.out.form; obtain ⟨A0, c0, he, hri⟩ := this; rw [Ser.horC_length] at he; injection he with e1; rw [e1]; exact hri) RB.out
        rw [Ser.horC_length] at ht
        have HT := Lib.hid ht
        obtain ⟨L3, hL3⟩ : ∃ L3, Ser.mulL m d (Ser.horC m d (Ser.co l) (Ser.co l') (j + 1)) l' = L3 := ⟨_, rfl⟩
        have hlen3 : L3.length = d + 1 := by rw [← hL3, Ser.mulL_length]
        rw [hL3] at HT
        have hst : L3.set 0 (Ser.co l i) = Ser.horC m d (Ser.co l) (Ser.co l') (j + 1 + 1) := by
          rw [← hL3]
          have e : d - (j + 1) = i := by omega
          show (Ser.cut m d (Ser.mul (Ser.co (Ser.horC m d (Ser.co l) (Ser.co l') (j + 1))) (Ser.co l'))).set 0 (Ser.co l i) = (Ser.cut m d (Ser.mul (Ser.co (Ser.horC m d (Ser.co l) (Ser.co l') (j + 1))) (Ser.co l'))).set 0 (Ser.co l (d - (j + 1)))
          rw [e]
        obtain ⟨x3, x4⟩ := (⟨VV.out.c0, VV.out.c1⟩ : _ ∧ _)
        obtain ⟨y3, y4, -⟩ := YB.out
        clear ht sh hL3
        go_wp2_with fail
        refine HT.out.mono ?_
        rintro e w3 ⟨s3, rfl, ho3, hb3⟩
        obtain ⟨g3, c3, rfl⟩ := ho3.openv (by intro h; rw [h] at hlen3; simp at hlen3)
        rw [hlen3] at ho3 ⊢
        have v3 := VV.out.keep hb3
        have q5 := v3.c0
        have q6 := v3.c1
        have q7 := v3.fz 0
        have q8 := v3.fz 1
        clear x3 x4 y3 y4
        have hb9 := below_step BB.out hb3
        obtain ⟨X9, hX9⟩ : ∃ X9, set2 w3 g7 (.int .i64 m) (.slice (some ⟨g3, 0, none⟩) (d + 1) c3) = X9 := ⟨_, rfl⟩
        have vx : Var2 X9 g7 (.int .i64 m) (.slice (some ⟨g3, 0, none⟩) (d + 1) c3) := by rw [← hX9]; exact v3.set2 _ _
        have ox : OwnI X9 wr.heap.size (.slice (some ⟨g3, 0, none⟩) (d + 1) c3) L3 := by rw [← hX9]; exact ho3.set2 v3 _ _
        have bx : Below W1.heap.size W1 X9 := by rw [← hX9]; exact below_set2 hb9 hg7 _ _
        have ya : Box X9 w.heap.size m (some ⟨b, off, none⟩) l.length c := Y1.out.keep bx
        obtain ⟨b', off', hbe, hbb', hci⟩ := (HR.out.below (below_step HB1.out bx)).at i (by have := HS.out.len; omega)
        injection hbe with hbe
        injection hbe with hbe1 hbe2
        subst hbe1 hbe2
        obtain ⟨Z, hZ⟩ : ∃ Z, Ser.co l i = Z := ⟨_, rfl⟩
        rw [hZ] at hci hst
        obtain ⟨-, -, o3, o4⟩ := ox.cells
        have d1 := o3 0 (by omega)
        have f1 := o4 0
        have hset := ox.set 0 Z
        rw [hst] at hset
        have hg3 := (ox.lt g3 rfl).1
        have hwr := BB.out.size
        have HSET := Lib.hid (hset.more hwr)
        have ne2 : g3 ≠ g7 := fun e => own_ne_var vx ox (by rw [e]; rfl)
        have V9 := Lib.hid (vx.far g3 0 (.int .i64 Z) ne2)
        have BX := Lib.hid (bx.setCell (p := ⟨g3, 0, none⟩) (by show W1.heap.size ≤ g3; omega) (.int .i64 Z)).drew
        obtain ⟨x5, x6, -⟩ := ya
        obtain ⟨x7, x8⟩ := (⟨vx.c0, vx.c1⟩ : _ ∧ _)
        have j0 : (0 : Int) ≤ (i : Int) := by omega
        have j1 : (i : Int) < (l.length : Int) := by have := HS.out.len; omega
        have j2 : (0 : Int) < (d : Int) + 1 := by omega
        unfold set2 at hX9
        have HX := Lib.hid hX9
        clear ho3 hb3 v3 hb9 vx ox bx hZ hst o3 o4 hset hX9
        go_upto_region 7 with fail
        rw [HX.out]
        clear HX q5 q6 q7 q8
        go_still_tail 8, (by kernel_rfl)
        change wpList _ _ _ _ _ X9.drew
        go_wp2
        go_roundw
        case rel => exact ⟨j + 1, i, _, _, c3, by omega, rfl, by first | rfl | go_num, V9.out, HSET.out, BX.out⟩
        case measure => simp only [intOf]; omega

theorem isC_ok {m : Int} {l : List Int} (h : isS m l = true) : isC m l = (Ser.co l 0 == 0) := by unfold isC; rw [h]; rfl
set_option maxHeartbeats 4000000 in
theorem ComposeSeries_any (m : Int) (A : Option Addr) (c : Nat) (l : List Int) (m' : Int) (A' : Option Addr) (c' : Nat) (l' : List Int) (w : World) (hl : l.length ≤ 1048576) (hl' : l'.length ≤ 1048576) (hr : RI w A l) (hr' : RI w A' l') :
    Calls Try.prog 33 #[.agg #[.int .i64 m, .slice A l.length c], .agg #[.int .i64 m', .slice A' l'.length c']] w fun e w' => ∃ s, e = .returned (.tuple #[.agg #[.int .i64 (cmpM m l m' l').1, s], .int .i64 (cmpM m l m' l').2.2]) ∧ OwnI w' w.heap.size s (cmpM m l m' l').2.1 ∧ Below w.heap.size w w' := by
  obtain ⟨W, hW⟩ : ∃ W, ((((w.alloc (.cells #[.int .i64 m, .slice A l.length c] 26)).alloc (.cells #[.int .i64 m', .slice A' l'.length c'] 26)).alloc (.cells #[.int .i64 0, .slice none 0 0] 26)).alloc (.cells #[.int .i64 m, .slice A l.length c, .int .i64 m', .slice A' l'.length c'] 26)) = W := ⟨_, rfl⟩
  obtain ⟨b1, b2, v3, b4, hwb⟩ := box4_new w m m' A A' l.length c l'.length c' W hW
  have B1 := Lib.hid b1
  have B2 := Lib.hid b2
  have V3 := Lib.hid v3
  have HB := Lib.hid hwb
  have HW := Lib.hid hW
  have R1 := Lib.hid (hr.below hwb)
  have R2 := Lib.hid (hr'.below hwb)
  have HC := Lib.hid (codeOfSeries2_any (w.heap.size + 1 + 1 + 1) m A c l m' A' c' l' W (by omega) (by omega) R1.out R2.out b4)
  clear b1 b2 v3 b4 hwb hW hr hr'
  by_cases h0 : code2 m l m' l' = 0
  · obtain ⟨hh1, hh2, -, -⟩ := code2_iff h0
    have hcf := isC_ok hh2
    obtain ⟨rfl, d, e1, e2, s1, s2⟩ := code2_ok h0
    have hc := HC.out
    rw [h0] at hc
    have HC0 := Lib.hid hc
    have HCV := Lib.hid (fun W0 (h : Below W.heap.size W W0) => IsCurve_any m A' c' l' W0 (by omega) (R2.out.below h))
    by_cases hz : Ser.co l' 0 = 0
    · have HA : Hid (cmpM m l m l' = (m, Ser.cmpL m d l l', 0)) := Lib.hid (by unfold cmpM; rw [if_pos h0, if_pos hz, e1]; rfl)
      rw [HA.out]
      have HP := Lib.hid (fun W0 (h : Below W.heap.size W W0) => composed_any m d A c l m A' c' l' W0 s1 s2 (R1.out.below h) (R2.out.below h))
      rw [hcf, hz] at HCV
      obtain ⟨L, hL⟩ : ∃ L, Ser.cmpL m d l l' = L := ⟨_, rfl⟩
      rw [hL] at HP ⊢
      clear hc HC h0 s1 s2 e1 e2 hL hh1 hh2 hz hcf
      go_enter Try.func33, Try.ntmps33
      go_wp2_with fail
      rw [HW.out]
      refine HC0.out.mono ?_
      rintro e w1 ⟨rfl, hb1⟩
      obtain ⟨y1, y2, y3⟩ := B2.out.keep hb1
      go_wp2_with fail
      refine (HCV.out _ hb1).mono ?_
      rintro e w2 ⟨rfl, hb2⟩
      have hb3 := below_step hb1 hb2
      clear y1 y2 y3
      obtain ⟨x1, x2, x3⟩ := B1.out.keep hb3
      obtain ⟨y1, y2, y3⟩ := B2.out.keep hb3
      go_wp2_with fail
      refine (HP.out _ hb3).mono ?_
      rintro e w4 ⟨s, rfl, ho, hb4⟩
      obtain ⟨A2, c2, rfl, _⟩ := ho.form
      have hv := V3.out.keep (below_step hb3 hb4)
      have q0 := hv.c0
      have q1 := hv.c1
      have q2 := hv.fz 0
      have q3 := hv.fz 1
      obtain ⟨f0, f1, f2, f3⟩ := fin_var (w := w) hv ho (by have := V3.out.lt; have := hb3.size; omega) (by omega) (below_step (below_step HB.out hb3) hb4) (.int .i64 m) (.slice A2 L.length c2)
      have F2 := Lib.hid f2
      have F3 := Lib.hid f3
      clear f2 f3 ho hb1 hb2 hb3 hb4 hv
      go_wp2
      exact bodyPost_ret (v := .tuple #[.agg #[.int .i64 m, .slice A2 L.length c2], .int .i64 0]) (by simp [results, Try.results33, go_sem, f0, f1]) rfl ⟨_, rfl, F2.out, F3.out⟩
    · have HA : Hid (cmpM m l m l' = (0, [], 5)) := Lib.hid (by unfold cmpM; rw [if_pos h0, if_neg hz])
      rw [HA.out]
      rw [hcf, show (Ser.co l' 0 == 0) = false by simpa using hz] at HCV
      clear hc HC h0 s1 s2 e1 e2 hh1 hh2 hz hcf
      go_enter Try.func33, Try.ntmps33
      go_wp2_with fail
      rw [HW.out]
      refine HC0.out.mono ?_
      rintro e w1 ⟨rfl, hb1⟩
      obtain ⟨y1, y2, y3⟩ := B2.out.keep hb1
      go_wp2_with fail
      refine (HCV.out _ hb1).mono ?_
      rintro e w2 ⟨rfl, hb2⟩
      have hb3 := below_step hb1 hb2
      clear y1 y2 y3
      have hv := V3.out.keep hb3
      have q0 := hv.c0
      have q1 := hv.c1
      have q2 := hv.fz 0
      have q3 := hv.fz 1
      obtain ⟨f0, f1, f2, f3⟩ := fin_var (w := w) hv (OwnI.nil w2 (w.heap.size + 1 + 1 + 1)) (by omega) (by omega) (below_step HB.out hb3) (.int .i64 0) (.slice none 0 0)
      have F2 := Lib.hid f2
      have F3 := Lib.hid f3
      clear f2 f3 hb1 hb2 hb3 hv
      go_wp2
      exact bodyPost_ret (v := .tuple #[.agg #[.int .i64 0, .slice none 0 0], .int .i64 5]) (by simp [results, Try.results33, go_sem, f0, f1]) rfl ⟨_, rfl, F2.out, F3.out⟩
  · have HA : Hid (cmpM m l m' l' = (0, [], code2 m l m' l')) := Lib.hid (by unfold cmpM; rw [if_neg h0])
    rw [HA.out]
    obtain ⟨n1, n2⟩ := ne_facts h0
    obtain ⟨C, hC⟩ : ∃ C, code2 m l m' l' = C := ⟨_, rfl⟩
    have hc := HC.out
    rw [hC] at n1 n2 h0 hc ⊢
    have HC0 := Lib.hid hc
    clear hc HC hC
    go_enter Try.func33, Try.ntmps33
    go_wp2_with fail
    rw [HW.out]
    refine HC0.out.mono ?_
    rintro e w1 ⟨rfl, hb1⟩
    have hv := V3.out.keep hb1
    have q0 := hv.c0
    have q1 := hv.c1
    have q2 := hv.fz 0
    have q3 := hv.fz 1
    obtain ⟨f0, f1, f2, f3⟩ := fin_var (w := w) hv (OwnI.nil w1 (w.heap.size + 1 + 1 + 1)) (by omega) (by omega) (below_step HB.out hb1) (.int .i64 0) (.slice none 0 0)
    have F2 := Lib.hid f2
    have F3 := Lib.hid f3
    clear f2 f3 hb1 hv
    go_wp2
    exact bodyPost_ret (v := .tuple #[.agg #[.int .i64 0, .slice none 0 0], .int .i64 C]) (by simp [results, Try.results33, go_sem, f0, f1]) rfl ⟨_, rfl, F2.out, F3.out⟩
end Go.Proofs.Ytcnkpfikafaocaa
