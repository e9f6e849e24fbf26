/- Texts of contracts, joined. -/
import Derived.Test.YtfhdgcndiljjcabGreatMgaf
import Derived.Test.YtfhdgcndiljjcabGreatMgag
import Derived.Test.YtfhdgcndiljjcabGreatMgal
import Derived.Deep.RegionHeld3
/- Copies with great moduli, up to 10^8: written by wip/tools/mk_bga.py out of Cms, Crw, Wcy, Wcv. -/
namespace Go.Proofs.YtfhdgcndiljjcabGreat
open Go.RowKit Go.WideShapes Go.ChangeShapes Go.ChangeAt
theorem SerOkG.hor {m : Int} {d : Nat} {l l' : List Int} (h : SerOkG m d l) (j : Nat) : SerOkG m d (Ser.horC m d (Ser.co l) (Ser.co l') j) :=
  ⟨h.m1, h.m2, h.d1, h.d2, Ser.horC_length _ _ _ _ _, Ser.horC_red (by have := h.m1; omega) _ _ _ h.red j⟩
set_option maxHeartbeats 4000000 in
theorem productAtR_anyG (m : Int) (d d' n : Nat) (A : Option Addr) (c : Nat) (l : List Int) (m' : Int) (A' : Option Addr) (c' : Nat) (l' : List Int) (w : World) (hs : RowOkG m d l) (hs' : SerOkG m d' l') (hdd : d ≤ d') (hr : RI w A l) (hr' : RI w A' l') (hn : n ≤ d) :
    Calls Tryz.prog 116 #[.agg #[.int .i64 m, .slice A l.length c], .agg #[.int .i64 m', .slice A' l'.length c'], .int .i64 n] w fun e w' => e = .returned (.int .i64 (Ser.cv n (Ser.co l) (Ser.co l'))) ∧ Below w.heap.size w w' := by
  obtain ⟨W, hW⟩ : ∃ W, (w.alloc (.cells #[.int .i64 m, .slice A l.length c] 39)).alloc (.cells #[.int .i64 m', .slice A' l'.length c'] 39) = W := ⟨_, rfl⟩
  obtain ⟨b1, b2, hwb⟩ := box2_new w m m' A A' l.length c l'.length c' W hW
  obtain ⟨x1, x2, _⟩ := b1
  obtain ⟨y1, y2, _⟩ := b2
  have HB := Lib.hid hwb
  have HW := Lib.hid hW
  have R1 := Lib.hid (hr.below hwb)
  have R2 := Lib.hid (hr'.below hwb)
  have HS := Lib.hid hs
  have HS' := Lib.hid hs'
  have HD := hs.d2
  obtain ⟨f, hf⟩ : ∃ f, f = fun i => Ser.co l i * Ser.co l' (n - i) := ⟨_, rfl⟩
  have HE := Lib.hid (show Ser.cv n (Ser.co l) (Ser.co l') = Ser.psum f (n + 1) by rw [hf]; exact Ser.cv_psum _ _ _)
  have HF := Lib.hid hf
  clear hwb hW hr hr' hs hs' hf
  go_enter Tryz.func116, Tryz.ntmps116
  go_wp2
  rw [HW.out]
  go_loopw [7, 8, 11] (fun s _ i wr => ∃ k : Nat, k ≤ n + 1 ∧ i = .int .i64 k ∧ s = .int .i64 (Ser.psum f k) ∧ 0 ≤ Ser.psum f k ∧ Ser.psum f k ≤ k * 10000000000000000 ∧ ∃ q, wr = W.drewN q) (fun _ _ i _ => n + 1 - (intOf i).toNat)
  case atStart => exact ⟨0, Nat.zero_le _, rfl, rfl, Int.le_refl _, Int.le_refl _, 0, rfl⟩
  case round =>
    obtain ⟨k, hk, rfl, rfl, z1, z2, q, rfl⟩ := hrel
    by_cases hlt : k < n + 1
    · obtain ⟨b, off, rfl, hb, hc⟩ := R1.out.at k (by have := HS.out.len; omega)
      obtain ⟨b', off', rfl, hb', hc'⟩ := R2.out.at (n - k) (by have := HS'.out.len; omega)
      have r1 := HS.out.red k
      have r2 := HS'.out.red (n - k)
      have m2 := HS.out.m2
      have hst : Ser.psum f (k + 1) = Ser.psum f k + Ser.co l k * Ser.co l' (n - k) := by rw [Ser.psum, HF.out]
      obtain ⟨X, hX⟩ : ∃ X, Ser.co l k = X := ⟨_, rfl⟩
      obtain ⟨Y, hY⟩ : ∃ Y, Ser.co l' (n - k) = Y := ⟨_, rfl⟩
      obtain ⟨P, hP⟩ : ∃ P, Ser.psum f k = P := ⟨_, rfl⟩
      rw [hX] at hc r1 hst
      rw [hY] at hc' r2 hst
      rw [hP] at z1 z2 hst
      obtain ⟨p1, p2⟩ := mul_bdG (x := X) (y := Y) r1.1 (by omega) (by omega) (by omega)
      have p3 : 0 ≤ X * Y := Int.mul_nonneg r1.1 r2.1
      have l1 := HS.out.len
      have l2 := HS'.out.len
      have j0 : (0 : Int) ≤ (k : Int) := by omega
      have j1 : (k : Int) < (l.length : Int) := by omega
      have j3 : (0 : Int) ≤ (n : Int) - (k : Int) := by omega
      have j4 : (n : Int) - (k : Int) < (l'.length : Int) := by omega
      have j5 : ((n : Int) - (k : Int)).toNat = n - k := by omega
      have HST := Lib.hid hst
      have HP := Lib.hid hP
      clear hX hY hP hst l1 l2
      rw [HP.out]
      go_wp2
      go_quiet (fail)
      go_wp2
      go_roundw
      case rel => exact ⟨k + 1, by omega, by go_num, by rw [HST.out], by rw [HST.out]; omega, by rw [HST.out]; omega, _, rfl⟩
      case measure => simp only [intOf]; omega
    · obtain rfl : k = n + 1 := by omega
      go_wp2
      go_ret
      exact ⟨ret_int HE.out.symm, below_drewN HB.out _⟩
set_option maxHeartbeats 1000000 in
theorem timesCR_anyG (n : Nat) (g g' : Nat) (m : Int) (d d' : Nat) (A : Option Addr) (c : Nat) (l : List Int) (m' : Int) (A' : Option Addr) (c' : Nat) (l' : List Int) (W : World)
    (hb : Box W g m A l.length c) (hb' : Box W g' m' A' l'.length c') (hs : RowOkG m d l) (hs' : SerOkG m d' l') (hdd : d ≤ d') (hr : RI W A l) (hr' : RI W A' l') (hn : n ≤ d) :
    Calls Tryz.prog 115 #[.int .i64 n, .pointer (some ⟨g, 0, none⟩), .pointer (some ⟨g', 0, none⟩)] W fun e w' => e = .returned (.int .i64 (Ser.cv n (Ser.co l) (Ser.co l'))) ∧ Below W.heap.size W w' := by
  obtain ⟨x1, x2, _⟩ := hb
  obtain ⟨y1, y2, _⟩ := hb'
  have HP := Lib.hid (productAtR_anyG m d d' n A c l m' A' c' l' W hs hs' hdd hr hr' hn)
  clear hs hs' hr hr'
  go_enter Tryz.func115, Tryz.ntmps115
  go_wp2_with fail
  refine HP.out.mono ?_
  rintro e w1 ⟨rfl, hb1⟩
  go_wp2
  go_ret
  exact ⟨rfl, hb1⟩
set_option maxHeartbeats 2000000 in
set_option maxRecDepth 100000 in
theorem timesR_anyG (m : Int) (d d' : Nat) (A : Option Addr) (c : Nat) (l : List Int) (m' : Int) (A' : Option Addr) (c' : Nat) (l' : List Int) (w : World) (hs : RowOkG m d l) (hs' : SerOkG m d' l') (hdd : d ≤ d') (hr : RI w A l) (hr' : RI w A' l') :
    Calls Tryz.prog 77 #[.agg #[.int .i64 m, .slice A l.length c], .agg #[.int .i64 m', .slice A' l'.length c']] w fun e w' => ∃ v, e = .returned (.agg #[.int .i64 m, v]) ∧ OwnI w' w.heap.size v (Ser.mulL m d l l') ∧ Below w.heap.size w w' := by
  obtain ⟨W, hW⟩ : ∃ W, (((w.alloc (.cells #[.int .i64 m, .slice A l.length c] 39)).alloc (.cells #[.int .i64 m', .slice A' l'.length c'] 39)).alloc (.cells #[.int .i64 0, .slice none 0 0] 39)) = W := ⟨_, rfl⟩
  obtain ⟨b1, b2, v3, hwb⟩ := box3_new w m m' A A' l.length c l'.length c' W hW
  have B1 := Lib.hid b1
  have B2 := Lib.hid b2
  have V3 := Lib.hid v3
  have HB := Lib.hid hwb
  have HW := Lib.hid hW
  have R1 := Lib.hid (hr.below hwb)
  have R2 := Lib.hid (hr'.below hwb)
  have HS := Lib.hid (fun W0 (h0 : Below W.heap.size W W0) => seriesOf_anyG m d 115 #[.pointer (some ⟨w.heap.size, 0, none⟩), .pointer (some ⟨w.heap.size + 1, 0, none⟩)] (Ser.mul (Ser.co l) (Ser.co l')) W0 (by have := hs.m1; omega) hs.m2 (by have := hs.d2; omega)
    (fun n hn => by have := cv_bdG hs.m2 hs.red hs'.red n (by have := hs.d2; omega); rw [Ser.mul_at]; omega)
    (enters_fn Tryz.func115 (of_decide_eq_true (by kernel_rfl)) rfl)
    (fun n W1 hn hb => by
      have hb2 := h0.trans (hb.mono h0.size)
      exact timesCR_anyG n _ _ m d d' A c l m' A' c' l' W1 (B1.out.keep hb2) (B2.out.keep hb2) hs hs' hdd (R1.out.below hb2) (R2.out.below hb2) hn))
  have HL := Lib.hid hs.len
  have HD := Lib.hid hs.d2
  obtain ⟨L, hLL⟩ : ∃ L, Ser.mulL m d l l' = L := ⟨_, rfl⟩
  unfold Ser.mulL at hLL ⊢
  rw [hLL] at HS ⊢
  clear b1 b2 v3 hwb hW hr hr' hs hs' hLL
  go_enter Tryz.func77, Tryz.ntmps77
  go_wp2
  rw [HW.out]
  obtain ⟨x1, x2, x3⟩ := B1.out
  go_region_held3 (fun w' => w'.cell? ⟨w.heap.size, 0, none⟩ = some (.int .i64 m) ∧ w'.cell? ⟨w.heap.size, 1, none⟩ = some (.slice A l.length c) ∧ w.heap.size < w'.heap.size) (first | exact ⟨x1, x2, x3⟩ | exact box_store (by omega) (by assumption) | exact box_call (by assumption) (by assumption)) (first
    | (go_at_call 76; refine (degree_nat _ _ _ _ d _ HL.out (by have := HD.out; omega)).mono ?_; rintro e1 w1 ⟨rfl, hb1⟩)
    | (go_at_call 108; refine (HS.out _ ((below_drew0 W).trans hb1)).mono ?_; rintro e2 w2 ⟨v, rfl, ho2, hb2⟩; obtain ⟨A2, c2, rfl, _⟩ := ho2.form; have hv := V3.out.keep (((below_drew0 W).trans hb1).trans (hb2.mono ((below_drew0 W).trans hb1).size)); have q0 := hv.c0; have q1 := hv.c1; have q2 := hv.fz 0; have q3 := hv.fz 1))
  all_goals
    have hz := ((below_drew0 W).trans hb1).size
    have hg := x3
    have hw2 : Below w.heap.size w w2 := (HB.out.trans (((below_drew0 W).trans hb1).mono HB.out.size)).trans (hb2.mono (by have := HB.out.size; omega))
    obtain ⟨f0, f1, f2, f3⟩ := fin_var (w := w) hv ho2 (by have := V3.out.lt; omega) (by omega) hw2 (.int .i64 m) (.slice A2 L.length c2)
    have F2 := Lib.hid f2
    have F3 := Lib.hid f3
    clear f2 f3 hw2 ho2 hb2 hb1
    go_wp2
    refine bodyPost_ret (v := .agg #[.int .i64 m, .slice A2 L.length c2]) (by simp [results, Tryz.results77, go_sem, f0, f1]) rfl ⟨_, rfl, F2.out, F3.out⟩
theorem RowOkG.hor {m : Int} {d : Nat} {l l' : List Int} (h : RowOkG m d l) (j : Nat) : RowOkG m d (Ser.horC m d (Ser.co l) (Ser.co l') j) :=
  ⟨h.m1, h.m2, h.d2, Ser.horC_length _ _ _ _ _, Ser.horC_red (by have := h.m1; omega) _ _ _ h.red j⟩
set_option maxHeartbeats 8000000 in
set_option maxRecDepth 100000 in
theorem composedR_anyG (m : Int) (d d' : Nat) (A : Option Addr) (c : Nat) (l : List Int) (m' : Int) (A' : Option Addr) (c' : Nat) (l' : List Int) (w : World) (hs : RowOkG m d l) (hs' : SerOkG m d' l') (hdd : d ≤ d') (hr : RI w A l) (hr' : RI w A' l') :
    Calls Tryz.prog 73 #[.agg #[.int .i64 m, .slice A l.length c], .agg #[.int .i64 m', .slice A' l'.length c']] w fun e w' => ∃ v, e = .returned (.agg #[.int .i64 m, v]) ∧ OwnI w' w.heap.size v (Ser.cmpL m d l l') ∧ Below w.heap.size w w' := by
  obtain ⟨W, hW⟩ : ∃ W, (((w.alloc (.cells #[.int .i64 m, .slice A l.length c] 39)).alloc (.cells #[.int .i64 m', .slice A' l'.length c'] 39)).alloc (.cells #[.int .i64 0, .slice none 0 0] 39)) = W := ⟨_, rfl⟩
  obtain ⟨b1, b2, v3, hwb⟩ := box3_new w m m' A A' l.length c l'.length c' W hW
  have B1 := Lib.hid b1
  have B2 := Lib.hid b2
  have V3 := Lib.hid v3
  have HB := Lib.hid hwb
  have HW := Lib.hid hW
  have HR := Lib.hid hr
  have HR' := Lib.hid hr'
  have HSZ : w.heap.size + 1 + 1 < W.heap.size := v3.lt
  have m1 := hs.m1
  have m2 := hs.m2
  have hd := hs.d2
  have HS := Lib.hid hs
  have HS' := Lib.hid hs'
  obtain ⟨b, off, rfl, hbb, hcd⟩ := hr.at d (by rw [hs.len]; omega)
  have hcd1 := (hwb.cell (p := ⟨b, off + d, none⟩) hbb).trans hcd
  obtain ⟨X, hX⟩ : ∃ X, Ser.co l d = X := ⟨_, rfl⟩
  obtain ⟨r1, r2⟩ := hs.red d
  rw [hX] at hcd1 r1 r2
  have HDG := Lib.hid (fun W0 => degree_nat m (some ⟨b, off, none⟩) l.length c d W0 hs.len (by omega))
  have HMO := Lib.hid (fun W0 => monomial_anyG m d 0 X W0 (by omega) m2 (by omega) (by omega) (by omega))
  obtain ⟨L0, hL0⟩ : ∃ L0, Ser.cut m d (Ser.mon 0 X) = L0 := ⟨_, rfl⟩
  have HL0 := Lib.hid (show L0 = Ser.horC m d (Ser.co l) (Ser.co l') 1 by rw [← hL0, ← hX]; exact (horC_one (by rw [hX]; exact r1) (by rw [hX]; exact r2)).symm)
  rw [hL0] at HMO
  have z1 : (0 : Int) ≤ (d : Int) := by omega
  have z2 : (d : Int) < (l.length : Int) := by have := hs.len; omega
  have hWb : b < W.heap.size := Nat.lt_of_lt_of_le hbb hwb.size
  clear b1 b2 v3 hwb hW hr hr' hs hs' hcd hX hL0
  go_enter Tryz.func73, Tryz.ntmps73
  go_wp2_with fail
  rw [HW.out]
  refine (HDG.out _).mono ?_
  rintro e W1 ⟨rfl, hb1⟩
  have Y1 := Lib.hid (B1.out.keep hb1)
  have Y2 := Lib.hid (B2.out.keep hb1)
  have V1 := Lib.hid (V3.out.keep hb1)
  have HB1 := Lib.hid (below_step HB.out hb1)
  have HSZ1 : w.heap.size + 1 + 1 < W1.heap.size := (V3.out.keep hb1).lt
  have hcd2 := (hb1.cell (p := ⟨b, off + d, none⟩) hWb).trans hcd1
  have hW1b : b < W1.heap.size := Nat.lt_of_lt_of_le hWb hb1.size
  clear hb1 hcd1 HDG B1 B2 V3 HB
  obtain ⟨x1, x2, x3⟩ := Y1.out
  go_wp2
  go_cut [6] (fun s7 wx => ∃ g A1 c1, s7 = .pointer (some ⟨g, 0, none⟩) ∧ Var2 wx g (.int .i64 m) (.slice A1 L0.length c1) ∧ OwnI wx W1.heap.size (.slice A1 L0.length c1) L0 ∧ Below W1.heap.size W1 wx ∧ W1.heap.size ≤ g)
  case first =>
    go_region_held3 (fun w' => (w'.cell? ⟨w.heap.size, 0, none⟩ = some (.int .i64 m) ∧ w'.cell? ⟨w.heap.size, 1, none⟩ = some (.slice (some ⟨b, off, none⟩) l.length c)) ∧ (w'.cell? ⟨b, off + d, none⟩ = some (.int .i64 X)) ∧ Below W1.heap.size W1 w') (first | exact bcb Y1.out hcd2 hW1b (below_drew0 _) | exact bcb Y1.out hcd2 hW1b hbel | exact bcb Y1.out hcd2 hW1b (below_alloc _ (trd (by assumption))) | exact bcb Y1.out hcd2 hW1b (below_alloc _ hbel) | exact bcb Y1.out hcd2 hW1b (reg_fin2 hwg hgc hv hod hbel m).2.2.1 | exact (by assumption)) (first
      | (go_at_call 72; refine (HMO.out _).mono ?_; rintro e wd ⟨sd, rfl, hod, hbd⟩; obtain ⟨Ad, cd, rfl, -⟩ := hod.form; obtain ⟨hbel, hle⟩ := reg_end (by assumption) hbd; first | (refine use_it (var_keep (Var2.new _ _ _).drew hbd) ?_; rintro ⟨hv, hgc⟩; have hwg := var_at (k := W1.heap.size) hv (Nat.le_refl _); have q0 := hv.c0; have q1 := hv.c1; have q2 := hv.fz 0; have q3 := hv.fz 1) | (refine use_it (var_keep (Var2.new _ _ _) hbd) ?_; rintro ⟨hv, hgc⟩; have hwg := var_at (k := W1.heap.size) hv (Nat.le_refl _); have q0 := hv.c0; have q1 := hv.c1; have q2 := hv.fz 0; have q3 := hv.fz 1) | skip))
    all_goals
      go_wp2_with fail
      go_meet
      case rel => first | exact ⟨_, _, _, rfl, reg_new2 hle hod hbel m⟩ | exact ⟨_, _, _, rfl, reg_fin2 hwg hgc hv hod hbel m⟩
  case rest =>
    obtain ⟨w2, hwc⟩ : ∃ w9, w9 = wc := ⟨_, rfl⟩
    subst hwc
    obtain ⟨g7, A7, c7, rfl, v7, o7, hb7, hg7⟩ := hcut
    rw [HL0.out] at v7 o7
    rw [Ser.horC_length] at v7 o7
    have O7 := Lib.hid o7
    have V7 := Lib.hid v7
    have B7 := Lib.hid hb7
    clear v7 o7 hb7 HMO x1 x2 x3 hcd2
    go_wp2
    go_loopw [7] (fun s7 wr => ∃ (j t : Nat) (I : Int) (A1 : Option Addr) (c1 : Nat), j + t = d ∧ I = (t : Int) - 1 ∧ s7 = .int .i64 I ∧ Var2 wr g7 (.int .i64 m) (.slice A1 (d + 1) c1) ∧ OwnI wr W1.heap.size (.slice A1 (d + 1) c1) (Ser.horC m d (Ser.co l) (Ser.co l') (j + 1)) ∧ Below W1.heap.size W1 wr) (fun s7 _ => (intOf s7 + 1).toNat)
    case atStart => exact ⟨0, d, _, A7, c7, by omega, rfl, rfl, V7.out, O7.out, B7.out⟩
    case round =>
      obtain ⟨j, t, I, A1, c1, hjt, hI, rfl, v1, o1, hb1⟩ := hrel
      have VV := Lib.hid v1
      have OO := Lib.hid o1
      have BB := Lib.hid hb1
      have YA := Lib.hid (Y1.out.keep hb1)
      have YB := Lib.hid (Y2.out.keep hb1)
      have VR := Lib.hid (V1.out.keep hb1)
      have RA := Lib.hid (HR.out.below (below_step HB1.out hb1))
      have RB := Lib.hid (HR'.out.below (below_step HB1.out hb1))
      clear v1 o1 hb1 V7 O7 B7
      rcases t with _ | i
      · obtain rfl : j = d := by omega
        obtain rfl : I = -1 := by omega
        clear hI hjt
        have hfin : Ser.horC m j (Ser.co l) (Ser.co l') (j + 1) = Ser.cmpL m j l l' := rfl
        have o1 := OO.out
        rw [hfin] at o1
        have z3 := VV.out.c0
        have z4 := VV.out.c1
        have z5 := VR.out.c0
        have z6 := VR.out.c1
        have z7 := VR.out.fz 0
        have z8 := VR.out.fz 1
        have f2 := (VR.out.set2 (.int .i64 m) (.slice A1 (j + 1) c1))
        have F1 := f2.c0
        have F2 := f2.c1
        have F3 := Lib.hid ((o1.set2 VR.out (.int .i64 m) (.slice A1 (j + 1) c1)).more (show w.heap.size ≤ W1.heap.size by omega))
        have F4 := Lib.hid (below_set2 (below_step HB1.out BB.out) (by omega : w.heap.size ≤ w.heap.size + 1 + 1) (.int .i64 m) (.slice A1 (j + 1) c1))
        unfold set2 at F1 F2 F3 F4
        clear f2 o1 hfin
        go_wp2
        exact bodyPost_ret (v := .agg #[.int .i64 m, .slice A1 (j + 1) c1]) (by simp [results, Tryz.results73, go_sem, F1, F2]) rfl ⟨_, rfl, F3.out, F4.out⟩
      · obtain rfl : I = (i : Int) := by omega
        clear hI
        have sh : RowOkG m d (Ser.horC m d (Ser.co l) (Ser.co l') (j + 1)) := HS.out.hor _
        have ht := timesR_anyG m d d' A1 c1 _ m' A' c' l' wr sh HS'.out hdd (by have := OO.out.form; obtain ⟨A0, c0, he, hri⟩ := this; rw [Ser.horC_length] at he; injection he with e1; rw [e1]; exact hri) RB.out
        rw [Ser.horC_length] at ht
        have HT := Lib.hid ht
        obtain ⟨L3, hL3⟩ : ∃ L3, Ser.mulL m d (Ser.horC m d (Ser.co l) (Ser.co l') (j + 1)) l' = L3 := ⟨_, rfl⟩
        have hlen3 : L3.length = d + 1 := by rw [← hL3, Ser.mulL_length]
        rw [hL3] at HT
        have hst : L3.set 0 (Ser.co l i) = Ser.horC m d (Ser.co l) (Ser.co l') (j + 1 + 1) := by
          rw [← hL3]
          have e : d - (j + 1) = i := by omega
          show (Ser.cut m d (Ser.mul (Ser.co (Ser.horC m d (Ser.co l) (Ser.co l') (j + 1))) (Ser.co l'))).set 0 (Ser.co l i) = (Ser.cut m d (Ser.mul (Ser.co (Ser.horC m d (Ser.co l) (Ser.co l') (j + 1))) (Ser.co l'))).set 0 (Ser.co l (d - (j + 1)))
          rw [e]
        obtain ⟨x3, x4⟩ := (⟨VV.out.c0, VV.out.c1⟩ : _ ∧ _)
        obtain ⟨y3, y4, -⟩ := YB.out
        clear ht sh hL3
        go_wp2_with fail
        refine HT.out.mono ?_
        rintro e w3 ⟨s3, rfl, ho3, hb3⟩
        obtain ⟨g3, c3, rfl⟩ := ho3.openv (by intro h; rw [h] at hlen3; simp at hlen3)
        rw [hlen3] at ho3 ⊢
        have v3 := VV.out.keep hb3
        have q5 := v3.c0
        have q6 := v3.c1
        have q7 := v3.fz 0
        have q8 := v3.fz 1
        clear x3 x4 y3 y4
        have hb9 := below_step BB.out hb3
        obtain ⟨X9, hX9⟩ : ∃ X9, set2 w3 g7 (.int .i64 m) (.slice (some ⟨g3, 0, none⟩) (d + 1) c3) = X9 := ⟨_, rfl⟩
        have vx : Var2 X9 g7 (.int .i64 m) (.slice (some ⟨g3, 0, none⟩) (d + 1) c3) := by rw [← hX9]; exact v3.set2 _ _
        have ox : OwnI X9 wr.heap.size (.slice (some ⟨g3, 0, none⟩) (d + 1) c3) L3 := by rw [← hX9]; exact ho3.set2 v3 _ _
        have bx : Below W1.heap.size W1 X9 := by rw [← hX9]; exact below_set2 hb9 hg7 _ _
        have ya : Box X9 w.heap.size m (some ⟨b, off, none⟩) l.length c := Y1.out.keep bx
        obtain ⟨b', off', hbe, hbb', hci⟩ := (HR.out.below (below_step HB1.out bx)).at i (by have := HS.out.len; omega)
        injection hbe with hbe
        injection hbe with hbe1 hbe2
        subst hbe1 hbe2
        obtain ⟨Z, hZ⟩ : ∃ Z, Ser.co l i = Z := ⟨_, rfl⟩
        rw [hZ] at hci hst
        obtain ⟨-, -, o3, o4⟩ := ox.cells
        have d1 := o3 0 (by omega)
        have f1 := o4 0
        have hset := ox.set 0 Z
        rw [hst] at hset
        have hg3 := (ox.lt g3 rfl).1
        have hwr := BB.out.size
        have HSET := Lib.hid (hset.more hwr)
        have ne2 : g3 ≠ g7 := fun e => own_ne_var vx ox (by rw [e]; rfl)
        have V9 := Lib.hid (vx.far g3 0 (.int .i64 Z) ne2)
        have BX := Lib.hid (bx.setCell (p := ⟨g3, 0, none⟩) (by show W1.heap.size ≤ g3; omega) (.int .i64 Z)).drew
        obtain ⟨x5, x6, -⟩ := ya
        obtain ⟨x7, x8⟩ := (⟨vx.c0, vx.c1⟩ : _ ∧ _)
        have j0 : (0 : Int) ≤ (i : Int) := by omega
        have j1 : (i : Int) < (l.length : Int) := by have := HS.out.len; omega
        have j2 : (0 : Int) < (d : Int) + 1 := by omega
        unfold set2 at hX9
        have HX := Lib.hid hX9
        clear ho3 hb3 v3 hb9 vx ox bx hZ hst o3 o4 hset hX9
        go_upto_region 7 with fail
        rw [HX.out]
        clear HX q5 q6 q7 q8
        go_still_tail 8, (by kernel_rfl)
        change wpList _ _ _ _ _ X9.drew
        go_wp2
        go_roundw
        case rel => exact ⟨j + 1, i, _, _, c3, by omega, rfl, by first | rfl | go_num, V9.out, HSET.out, BX.out⟩
        case measure => simp only [intOf]; omega
theorem wcy_rowG {m : Int} {d : Nat} {t : List (List Int)} {l' : List Int} (hs : Pl.OkG m d t) (hz : Ser.co l' 0 = 0) (k : Nat) : Ser.cmpL m (d - k) (Pl.rw' t k) l' = Ser.cut m (d - k) (wcyF t l' k) :=
  Ser.cmpL_cut (by have := hs.m1; omega) hz (hs.red k)
set_option maxHeartbeats 4000000 in
set_option maxRecDepth 100000 in
theorem withCurveInY_anyG (m : Int) (d : Nat) (A : Option Addr) (c : Nat) (t : List (List Int)) (A' : Option Addr) (c' : Nat) (l' : List Int) (w : World) (hs : Pl.OkG m d t) (hs' : SerOkG m d l') (hz : Ser.co l' 0 = 0) (hr : RP w A t) (hr' : RI w A' l') :
    Calls Tryz.prog 113 #[.agg #[.int .i64 m, .int .i64 d, .slice A t.length c], .agg #[.int .i64 m, .slice A' l'.length c']] w fun e w' => ∃ v, e = .returned (.agg #[.int .i64 m, .int .i64 d, v]) ∧ OwnR w' w.heap.size w'.heap.size v (Pl.tab m d (wcyF t l')) ∧ Below w.heap.size w w' := by
  obtain ⟨W, hW, b1, b2, v3, hwb⟩ := gproB w m d A t.length c m A' l'.length c'
  obtain ⟨b, off, rfl, hbb, hrow⟩ := hr (by intro e; have := hs.len; rw [e] at this; simp at this)
  have HROW := Lib.hid hrow
  have HCP := Lib.hid (fun (k : Nat) (Ak : Option Addr) (ck : Nat) (W0 : World) (hk : k ≤ d) (h : RI W0 Ak (Pl.rw' t k)) (h' : RI W0 A' l') => by
    have := composedR_anyG m (d - k) d Ak ck (Pl.rw' t k) m A' c' l' W0 (hs.rowOk k hk) hs' (by omega) h h'
    rw [wcy_rowG hs hz k] at this
    exact this)
  have HRL := Lib.hid (fun k (hk : k ≤ d) => hs.row k hk)
  have HR' := Lib.hid hr'
  have B1 := Lib.hid b1
  have B2 := Lib.hid b2
  have V3 := Lib.hid v3
  have HB := Lib.hid hwb
  have HW := Lib.hid hW
  have HWS : Hid (W.heap.size = w.heap.size + 1 + 1 + 1) := Lib.hid (by rw [← hW]; simp)
  have hd2 := hs.d2
  have hl := hs.len
  obtain ⟨L, hL⟩ : ∃ L, t.length = L := ⟨_, rfl⟩
  rw [hL] at HW B1 hl HROW ⊢
  have hsz3 := v3.lt
  have hmk : ∀ W : World, (Instr.makeSlice 22 (.int .i64 (L : Int)) (.int .i64 (L : Int))).run Tryz.prog W = .ok (.slice (some ⟨W.heap.size, 0, none⟩) L L) (W.alloc (.cells (madeCells #[Value.slice none 0 0] L) 26)) := by
    intro W
    exact run_make_row' (P := Tryz.prog) 22 26 (.slice none 0 0) 24 Tryz.underlying22 infoRow rfl .i64 .i64 L (by omega) (by omega) W
  obtain ⟨f, hf⟩ : ∃ f, wcyF t l' = f := ⟨_, rfl⟩
  rw [hf] at HCP ⊢
  obtain ⟨l, hll⟩ : ∃ n, l'.length = n := ⟨_, rfl⟩
  rw [hll] at HCP HW B2 ⊢
  have HLd := Lib.hid hl
  have hLb : L ≤ 11 := by omega
  have hfd := fun (a b : Value) (W : World) => (show (Instr.field 39 (.agg #[a, b]) 1).run Tryz.prog W = .ok b W by kernel_rfl)
  obtain ⟨x1, x2, x3, x4⟩ := b1
  rw [hL] at x3
  clear b2 v3 hwb hW hr hr' hs hs' hL hf hll hrow hz hl
  go_enter Tryz.func113, Tryz.ntmps113
  go_wp2
  rw [HW.out]
  go_wp2
  go_loopw [6, 7, 15] (fun _ _ i wr => ∃ k : Nat, k ≤ L ∧ i = .int .i64 k ∧ OwnR wr (w.heap.size + 1 + 1 + 1) wr.heap.size (.slice (some ⟨w.heap.size + 1 + 1 + 1, 0, none⟩) L L) ((Pl.tab m d f).take k ++ List.replicate (d + 1 - k) []) ∧ Below W.heap.size W wr) (fun _ _ i _ => L - (intOf i).toNat)
  case atStart =>
    refine ⟨0, Nat.zero_le _, rfl, ?_, below_one _ _⟩
    have h := OwnR.made W L (by unfold maxLen; omega)
    rw [HWS.out] at h
    rw [← HLd.out]
    simpa [HWS.out] using h
  case round =>
    clear hmk x1 x2 x3 x4
    obtain ⟨k, hk, rfl, hown, hbel⟩ := hrel
    have HO := Lib.hid hown
    have HBW := Lib.hid hbel
    obtain ⟨y1, y2, y3, -⟩ := B1.out.keep hbel
    obtain ⟨z1, z2, -⟩ := B2.out.keep hbel
    clear hown hbel
    by_cases hlt : k < L
    · obtain ⟨Ak, ck, h1, h2, h3⟩ := HROW.out k hlt
      have h1 := ((below_step HB.out HBW.out).cell (p := ⟨b, off + k, none⟩) hbb).trans h1
      have h3 := h3.below (below_step HB.out HBW.out)
      have HCK := Lib.hid (HCP.out k Ak ck wr (by have := HLd.out; omega) h3 (HR'.out.below (below_step HB.out HBW.out)))
      have hrl := HRL.out k (by have := HLd.out; omega)
      obtain ⟨n, hn⟩ : ∃ n, (Pl.rw' t k).length = n := ⟨_, rfl⟩
      rw [hn] at h1 h2 HCK
      obtain ⟨R, hR⟩ : ∃ R, Ser.cut m (d - k) (f k) = R := ⟨_, rfl⟩
      rw [hR] at HCK
      have HR := Lib.hid hR
      have j0 : (0 : Int) ≤ (k : Int) := by omega
      have j1 : (k : Int) < (L : Int) := by omega
      clear h2 h3 hrl hn hR
      go_wp2_with fail
      refine HCK.out.mono ?_
      rintro e w1 ⟨v1, rfl, ho, hb1⟩
      obtain ⟨A1, c1, rfl, -⟩ := ho.form
      have hlen : k < ((Pl.tab m d f).take k ++ List.replicate (d + 1 - k) []).length := by have := Pl.tab_length m d f; have := HLd.out; simp; omega
      have ho1 := HO.out.keep hb1
      obtain ⟨_, o2, _, o4, _, _, o5, _⟩ := ho1.cell k hlen
      have hput := ho1.put k hlen (.slice A1 R.length c1) R (ho.more (by rw [← HWS.out]; exact HBW.out.size)) (hi' := w1.heap.size) (fun b hb => ho.lt b hb) hb1.size
      rw [← HR.out, Pl.tab_step m d f k (by have := HLd.out; omega), Pl.tab_done m d f k (by have := HLd.out; omega)] at hput
      have hbx : Below W.heap.size W (w1.setCell ⟨w.heap.size + 1 + 1 + 1, k, none⟩ (.slice A1 R.length c1)) := (below_step HBW.out hb1).setCell (by show W.heap.size ≤ w.heap.size + 1 + 1 + 1; rw [HWS.out]; exact Nat.le_refl _) _
      rw [HR.out] at hput
      have HP := Lib.hid hput
      have HBX := Lib.hid hbx
      have hs1 : w1.heap.size ≤ (w1.setCell ⟨w.heap.size + 1 + 1 + 1, k, none⟩ (.slice A1 R.length c1)).heap.size := by show _ ≤ (w1.heap.modify _ _).size; simp
      have HS1 := Lib.hid hs1
      clear ho ho1 hput hbx hb1 hlen hs1 o2 y1 y2 y3 z1 z2 h1
      go_wp2
      go_roundw
      case rel => exact ⟨k + 1, by omega, by go_num, HP.out.more HS1.out, HBX.out⟩
      case measure => simp only [intOf]; omega
    · obtain rfl : k = L := by omega
      have ho := HO.out
      rw [HLd.out, Pl.tab_take_all, Nat.sub_self, List.replicate_zero, List.append_nil] at ho
      have hv := V3.out.keep HBW.out
      obtain ⟨q0, q1, q2, q3, q4, q5⟩ := hv.tells3
      obtain ⟨f0, f1, f2, f3, f4⟩ := fin_grid (w := w) hv ho (by omega) (by omega) (Nat.le_refl _) (below_step HB.out HBW.out) (.int .i64 m) (.int .i64 d) (.slice (some ⟨w.heap.size + 1 + 1 + 1, 0, none⟩) (d + 1) (d + 1))
      have F3 := Lib.hid (f3.low (show w.heap.size ≤ w.heap.size + 1 + 1 + 1 by omega))
      have F4 := Lib.hid f4
      have hkd := HLd.out
      subst hkd
      unfold set3 at f0 f1 f2
      clear f3 f4 ho hv HO
      go_wp2
      exact bodyPost_ret (v := .agg #[.int .i64 m, .int .i64 d, .slice (some ⟨w.heap.size + 1 + 1 + 1, 0, none⟩) (d + 1) (d + 1)]) (by simp [results, Tryz.results113, go_sem, f0, f1, f2]) rfl ⟨_, rfl, F3.out, F4.out⟩
set_option maxHeartbeats 8000000 in
set_option maxRecDepth 100000 in
theorem withCurves_anyG (m : Int) (d : Nat) (A : Option Addr) (c : Nat) (t : List (List Int)) (A1 : Option Addr) (c1 : Nat) (l1 : List Int) (A2 : Option Addr) (c2 : Nat) (l2 : List Int) (w : World) (hs : Pl.OkG m d t) (s1 : SerOkG m d l1) (s2 : SerOkG m d l2) (z1 : Ser.co l1 0 = 0) (z2 : Ser.co l2 0 = 0) (hr : RP w A t) (hr1 : RI w A1 l1) (hr2 : RI w A2 l2) :
    Calls Tryz.prog 75 #[.agg #[.int .i64 m, .int .i64 d, .slice A t.length c], .agg #[.int .i64 m, .slice A1 l1.length c1], .agg #[.int .i64 m, .slice A2 l2.length c2]] w fun e w' => ∃ v, e = .returned (.agg #[.int .i64 m, .int .i64 d, v]) ∧ OwnR w' w.heap.size w'.heap.size v (Pl.botT m d (Pl.pc t) l1 l2) ∧ Below w.heap.size w w' := by
  obtain ⟨W, hW, b1, b2, b3, v4, hwb⟩ := gproC w m d A t.length c m A1 l1.length c1 m A2 l2.length c2
  have H1 := Lib.hid (fun W0 (h : Below W.heap.size W W0) => withCurveInY_anyG m d A c t A2 c2 l2 W0 hs s2 z2 ((hr.below hwb).below h) ((hr2.below hwb).below h))
  have htab := wc_tables (m := m) (d := d) (t := t) z1 z2
  obtain ⟨T1, hT1⟩ : ∃ T1, Pl.tab m d (wcyF t l2) = T1 := ⟨_, rfl⟩
  have ok1 : Pl.OkG m d T1 := by rw [← hT1]; exact hs.tab _
  rw [hT1] at H1 htab
  have H2 := Lib.hid (fun W0 (A0 : Option Addr) (c0 : Nat) (h : RP W0 A0 T1) => turned_anyG m d A0 c0 T1 W0 ok1 h)
  obtain ⟨T2, hT2⟩ : ∃ T2, (Pl.tab m d fun i j => Pl.pc T1 j i) = T2 := ⟨_, rfl⟩
  have ok2 : Pl.OkG m d T2 := by rw [← hT2]; exact hs.tab _
  rw [hT2] at H2 htab
  have H3 := Lib.hid (fun W0 (A0 : Option Addr) (c0 : Nat) (hb : Below W.heap.size W W0) (h : RP W0 A0 T2) => withCurveInY_anyG m d A0 c0 T2 A1 c1 l1 W0 ok2 s1 z1 h ((hr1.below hwb).below hb))
  obtain ⟨T3, hT3⟩ : ∃ T3, Pl.tab m d (wcyF T2 l1) = T3 := ⟨_, rfl⟩
  have ok3 : Pl.OkG m d T3 := by rw [← hT3]; exact hs.tab _
  rw [hT3] at H3 htab
  have H4 := Lib.hid (fun W0 (A0 : Option Addr) (c0 : Nat) (h : RP W0 A0 T3) => turned_anyG m d A0 c0 T3 W0 ok3 h)
  obtain ⟨T4, hT4⟩ : ∃ T4, Pl.botT m d (Pl.pc t) l1 l2 = T4 := ⟨_, rfl⟩
  rw [hT4] at htab ⊢
  rw [htab] at H4
  obtain ⟨B1, B2, B3⟩ := (⟨b1, b2, b3⟩ : _ ∧ _ ∧ _)
  have V4 := Lib.hid v4
  have HB := Lib.hid hwb
  have HW := Lib.hid hW
  obtain ⟨L, hL⟩ : ∃ L, t.length = L := ⟨_, rfl⟩
  obtain ⟨n1, hn1⟩ : ∃ L, l1.length = L := ⟨_, rfl⟩
  obtain ⟨n2, hn2⟩ : ∃ L, l2.length = L := ⟨_, rfl⟩
  rw [hL] at H1 HW B1 ⊢
  rw [hn1] at H3 HW B2 ⊢
  rw [hn2] at H1 HW B3 ⊢
  have X0 := Lib.hid (k3_call (below_drew0 W) ⟨B1, B2, B3⟩)
  obtain ⟨p1, p2, p3⟩ : (w.heap.size + 1 + 1 + 1 ≠ w.heap.size) ∧ (w.heap.size + 1 + 1 + 1 ≠ w.heap.size + 1) ∧ (w.heap.size + 1 + 1 + 1 ≠ w.heap.size + 1 + 1) := ⟨by omega, by omega, by omega⟩
  have E1 := Lib.hid p1
  have E2 := Lib.hid p2
  have E3 := Lib.hid p3
  clear b1 b2 b3 v4 hwb hW hr hr1 hr2 hs s1 s2 z1 z2 hL hn1 hn2 hT1 hT2 hT3 hT4 htab ok1 ok2 ok3 B1 B2 B3 p1 p2 p3
  go_enter Tryz.func75, Tryz.ntmps75
  go_wp2
  rw [HW.out]
  go_region_held3 (fun w' => (w'.cell? ⟨w.heap.size, 0, none⟩ = some (.int .i64 m) ∧ w'.cell? ⟨w.heap.size, 1, none⟩ = some (.int .i64 d) ∧ w'.cell? ⟨w.heap.size, 2, none⟩ = some (.slice A L c) ∧ w.heap.size < w'.heap.size) ∧ (w'.cell? ⟨w.heap.size + 1, 0, none⟩ = some (.int .i64 m) ∧ w'.cell? ⟨w.heap.size + 1, 1, none⟩ = some (.slice A1 n1 c1) ∧ w.heap.size + 1 < w'.heap.size) ∧ (w'.cell? ⟨w.heap.size + 1 + 1, 0, none⟩ = some (.int .i64 m) ∧ w'.cell? ⟨w.heap.size + 1 + 1, 1, none⟩ = some (.slice A2 n2 c2) ∧ w.heap.size + 1 + 1 < w'.heap.size)) (first | exact X0.out | exact k3_call bd (by assumption) | exact k3_call bc (by assumption) | exact k3_call bb (by assumption) | exact k3_call ba (by assumption) | exact k3_store E1.out E2.out E3.out (by assumption)) (first
    | (go_at_call 113; with_reducible refine Calls.mono (H1.out _ (below_drew0 W)) ?_; rintro e wa ⟨sa, rfl, oa, ba⟩; obtain ⟨Aa, ca, rfl, -⟩ := oa.len)
    | (go_at_call 114; with_reducible refine Calls.mono (H2.out _ _ _ oa.rp) ?_; rintro e wb ⟨sb, rfl, ob, bb⟩; obtain ⟨Ab, cb, rfl, -⟩ := ob.len)
    | (go_at_call 113; with_reducible refine Calls.mono (H3.out _ _ _ (below_step (below_step (below_drew0 W) ba) bb) ob.rp) ?_; rintro e wc ⟨sc, rfl, oc, bc⟩; obtain ⟨Ac, cc, rfl, -⟩ := oc.len)
    | (go_at_call 114; with_reducible refine Calls.mono (H4.out _ _ _ oc.rp) ?_; rintro e wd ⟨sd, rfl, od, bd⟩; obtain ⟨Ad, cd, rfl, -⟩ := od.len; have hv := V4.out.keep (below_step (below_step (below_step (below_step (below_drew0 W) ba) bb) bc) bd); obtain ⟨q0, q1, q2, q3, q4, q5⟩ := hv.tells3))
  all_goals
    have hb5 := below_step (below_step (below_step (below_drew0 W) ba) bb) bc
    have hsz := hb5.size
    have hlt := V4.out.lt
    have hlo := HB.out.size
    obtain ⟨f0, f1, f2, f3, f4⟩ := fin_grid (w := w) hv od (by omega) (by omega) (Nat.le_refl _) (below_step HB.out (below_step hb5 bd)) (.int .i64 m) (.int .i64 d) (.slice Ad T4.length cd)
    have F3 := Lib.hid (f3.low (lo' := w.heap.size) (by omega))
    have F4 := Lib.hid f4
    unfold set3 at f0 f1 f2
    clear f3 f4 od hv hb5 ba bb bc bd oa ob oc
    go_wp2
    exact bodyPost_ret (v := .agg #[.int .i64 m, .int .i64 d, .slice Ad T4.length cd]) (by simp [results, Tryz.results75, go_sem, f0, f1, f2]) rfl ⟨_, rfl, F3.out, F4.out⟩
end Go.Proofs.YtfhdgcndiljjcabGreat

