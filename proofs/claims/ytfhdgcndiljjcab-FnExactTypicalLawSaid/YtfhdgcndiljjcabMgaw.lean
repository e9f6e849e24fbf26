/- Texts of contracts, joined. -/
import Derived.Test.YtfhdgcndiljjcabMgai
import Derived.Test.YtfhdgcndiljjcabMgaj
import Derived.Test.YtfhdgcndiljjcabMgav
import Derived.Deep.RegionHeld3
import Derived.Test.YtfhdgcndiljjcabMgaq
import Derived.Test.YtfhdgcndiljjcabMgat
import Derived.Test.YtfhdgcndiljjcabMgam
import Derived.Test.YtfhdgcndiljjcabMgau
import Derived.Test.YtfhdgcndiljjcabMgap
import Derived.Test.YtfhdgcndiljjcabMgaa
import Derived.Deep.LoopGhost
import Derived.LoopN
import Derived.WalkMore
import Derived.Outline
import Derived.Test.YtfhdgcndiljjcabMgag
/- Copies with great moduli, up to 10^8: written by wip/tools/mk_bga.py out of Cms, Crw, Wcy, Wcv. -/
namespace Go.Proofs.Ytfhdgcndiljjcab
open Go.RowKit Go.WideShapes Go.ChangeShapes Go.ChangeAt

theorem SerOkG.hor {m : Int} {d : Nat} {l l' : List Int} (h : SerOkG m d l) (j : Nat) : SerOkG m d (Ser.horC m d (Ser.co l) (Ser.co l') j) :=
  ⟨h.m1, h.m2, h.d1, h.d2, Ser.horC_length _ _ _ _ _, Ser.horC_red (by have := h.m1; omega) _ _ _ h.red j⟩
set_option maxHeartbeats 4000000 in
theorem productAtR_anyG (m : Int) (d d' n : Nat) (A : Option Addr) (c : Nat) (l : List Int) (m' : Int) (A' : Option Addr) (c' : Nat) (l' : List Int) (w : World) (hs : RowOkG m d l) (hs' : SerOkG m d' l') (hdd : d ≤ d') (hr : RI w A l) (hr' : RI w A' l') (hn : n ≤ d) :
    Calls Try.prog 92 #[.agg #[.int .i64 m, .slice A l.length c], .agg #[.int .i64 m', .slice A' l'.length c'], .int .i64 n] w fun e w' => e = .returned (.int .i64 (Ser.cv n (Ser.co l) (Ser.co l'))) ∧ Below w.heap.size w w' := by
  obtain ⟨W, hW⟩ : ∃ W, (w.alloc (.cells #[.int .i64 m, .slice A l.length c] 62)).alloc (.cells #[.int .i64 m', .slice A' l'.length c'] 62) = W := ⟨_, rfl⟩
  obtain ⟨b1, b2, hwb⟩ := box2_new w m m' A A' l.length c l'.length c' W hW
  obtain ⟨x1, x2, _⟩ := b1
  obtain ⟨y1, y2, _⟩ := b2
  have HB := Lib.hid hwb
  have HW := Lib.hid hW
  have R1 := Lib.hid (hr.below hwb)
  have R2 := Lib.hid (hr'.below hwb)
  have HS := Lib.hid hs
  have HS' := Lib.hid hs'
  have HD := hs.d2
  obtain ⟨f, hf⟩ : ∃ f, f = fun i => Ser.co l i * Ser.co l' (n - i) := ⟨_, rfl⟩
  have HE := Lib.hid (show Ser.cv n (Ser.co l) (Ser.co l') = Ser.psum f (n + 1) by rw [hf]; exact Ser.cv_psum _ _ _)
  have HF := Lib.hid hf
  clear hwb hW hr hr' hs hs' hf
  go_enter Try.func92, Try.ntmps92
  go_wp2
  rw [HW.out]
  go_loopw [7, 8, 11] (fun s _ i wr => ∃ k : Nat, k ≤ n + 1 ∧ i = .int .i64 k ∧ s = .int .i64 (Ser.psum f k) ∧ 0 ≤ Ser.psum f k ∧ Ser.psum f k ≤ k * 10000000000000000 ∧ ∃ q, wr = W.drewN q) (fun _ _ i _ => n + 1 - (intOf i).toNat)
  case atStart => exact ⟨0, Nat.zero_le _, rfl, rfl, Int.le_refl _, Int.le_refl _, 0, rfl⟩
  case round =>
    obtain ⟨k, hk, rfl, rfl, z1, z2, q, rfl⟩ := hrel
    by_cases hlt : k < n + 1
    · obtain ⟨b, off, rfl, hb, hc⟩ := R1.out.at k (by have := HS.out.len; omega)
      obtain ⟨b', off', rfl, hb', hc'⟩ := R2.out.at (n - k) (by have := HS'.out.len; omega)
      have r1 := HS.out.red k
      have r2 := HS'.out.red (n - k)
      have m2 := HS.out.m2
      have hst : Ser.psum f (k + 1) = Ser.psum f k + Ser.co l k * Ser.co l' (n - k) := by rw [Ser.psum, HF.out]
      obtain ⟨X, hX⟩ : ∃ X, Ser.co l k = X := ⟨_, rfl⟩
      obtain ⟨Y, hY⟩ : ∃ Y, Ser.co l' (n - k) = Y := ⟨_, rfl⟩
      obtain ⟨P, hP⟩ : ∃ P, Ser.psum f k = P := ⟨_, rfl⟩
      rw [hX] at hc r1 hst
      rw [hY] at hc' r2 hst
      rw [hP] at z1 z2 hst
      obtain ⟨p1, p2⟩ := mul_bdG (x := X) (y := Y) r1.1 (by omega) (by omega) (by omega)
      have p3 : 0 ≤ X * Y := Int.mul_nonneg r1.1 r2.1
      have l1 := HS.out.len
      have l2 := HS'.out.len
      have j0 : (0 : Int) ≤ (k : Int) := by omega
      have j1 : (k : Int) < (l.length : Int) := by omega
      have j3 : (0 : Int) ≤ (n : Int) - (k : Int) := by omega
      have j4 : (n : Int) - (k : Int) < (l'.length : Int) := by omega
      have j5 : ((n : Int) - (k : Int)).toNat = n - k := by omega
      have HST := Lib.hid hst
      have HP := Lib.hid hP
      clear hX hY hP hst l1 l2
      rw [HP.out]
      go_wp2
      go_quiet (fail)
      go_wp2
      go_roundw
      case rel => exact ⟨k + 1, by omega, by go_num, by rw [HST.out], by rw [HST.out]; omega, by rw [HST.out]; omega, _, rfl⟩
      case measure => simp only [intOf]; omega
    · obtain rfl : k = n + 1 := by omega
      go_wp2
      go_ret
      exact ⟨ret_int HE.out.symm, below_drewN HB.out _⟩
set_option maxHeartbeats 1000000 in
theorem timesCR_anyG (n : Nat) (g g' : Nat) (m : Int) (d d' : Nat) (A : Option Addr) (c : Nat) (l : List Int) (m' : Int) (A' : Option Addr) (c' : Nat) (l' : List Int) (W : World)
    (hb : Box W g m A l.length c) (hb' : Box W g' m' A' l'.length c') (hs : RowOkG m d l) (hs' : SerOkG m d' l') (hdd : d ≤ d') (hr : RI W A l) (hr' : RI W A' l') (hn : n ≤ d) :
    Calls Try.prog 91 #[.int .i64 n, .pointer (some ⟨g, 0, none⟩), .pointer (some ⟨g', 0, none⟩)] W fun e w' => e = .returned (.int .i64 (Ser.cv n (Ser.co l) (Ser.co l'))) ∧ Below W.heap.size W w' := by
  obtain ⟨x1, x2, _⟩ := hb
  obtain ⟨y1, y2, _⟩ := hb'
  have HP := Lib.hid (productAtR_anyG m d d' n A c l m' A' c' l' W hs hs' hdd hr hr' hn)
  clear hs hs' hr hr'
  go_enter Try.func91, Try.ntmps91
  go_wp2_with fail
  refine HP.out.mono ?_
  rintro e w1 ⟨rfl, hb1⟩
  go_wp2
  go_ret
  exact ⟨rfl, hb1⟩
set_option maxHeartbeats 2000000 in
set_option maxRecDepth 100000 in
theorem timesR_anyG (m : Int) (d d' : Nat) (A : Option Addr) (c : Nat) (l : List Int) (m' : Int) (A' : Option Addr) (c' : Nat) (l' : List Int) (w : World) (hs : RowOkG m d l) (hs' : SerOkG m d' l') (hdd : d ≤ d') (hr : RI w A l) (hr' : RI w A' l') :
    Calls Try.prog 86 #[.agg #[.int .i64 m, .slice A l.length c], .agg #[.int .i64 m', .slice A' l'.length c']] w fun e w' => ∃ v, e = .returned (.agg #[.int .i64 m, v]) ∧ OwnI w' w.heap.size v (Ser.mulL m d l l') ∧ Below w.heap.size w w' := by
  obtain ⟨W, hW⟩ : ∃ W, (((w.alloc (.cells #[.int .i64 m, .slice A l.length c] 62)).alloc (.cells #[.int .i64 m', .slice A' l'.length c'] 62)).alloc (.cells #[.int .i64 0, .slice none 0 0] 62)) = W := ⟨_, rfl⟩
  obtain ⟨b1, b2, v3, hwb⟩ := box3_new w m m' A A' l.length c l'.length c' W hW
  have B1 := Lib.hid b1
  have B2 := Lib.hid b2
  have V3 := Lib.hid v3
  have HB := Lib.hid hwb
  have HW := Lib.hid hW
  have R1 := Lib.hid (hr.below hwb)
  have R2 := Lib.hid (hr'.below hwb)
  have HS := Lib.hid (fun W0 (h0 : Below W.heap.size W W0) => seriesOf_anyG m d 91 #[.pointer (some ⟨w.heap.size, 0, none⟩), .pointer (some ⟨w.heap.size + 1, 0, none⟩)] (Ser.mul (Ser.co l) (Ser.co l')) W0 (by have := hs.m1; omega) hs.m2 (by have := hs.d2; omega)
    (fun n hn => by have := cv_bdG hs.m2 hs.red hs'.red n (by have := hs.d2; omega); rw [Ser.mul_at]; omega)
    (enters_fn Try.func91 (of_decide_eq_true (by kernel_rfl)) rfl)
    (fun n W1 hn hb => by
      have hb2 := h0.trans (hb.mono h0.size)
      exact timesCR_anyG n _ _ m d d' A c l m' A' c' l' W1 (B1.out.keep hb2) (B2.out.keep hb2) hs hs' hdd (R1.out.below hb2) (R2.out.below hb2) hn))
  have HL := Lib.hid hs.len
  have HD := Lib.hid hs.d2
  obtain ⟨L, hLL⟩ : ∃ L, Ser.mulL m d l l' = L := ⟨_, rfl⟩
  unfold Ser.mulL at hLL ⊢
  rw [hLL] at HS ⊢
  clear b1 b2 v3 hwb hW hr hr' hs hs' hLL
  go_enter Try.func86, Try.ntmps86
  go_wp2
  rw [HW.out]
  obtain ⟨x1, x2, x3⟩ := B1.out
  go_region_held3 (fun w' => w'.cell? ⟨w.heap.size, 0, none⟩ = some (.int .i64 m) ∧ w'.cell? ⟨w.heap.size, 1, none⟩ = some (.slice A l.length c) ∧ w.heap.size < w'.heap.size) (first | exact ⟨x1, x2, x3⟩ | exact box_store (by omega) (by assumption) | exact box_call (by assumption) (by assumption)) (first
    | (go_at_call 74; refine (degree_nat _ _ _ _ d _ HL.out (by have := HD.out; omega)).mono ?_; rintro e1 w1 ⟨rfl, hb1⟩)
    | (go_at_call 72; refine (HS.out _ ((below_drew0 W).trans hb1)).mono ?_; rintro e2 w2 ⟨v, rfl, ho2, hb2⟩; obtain ⟨A2, c2, rfl, _⟩ := ho2.form; have hv := V3.out.keep (((below_drew0 W).trans hb1).trans (hb2.mono ((below_drew0 W).trans hb1).size)); have q0 := hv.c0; have q1 := hv.c1; have q2 := hv.fz 0; have q3 := hv.fz 1))
  all_goals
    have hz := ((below_drew0 W).trans hb1).size
    have hg := x3
    have hw2 : Below w.heap.size w w2 := (HB.out.trans (((below_drew0 W).trans hb1).mono HB.out.size)).trans (hb2.mono (by have := HB.out.size; omega))
    obtain ⟨f0, f1, f2, f3⟩ := fin_var (w := w) hv ho2 (by have := V3.out.lt; omega) (by omega) hw2 (.int .i64 m) (.slice A2 L.length c2)
    have F2 := Lib.hid f2
    have F3 := Lib.hid f3
    clear f2 f3 hw2 ho2 hb2 hb1
    go_wp2
    refine bodyPost_ret (v := .agg #[.int .i64 m, .slice A2 L.length c2]) (by simp [results, Try.results86, go_sem, f0, f1]) rfl ⟨_, rfl, F2.out, F3.out⟩
theorem RowOkG.hor {m : Int} {d : Nat} {l l' : List Int} (h : RowOkG m d l) (j : Nat) : RowOkG m d (Ser.horC m d (Ser.co l) (Ser.co l') j) :=
  ⟨h.m1, h.m2, h.d2, Ser.horC_length _ _ _ _ _, Ser.horC_red (by have := h.m1; omega) _ _ _ h.red j⟩
set_option maxHeartbeats 8000000 in
set_option maxRecDepth 100000 in
theorem composedR_anyG (m : Int) (d d' : Nat) (A : Option Addr) (c : Nat) (l : List Int) (m' : Int) (A' : Option Addr) (c' : Nat) (l' : List Int) (w : World) (hs : RowOkG m d l) (hs' : SerOkG m d' l') (hdd : d ≤ d') (hr : RI w A l) (hr' : RI w A' l') :
    Calls Try.prog 89 #[.agg #[.int .i64 m, .slice A l.length c], .agg #[.int .i64 m', .slice A' l'.length c']] w fun e w' => ∃ v, e = .returned (.agg #[.int .i64 m, v]) ∧ OwnI w' w.heap.size v (Ser.cmpL m d l l') ∧ Below w.heap.size w w' := by
  obtain ⟨W, hW⟩ : ∃ W, (((w.alloc (.cells #[.int .i64 m, .slice A l.length c] 62)).alloc (.cells #[.int .i64 m', .slice A' l'.length c'] 62)).alloc (.cells #[.int .i64 0, .slice none 0 0] 62)) = W := ⟨_, rfl⟩
  obtain ⟨b1, b2, v3, hwb⟩ := box3_new w m m' A A' l.length c l'.length c' W hW
  have B1 := Lib.hid b1
  have B2 := Lib.hid b2
  have V3 := Lib.hid v3
  have HB := Lib.hid hwb
  have HW := Lib.hid hW
  have HR := Lib.hid hr
  have HR' := Lib.hid hr'
  have HSZ : w.heap.size + 1 + 1 < W.heap.size := v3.lt
  have m1 := hs.m1
  have m2 := hs.m2
  have hd := hs.d2
  have HS := Lib.hid hs
  have HS' := Lib.hid hs'
  obtain ⟨b, off, rfl, hbb, hcd⟩ := hr.at d (by rw [hs.len]; omega)
  have hcd1 := (hwb.cell (p := ⟨b, off + d, none⟩) hbb).trans hcd
  obtain ⟨X, hX⟩ : ∃ X, Ser.co l d = X := ⟨_, rfl⟩
  obtain ⟨r1, r2⟩ := hs.red d
  rw [hX] at hcd1 r1 r2
  have HDG := Lib.hid (fun W0 => degree_nat m (some ⟨b, off, none⟩) l.length c d W0 hs.len (by omega))
  have HMO := Lib.hid (fun W0 => monomial_anyG m d 0 X W0 (by omega) m2 (by omega) (by omega) (by omega))
  obtain ⟨L0, hL0⟩ : ∃ L0, Ser.cut m d (Ser.mon 0 X) = L0 := ⟨_, rfl⟩
  have HL0 := Lib.hid (show L0 = Ser.horC m d (Ser.co l) (Ser.co l') 1 by rw [← hL0, ← hX]; exact (horC_one (by rw [hX]; exact r1) (by rw [hX]; exact r2)).symm)
  rw [hL0] at HMO
  have z1 : (0 : Int) ≤ (d : Int) := by omega
  have z2 : (d : Int) < (l.length : Int) := by have := hs.len; omega
  have hWb : b < W.heap.size := Nat.lt_of_lt_of_le hbb hwb.size
  clear b1 b2 v3 hwb hW hr hr' hs hs' hcd hX hL0
  go_enter Try.func89, Try.ntmps89
  go_wp2_with fail
  rw [HW.out]
  refine (HDG.out _).mono ?_
  rintro e W1 ⟨rfl, hb1⟩
  have Y1 := Lib.hid (B1.out.keep hb1)
  have Y2 := Lib.hid (B2.out.keep hb1)
  have V1 := Lib.hid (V3.out.keep hb1)
  have HB1 := Lib.hid (below_step HB.out hb1)
  have HSZ1 : w.heap.size + 1 + 1 < W1.heap.size := (V3.out.keep hb1).lt
  have hcd2 := (hb1.cell (p := ⟨b, off + d, none⟩) hWb).trans hcd1
  have hW1b : b < W1.heap.size := Nat.lt_of_lt_of_le hWb hb1.size
  clear hb1 hcd1 HDG B1 B2 V3 HB
  obtain ⟨x1, x2, x3⟩ := Y1.out
  go_wp2
  go_cut [6] (fun s7 wx => ∃ g A1 c1, s7 = .pointer (some ⟨g, 0, none⟩) ∧ Var2 wx g (.int .i64 m) (.slice A1 L0.length c1) ∧ OwnI wx W1.heap.size (.slice A1 L0.length c1) L0 ∧ Below W1.heap.size W1 wx ∧ W1.heap.size ≤ g)
  case first =>
    go_region_held3 (fun w' => (w'.cell? ⟨w.heap.size, 0, none⟩ = some (.int .i64 m) ∧ w'.cell? ⟨w.heap.size, 1, none⟩ = some (.slice (some ⟨b, off, none⟩) l.length c)) ∧ (w'.cell? ⟨b, off + d, none⟩ = some (.int .i64 X)) ∧ Below W1.heap.size W1 w') (first | exact bcb Y1.out hcd2 hW1b (below_drew0 _) | exact bcb Y1.out hcd2 hW1b hbel | exact bcb Y1.out hcd2 hW1b (below_alloc _ (trd (by assumption))) | exact bcb Y1.out hcd2 hW1b (below_alloc _ hbel) | exact bcb Y1.out hcd2 hW1b (reg_fin2 hwg hgc hv hod hbel m).2.2.1 | exact (by assumption)) (first
      | (go_at_call 55; refine (HMO.out _).mono ?_; rintro e wd ⟨sd, rfl, hod, hbd⟩; obtain ⟨Ad, cd, rfl, -⟩ := hod.form; obtain ⟨hbel, hle⟩ := reg_end (by assumption) hbd; first | (refine use_it (var_keep (Var2.new _ _ _).drew hbd) ?_; rintro ⟨hv, hgc⟩; have hwg := var_at (k := W1.heap.size) hv (Nat.le_refl _); have q0 := hv.c0; have q1 := hv.c1; have q2 := hv.fz 0; have q3 := hv.fz 1) | (refine use_it (var_keep (Var2.new _ _ _) hbd) ?_; rintro ⟨hv, hgc⟩; have hwg := var_at (k := W1.heap.size) hv (Nat.le_refl _); have q0 := hv.c0; have q1 := hv.c1; have q2 := hv.fz 0; have q3 := hv.fz 1) | skip))
    all_goals
      go_wp2_with fail
      go_meet
      case rel => first | exact ⟨_, _, _, rfl, reg_new2 hle hod hbel m⟩ | exact ⟨_, _, _, rfl, reg_fin2 hwg hgc hv hod hbel m⟩
  case rest =>
    obtain ⟨w2, hwc⟩ : ∃ w9, w9 = wc := ⟨_, rfl⟩
    subst hwc
    obtain ⟨g7, A7, c7, rfl, v7, o7, hb7, hg7⟩ := hcut
    rw [HL0.out] at v7 o7
    rw [Ser.horC_length] at v7 o7
    have O7 := Lib.hid o7
    have V7 := Lib.hid v7
    have B7 := Lib.hid hb7
    clear v7 o7 hb7 HMO x1 x2 x3 hcd2
    go_wp2
    go_loopw [7] (fun s7 wr => ∃ (j t : Nat) (I : Int) (A1 : Option Addr) (c1 : Nat), j + t = d ∧ I = (t : Int) - 1 ∧ s7 = .int .i64 I ∧ Var2 wr g7 (.int .i64 m) (.slice A1 (d + 1) c1) ∧ OwnI wr W1.heap.size (.slice A1 (d + 1) c1) (Ser.horC m d (Ser.co l) (Ser.co l') (j + 1)) ∧ Below W1.heap.size W1 wr) (fun s7 _ => (intOf s7 + 1).toNat)
    case atStart => exact ⟨0, d, _, A7, c7, by omega, rfl, rfl, V7.out, O7.out, B7.out⟩
    case round =>
      obtain ⟨j, t, I, A1, c1, hjt, hI, rfl, v1, o1, hb1⟩ := hrel
      have VV := Lib.hid v1
      have OO := Lib.hid o1
      have BB := Lib.hid hb1
      have YA := Lib.hid (Y1.out.keep hb1)
      have YB := Lib.hid (Y2.out.keep hb1)
      have VR := Lib.hid (V1.out.keep hb1)
      have RA := Lib.hid (HR.out.below (below_step HB1.out hb1))
      have RB := Lib.hid (HR'.out.below (below_step HB1.out hb1))
      clear v1 o1 hb1 V7 O7 B7
      rcases t with _ | i
      · obtain rfl : j = d := by omega
        obtain rfl : I = -1 := by omega
        clear hI hjt
        have hfin : Ser.horC m j (Ser.co l) (Ser.co l') (j + 1) = Ser.cmpL m j l l' := rfl
        have o1 := OO.out
        rw [hfin] at o1
        have z3 := VV.out.c0
        have z4 := VV.out.c1
        have z5 := VR.out.c0
        have z6 := VR.out.c1
        have z7 := VR.out.fz 0
        have z8 := VR.out.fz 1
        have f2 := (VR.out.set2 (.int .i64 m) (.slice A1 (j + 1) c1))
        have F1 := f2.c0
        have F2 := f2.c1
        have F3 := Lib.hid ((o1.set2 VR.out (.int .i64 m) (.slice A1 (j + 1) c1)).more (show w.heap.size ≤ W1.heap.size by omega))
        have F4 := Lib.hid (below_set2 (below_step HB1.out BB.out) (by omega : w.heap.size ≤ w.heap.size + 1 + 1) (.int .i64 m) (.slice A1 (j + 1) c1))
        unfold set2 at F1 F2 F3 F4
        clear f2 o1 hfin
        go_wp2
        exact bodyPost_ret (v := .agg #[.int .i64 m, .slice A1 (j + 1) c1]) (by simp [results, Try.results89, go_sem, F1, F2]) rfl ⟨_, rfl, F3.out, F4.out⟩
      · obtain rfl : I = (i : Int) := by omega
        clear hI
        have sh : RowOkG m d (Ser.horC m d (Ser.co l) (Ser.co l') (j + 1)) := HS.out.hor _
        have ht := timesR_anyG m d d' A1 c1 _ m' A' c' l' wr sh HS'.out hdd (by have := OO.out.form; obtain ⟨A0, c0, he, hri⟩ := this; rw [Ser.horC_length] at he; injection he with e1; rw [e1]; exact hri) RB.out
        rw [Ser.horC_length] at ht
        have HT := Lib.hid ht
        obtain ⟨L3, hL3⟩ : ∃ L3, Ser.mulL m d (Ser.horC m d (Ser.co l) (Ser.co l') (j + 1)) l' = L3 := ⟨_, rfl⟩
        have hlen3 : L3.length = d + 1 := by rw [← hL3, Ser.mulL_length]
        rw [hL3] at HT
        have hst : L3.set 0 (Ser.co l i) = Ser.horC m d (Ser.co l) (Ser.co l') (j + 1 + 1) := by
          rw [← hL3]
          have e : d - (j + 1) = i := by omega
          show (Ser.cut m d (Ser.mul (Ser.co (Ser.horC m d (Ser.co l) (Ser.co l') (j + 1))) (Ser.co l'))).set 0 (Ser.co l i) = (Ser.cut m d (Ser.mul (Ser.co (Ser.horC m d (Ser.co l) (Ser.co l') (j + 1))) (Ser.co l'))).set 0 (Ser.co l (d - (j + 1)))
          rw [e]
        obtain ⟨x3, x4⟩ := (⟨VV.out.c0, VV.out.c1⟩ : _ ∧ _)
        obtain ⟨y3, y4, -⟩ := YB.out
        clear ht sh hL3
        go_wp2_with fail
        refine HT.out.mono ?_
        rintro e w3 ⟨s3, rfl, ho3, hb3⟩
        obtain ⟨g3, c3, rfl⟩ := ho3.openv (by intro h; rw [h] at hlen3; simp at hlen3)
        rw [hlen3] at ho3 ⊢
        have v3 := VV.out.keep hb3
        have q5 := v3.c0
        have q6 := v3.c1
        have q7 := v3.fz 0
        have q8 := v3.fz 1
        clear x3 x4 y3 y4
        have hb9 := below_step BB.out hb3
        obtain ⟨X9, hX9⟩ : ∃ X9, set2 w3 g7 (.int .i64 m) (.slice (some ⟨g3, 0, none⟩) (d + 1) c3) = X9 := ⟨_, rfl⟩
        have vx : Var2 X9 g7 (.int .i64 m) (.slice (some ⟨g3, 0, none⟩) (d + 1) c3) := by rw [← hX9]; exact v3.set2 _ _
        have ox : OwnI X9 wr.heap.size (.slice (some ⟨g3, 0, none⟩) (d + 1) c3) L3 := by rw [← hX9]; exact ho3.set2 v3 _ _
        have bx : Below W1.heap.size W1 X9 := by rw [← hX9]; exact below_set2 hb9 hg7 _ _
        have ya : Box X9 w.heap.size m (some ⟨b, off, none⟩) l.length c := Y1.out.keep bx
        obtain ⟨b', off', hbe, hbb', hci⟩ := (HR.out.below (below_step HB1.out bx)).at i (by have := HS.out.len; omega)
        injection hbe with hbe
        injection hbe with hbe1 hbe2
        subst hbe1 hbe2
        obtain ⟨Z, hZ⟩ : ∃ Z, Ser.co l i = Z := ⟨_, rfl⟩
        rw [hZ] at hci hst
        obtain ⟨-, -, o3, o4⟩ := ox.cells
        have d1 := o3 0 (by omega)
        have f1 := o4 0
        have hset := ox.set 0 Z
        rw [hst] at hset
        have hg3 := (ox.lt g3 rfl).1
        have hwr := BB.out.size
        have HSET := Lib.hid (hset.more hwr)
        have ne2 : g3 ≠ g7 := fun e => own_ne_var vx ox (by rw [e]; rfl)
        have V9 := Lib.hid (vx.far g3 0 (.int .i64 Z) ne2)
        have BX := Lib.hid (bx.setCell (p := ⟨g3, 0, none⟩) (by show W1.heap.size ≤ g3; omega) (.int .i64 Z)).drew
        obtain ⟨x5, x6, -⟩ := ya
        obtain ⟨x7, x8⟩ := (⟨vx.c0, vx.c1⟩ : _ ∧ _)
        have j0 : (0 : Int) ≤ (i : Int) := by omega
        have j1 : (i : Int) < (l.length : Int) := by have := HS.out.len; omega
        have j2 : (0 : Int) < (d : Int) + 1 := by omega
        unfold set2 at hX9
        have HX := Lib.hid hX9
        clear ho3 hb3 v3 hb9 vx ox bx hZ hst o3 o4 hset hX9
        go_upto_region 7 with fail
        rw [HX.out]
        clear HX q5 q6 q7 q8
        go_still_tail 8, (by kernel_rfl)
        change wpList _ _ _ _ _ X9.drew
        go_wp2
        go_roundw
        case rel => exact ⟨j + 1, i, _, _, c3, by omega, rfl, by first | rfl | go_num, V9.out, HSET.out, BX.out⟩
        case measure => simp only [intOf]; omega
theorem wcy_rowG {m : Int} {d : Nat} {t : List (List Int)} {l' : List Int} (hs : Pl.OkG m d t) (hz : Ser.co l' 0 = 0) (k : Nat) : Ser.cmpL m (d - k) (Pl.rw' t k) l' = Ser.cut m (d - k) (wcyF t l' k) :=
  Ser.cmpL_cut (by have := hs.m1; omega) hz (hs.red k)
set_option maxHeartbeats 4000000 in
set_option maxRecDepth 100000 in
theorem withCurveInY_anyG (m : Int) (d : Nat) (A : Option Addr) (c : Nat) (t : List (List Int)) (A' : Option Addr) (c' : Nat) (l' : List Int) (w : World) (hs : Pl.OkG m d t) (hs' : SerOkG m d l') (hz : Ser.co l' 0 = 0) (hr : RP w A t) (hr' : RI w A' l') :
    Calls Try.prog 84 #[.agg #[.int .i64 m, .int .i64 d, .slice A t.length c], .agg #[.int .i64 m, .slice A' l'.length c']] w fun e w' => ∃ v, e = .returned (.agg #[.int .i64 m, .int .i64 d, v]) ∧ OwnR w' w.heap.size w'.heap.size v (Pl.tab m d (wcyF t l')) ∧ Below w.heap.size w w' := by
  obtain ⟨W, hW, b1, b2, v3, hwb⟩ := gproB w m d A t.length c m A' l'.length c'
  obtain ⟨b, off, rfl, hbb, hrow⟩ := hr (by intro e; have := hs.len; rw [e] at this; simp at this)
  have HROW := Lib.hid hrow
  have HCP := Lib.hid (fun (k : Nat) (Ak : Option Addr) (ck : Nat) (W0 : World) (hk : k ≤ d) (h : RI W0 Ak (Pl.rw' t k)) (h' : RI W0 A' l') => by
    have := composedR_anyG m (d - k) d Ak ck (Pl.rw' t k) m A' c' l' W0 (hs.rowOk k hk) hs' (by omega) h h'
    rw [wcy_rowG hs hz k] at this
    exact this)
  have HRL := Lib.hid (fun k (hk : k ≤ d) => hs.row k hk)
  have HR' := Lib.hid hr'
  have B1 := Lib.hid b1
  have B2 := Lib.hid b2
  have V3 := Lib.hid v3
  have HB := Lib.hid hwb
  have HW := Lib.hid hW
  have HWS : Hid (W.heap.size = w.heap.size + 1 + 1 + 1) := Lib.hid (by rw [← hW]; simp)
  have hd2 := hs.d2
  have hl := hs.len
  obtain ⟨L, hL⟩ : ∃ L, t.length = L := ⟨_, rfl⟩
  rw [hL] at HW B1 hl HROW ⊢
  have hsz3 := v3.lt
  have hmk : ∀ W : World, (Instr.makeSlice 23 (.int .i64 (L : Int)) (.int .i64 (L : Int))).run Try.prog W = .ok (.slice (some ⟨W.heap.size, 0, none⟩) L L) (W.alloc (.cells (madeCells #[Value.slice none 0 0] L) 22)) := by
    intro W
    exact run_make_row' (P := Try.prog) 23 22 (.slice none 0 0) 24 Try.underlying23 infoRow rfl .i64 .i64 L (by omega) (by omega) W
  obtain ⟨f, hf⟩ : ∃ f, wcyF t l' = f := ⟨_, rfl⟩
  rw [hf] at HCP ⊢
  obtain ⟨l, hll⟩ : ∃ n, l'.length = n := ⟨_, rfl⟩
  rw [hll] at HCP HW B2 ⊢
  have HLd := Lib.hid hl
  have hLb : L ≤ 11 := by omega
  have hfd := fun (a b : Value) (W : World) => (show (Instr.field 62 (.agg #[a, b]) 1).run Try.prog W = .ok b W by kernel_rfl)
  obtain ⟨x1, x2, x3, x4⟩ := b1
  rw [hL] at x3
  clear b2 v3 hwb hW hr hr' hs hs' hL hf hll hrow hz hl
  go_enter Try.func84, Try.ntmps84
  go_wp2
  rw [HW.out]
  go_wp2
  go_loopw [6, 7, 15] (fun _ _ i wr => ∃ k : Nat, k ≤ L ∧ i = .int .i64 k ∧ OwnR wr (w.heap.size + 1 + 1 + 1) wr.heap.size (.slice (some ⟨w.heap.size + 1 + 1 + 1, 0, none⟩) L L) ((Pl.tab m d f).take k ++ List.replicate (d + 1 - k) []) ∧ Below W.heap.size W wr) (fun _ _ i _ => L - (intOf i).toNat)
  case atStart =>
    refine ⟨0, Nat.zero_le _, rfl, ?_, below_one _ _⟩
    have h := OwnR.made W L (by unfold maxLen; omega)
    rw [HWS.out] at h
    rw [← HLd.out]
    simpa [HWS.out] using h
  case round =>
    clear hmk x1 x2 x3 x4
    obtain ⟨k, hk, rfl, hown, hbel⟩ := hrel
    have HO := Lib.hid hown
    have HBW := Lib.hid hbel
    obtain ⟨y1, y2, y3, -⟩ := B1.out.keep hbel
    obtain ⟨z1, z2, -⟩ := B2.out.keep hbel
    clear hown hbel
    by_cases hlt : k < L
    · obtain ⟨Ak, ck, h1, h2, h3⟩ := HROW.out k hlt
      have h1 := ((below_step HB.out HBW.out).cell (p := ⟨b, off + k, none⟩) hbb).trans h1
      have h3 := h3.below (below_step HB.out HBW.out)
      have HCK := Lib.hid (HCP.out k Ak ck wr (by have := HLd.out; omega) h3 (HR'.out.below (below_step HB.out HBW.out)))
      have hrl := HRL.out k (by have := HLd.out; omega)
      obtain ⟨n, hn⟩ : ∃ n, (Pl.rw' t k).length = n := ⟨_, rfl⟩
      rw [hn] at h1 h2 HCK
      obtain ⟨R, hR⟩ : ∃ R, Ser.cut m (d - k) (f k) = R := ⟨_, rfl⟩
      rw [hR] at HCK
      have HR := Lib.hid hR
      have j0 : (0 : Int) ≤ (k : Int) := by omega
      have j1 : (k : Int) < (L : Int) := by omega
      clear h2 h3 hrl hn hR
      go_wp2_with fail
      refine HCK.out.mono ?_
      rintro e w1 ⟨v1, rfl, ho, hb1⟩
      obtain ⟨A1, c1, rfl, -⟩ := ho.form
      have hlen : k < ((Pl.tab m d f).take k ++ List.replicate (d + 1 - k) []).length := by have := Pl.tab_length m d f; have := HLd.out; simp; omega
      have ho1 := HO.out.keep hb1
      obtain ⟨_, o2, _, o4, _, _, o5, _⟩ := ho1.cell k hlen
      have hput := ho1.put k hlen (.slice A1 R.length c1) R (ho.more (by rw [← HWS.out]; exact HBW.out.size)) (hi' := w1.heap.size) (fun b hb => ho.lt b hb) hb1.size
      rw [← HR.out, Pl.tab_step m d f k (by have := HLd.out; omega), Pl.tab_done m d f k (by have := HLd.out; omega)] at hput
      have hbx : Below W.heap.size W (w1.setCell ⟨w.heap.size + 1 + 1 + 1, k, none⟩ (.slice A1 R.length c1)) := (below_step HBW.out hb1).setCell (by show W.heap.size ≤ w.heap.size + 1 + 1 + 1; rw [HWS.out]; exact Nat.le_refl _) _
      rw [HR.out] at hput
      have HP := Lib.hid hput
      have HBX := Lib.hid hbx
      have hs1 : w1.heap.size ≤ (w1.setCell ⟨w.heap.size + 1 + 1 + 1, k, none⟩ (.slice A1 R.length c1)).heap.size := by show _ ≤ (w1.heap.modify _ _).size; simp
      have HS1 := Lib.hid hs1
      clear ho ho1 hput hbx hb1 hlen hs1 o2 y1 y2 y3 z1 z2 h1
      go_wp2
      go_roundw
      case rel => exact ⟨k + 1, by omega, by go_num, HP.out.more HS1.out, HBX.out⟩
      case measure => simp only [intOf]; omega
    · obtain rfl : k = L := by omega
      have ho := HO.out
      rw [HLd.out, Pl.tab_take_all, Nat.sub_self, List.replicate_zero, List.append_nil] at ho
      have hv := V3.out.keep HBW.out
      obtain ⟨q0, q1, q2, q3, q4, q5⟩ := hv.tells3
      obtain ⟨f0, f1, f2, f3, f4⟩ := fin_grid (w := w) hv ho (by omega) (by omega) (Nat.le_refl _) (below_step HB.out HBW.out) (.int .i64 m) (.int .i64 d) (.slice (some ⟨w.heap.size + 1 + 1 + 1, 0, none⟩) (d + 1) (d + 1))
      have F3 := Lib.hid (f3.low (show w.heap.size ≤ w.heap.size + 1 + 1 + 1 by omega))
      have F4 := Lib.hid f4
      have hkd := HLd.out
      subst hkd
      unfold set3 at f0 f1 f2
      clear f3 f4 ho hv HO
      go_wp2
      exact bodyPost_ret (v := .agg #[.int .i64 m, .int .i64 d, .slice (some ⟨w.heap.size + 1 + 1 + 1, 0, none⟩) (d + 1) (d + 1)]) (by simp [results, Try.results84, go_sem, f0, f1, f2]) rfl ⟨_, rfl, F3.out, F4.out⟩
set_option maxHeartbeats 8000000 in
set_option maxRecDepth 100000 in
theorem withCurves_anyG (m : Int) (d : Nat) (A : Option Addr) (c : Nat) (t : List (List Int)) (A1 : Option Addr) (c1 : Nat) (l1 : List Int) (A2 : Option Addr) (c2 : Nat) (l2 : List Int) (w : World) (hs : Pl.OkG m d t) (s1 : SerOkG m d l1) (s2 : SerOkG m d l2) (z1 : Ser.co l1 0 = 0) (z2 : Ser.co l2 0 = 0) (hr : RP w A t) (hr1 : RI w A1 l1) (hr2 : RI w A2 l2) :
    Calls Try.prog 63 #[.agg #[.int .i64 m, .int .i64 d, .slice A t.length c], .agg #[.int .i64 m, .slice A1 l1.length c1], .agg #[.int .i64 m, .slice A2 l2.length c2]] w fun e w' => ∃ v, e = .returned (.agg #[.int .i64 m, .int .i64 d, v]) ∧ OwnR w' w.heap.size w'.heap.size v (Pl.botT m d (Pl.pc t) l1 l2) ∧ Below w.heap.size w w' := by
  obtain ⟨W, hW, b1, b2, b3, v4, hwb⟩ := gproC w m d A t.length c m A1 l1.length c1 m A2 l2.length c2
  have H1 := Lib.hid (fun W0 (h : Below W.heap.size W W0) => withCurveInY_anyG m d A c t A2 c2 l2 W0 hs s2 z2 ((hr.below hwb).below h) ((hr2.below hwb).below h))
  have htab := wc_tables (m := m) (d := d) (t := t) z1 z2
  obtain ⟨T1, hT1⟩ : ∃ T1, Pl.tab m d (wcyF t l2) = T1 := ⟨_, rfl⟩
  have ok1 : Pl.OkG m d T1 := by rw [← hT1]; exact hs.tab _
  rw [hT1] at H1 htab
  have H2 := Lib.hid (fun W0 (A0 : Option Addr) (c0 : Nat) (h : RP W0 A0 T1) => turned_anyG m d A0 c0 T1 W0 ok1 h)
  obtain ⟨T2, hT2⟩ : ∃ T2, (Pl.tab m d fun i j => Pl.pc T1 j i) = T2 := ⟨_, rfl⟩
  have ok2 : Pl.OkG m d T2 := by rw [← hT2]; exact hs.tab _
  rw [hT2] at H2 htab
  have H3 := Lib.hid (fun W0 (A0 : Option Addr) (c0 : Nat) (hb : Below W.heap.size W W0) (h : RP W0 A0 T2) => withCurveInY_anyG m d A0 c0 T2 A1 c1 l1 W0 ok2 s1 z1 h ((hr1.below hwb).below hb))
  obtain ⟨T3, hT3⟩ : ∃ T3, Pl.tab m d (wcyF T2 l1) = T3 := ⟨_, rfl⟩
  have ok3 : Pl.OkG m d T3 := by rw [← hT3]; exact hs.tab _
  rw [hT3] at H3 htab
  have H4 := Lib.hid (fun W0 (A0 : Option Addr) (c0 : Nat) (h : RP W0 A0 T3) => turned_anyG m d A0 c0 T3 W0 ok3 h)
  obtain ⟨T4, hT4⟩ : ∃ T4, Pl.botT m d (Pl.pc t) l1 l2 = T4 := ⟨_, rfl⟩
  rw [hT4] at htab ⊢
  rw [htab] at H4
  obtain ⟨B1, B2, B3⟩ := (⟨b1, b2, b3⟩ : _ ∧ _ ∧ _)
  have V4 := Lib.hid v4
  have HB := Lib.hid hwb
  have HW := Lib.hid hW
  obtain ⟨L, hL⟩ : ∃ L, t.length = L := ⟨_, rfl⟩
  obtain ⟨n1, hn1⟩ : ∃ L, l1.length = L := ⟨_, rfl⟩
  obtain ⟨n2, hn2⟩ : ∃ L, l2.length = L := ⟨_, rfl⟩
  rw [hL] at H1 HW B1 ⊢
  rw [hn1] at H3 HW B2 ⊢
  rw [hn2] at H1 HW B3 ⊢
  have X0 := Lib.hid (k3_call (below_drew0 W) ⟨B1, B2, B3⟩)
  obtain ⟨p1, p2, p3⟩ : (w.heap.size + 1 + 1 + 1 ≠ w.heap.size) ∧ (w.heap.size + 1 + 1 + 1 ≠ w.heap.size + 1) ∧ (w.heap.size + 1 + 1 + 1 ≠ w.heap.size + 1 + 1) := ⟨by omega, by omega, by omega⟩
  have E1 := Lib.hid p1
  have E2 := Lib.hid p2
  have E3 := Lib.hid p3
  clear b1 b2 b3 v4 hwb hW hr hr1 hr2 hs s1 s2 z1 z2 hL hn1 hn2 hT1 hT2 hT3 hT4 htab ok1 ok2 ok3 B1 B2 B3 p1 p2 p3
  go_enter Try.func63, Try.ntmps63
  go_wp2
  rw [HW.out]
  go_region_held3 (fun w' => (w'.cell? ⟨w.heap.size, 0, none⟩ = some (.int .i64 m) ∧ w'.cell? ⟨w.heap.size, 1, none⟩ = some (.int .i64 d) ∧ w'.cell? ⟨w.heap.size, 2, none⟩ = some (.slice A L c) ∧ w.heap.size < w'.heap.size) ∧ (w'.cell? ⟨w.heap.size + 1, 0, none⟩ = some (.int .i64 m) ∧ w'.cell? ⟨w.heap.size + 1, 1, none⟩ = some (.slice A1 n1 c1) ∧ w.heap.size + 1 < w'.heap.size) ∧ (w'.cell? ⟨w.heap.size + 1 + 1, 0, none⟩ = some (.int .i64 m) ∧ w'.cell? ⟨w.heap.size + 1 + 1, 1, none⟩ = some (.slice A2 n2 c2) ∧ w.heap.size + 1 + 1 < w'.heap.size)) (first | exact X0.out | exact k3_call bd (by assumption) | exact k3_call bc (by assumption) | exact k3_call bb (by assumption) | exact k3_call ba (by assumption) | exact k3_store E1.out E2.out E3.out (by assumption)) (first
    | (go_at_call 84; with_reducible refine Calls.mono (H1.out _ (below_drew0 W)) ?_; rintro e wa ⟨sa, rfl, oa, ba⟩; obtain ⟨Aa, ca, rfl, -⟩ := oa.len)
    | (go_at_call 82; with_reducible refine Calls.mono (H2.out _ _ _ oa.rp) ?_; rintro e wb ⟨sb, rfl, ob, bb⟩; obtain ⟨Ab, cb, rfl, -⟩ := ob.len)
    | (go_at_call 84; with_reducible refine Calls.mono (H3.out _ _ _ (below_step (below_step (below_drew0 W) ba) bb) ob.rp) ?_; rintro e wc ⟨sc, rfl, oc, bc⟩; obtain ⟨Ac, cc, rfl, -⟩ := oc.len)
    | (go_at_call 82; with_reducible refine Calls.mono (H4.out _ _ _ oc.rp) ?_; rintro e wd ⟨sd, rfl, od, bd⟩; obtain ⟨Ad, cd, rfl, -⟩ := od.len; have hv := V4.out.keep (below_step (below_step (below_step (below_step (below_drew0 W) ba) bb) bc) bd); obtain ⟨q0, q1, q2, q3, q4, q5⟩ := hv.tells3))
  all_goals
    have hb5 := below_step (below_step (below_step (below_drew0 W) ba) bb) bc
    have hsz := hb5.size
    have hlt := V4.out.lt
    have hlo := HB.out.size
    obtain ⟨f0, f1, f2, f3, f4⟩ := fin_grid (w := w) hv od (by omega) (by omega) (Nat.le_refl _) (below_step HB.out (below_step hb5 bd)) (.int .i64 m) (.int .i64 d) (.slice Ad T4.length cd)
    have F3 := Lib.hid (f3.low (lo' := w.heap.size) (by omega))
    have F4 := Lib.hid f4
    unfold set3 at f0 f1 f2
    clear f3 f4 od hv hb5 ba bb bc bd oa ob oc
    go_wp2
    exact bodyPost_ret (v := .agg #[.int .i64 m, .int .i64 d, .slice Ad T4.length cd]) (by simp [results, Try.results63, go_sem, f0, f1, f2]) rfl ⟨_, rfl, F3.out, F4.out⟩
end Go.Proofs.Ytfhdgcndiljjcab

/- Copies with great moduli, up to 10^8: written by wip/tools/mk_bga.py out of Rvs, Llg. -/
namespace Go.Proofs.Ytfhdgcndiljjcab
open Go.RowKit Go.WideShapes Go.ChangeShapes Go.ChangeAt

theorem SerOkG.lag2 {m u : Int} {d : Nat} {l : List Int} (h : SerOkG m d l) (f : Nat → Int) (n : Nat) : SerOkG m d (Ser.lagG m u f d n).2 :=
  ⟨h.m1, h.m2, h.d1, h.d2, Ser.lagG_len2 _ _ _ _ _, Ser.lagG_red2 (by have := h.m1; omega) _ _ _ _⟩
theorem SerOkG.sca {m : Int} {d : Nat} {l : List Int} (h : SerOkG m d l) (l' : List Int) (k : Int) : SerOkG m d (scaL m d l' k) := by unfold scaL; exact h.cut _
theorem scaled_atG {X : World} {base : Nat} {m : Int} {d : Nat} {A : Option Addr} {c : Nat} {l : List Int} {k : Int} (hs : SerOkG m d l) (ho : OwnI X base (.slice A (d + 1) c) l) (h5 : -100000000 ≤ k) (h6 : k ≤ 100000000) (W0 : World) (h : Below X.heap.size X W0) :
    Calls Try.prog 56 #[.agg #[.int .i64 m, .slice A (d + 1) c], .int .i64 k] W0 fun e w' => ∃ A5 c5, e = .returned (.agg #[.int .i64 m, .slice A5 (d + 1) c5]) ∧ RI w' A5 (scaL m d l k) ∧ Below W0.heap.size W0 w' := by
  have := scaled_anyG m d A c l k W0 hs ((ri_len ho).below h) h5 h6
  rw [hs.len] at this
  refine this.mono ?_
  rintro e w' ⟨v, rfl, ho, hb⟩
  obtain ⟨A5, c5, rfl, hr⟩ := ho.form
  exact ⟨A5, c5, by rw [scaL_len], hr, hb⟩
theorem plus_atG {X : World} {base : Nat} {m : Int} {d : Nat} {A : Option Addr} {c : Nat} {l l' : List Int} (hs : SerOkG m d l) (hs' : SerOkG m d l') (ho : OwnI X base (.slice A (d + 1) c) l) (W0 : World) (h : Below X.heap.size X W0) (A' : Option Addr) (c' : Nat) (hr' : RI W0 A' l') :
    Calls Try.prog 59 #[.agg #[.int .i64 m, .slice A (d + 1) c], .agg #[.int .i64 m, .slice A' (d + 1) c']] W0 fun e w' => ∃ A6 c6, e = .returned (.agg #[.int .i64 m, .slice A6 (d + 1) c6]) ∧ OwnI w' W0.heap.size (.slice A6 (d + 1) c6) (addL m d l l') ∧ Below W0.heap.size W0 w' := by
  have := plus_anyG m d A c l m A' c' l' W0 hs hs' ((ri_len ho).below h) hr'
  rw [hs.len, hs'.len] at this
  refine this.mono ?_
  rintro e w' ⟨v, rfl, ho, hb⟩
  obtain ⟨A6, c6, rfl, hr⟩ := ho.form
  have e : (Ser.cut m d fun n => Ser.co l n + Ser.co l' n) = addL m d l l' := rfl
  rw [e] at ho ⊢
  rw [addL_len] at ho ⊢
  exact ⟨A6, c6, rfl, ho, hb⟩
set_option maxHeartbeats 16000000 in
set_option maxRecDepth 100000 in
theorem reversed_anyG (m : Int) (d : Nat) (A : Option Addr) (c : Nat) (l : List Int) (u : Int) (w : World) (hs : SerOkG m d l) (hr : RI w A l) (u1 : 0 ≤ u) (u2 : u < m) :
    Calls Try.prog 65 #[.agg #[.int .i64 m, .slice A l.length c], .int .i64 u] w fun e w' => ∃ v, e = .returned (.agg #[.int .i64 m, v]) ∧ OwnI w' w.heap.size v (Ser.lagG m u (Ser.co l) d d).1 ∧ Below w.heap.size w w' := by
  obtain ⟨W, hW, b1, v3, hwb⟩ := spro1 w m A l.length c
  have B1 := Lib.hid b1
  have V3 := Lib.hid v3
  have HB := Lib.hid hwb
  have HW := Lib.hid hW
  have HR0 := Lib.hid hr
  have HSZ : w.heap.size + 1 < W.heap.size := v3.lt
  have m1 := hs.m1
  have m2 := hs.m2
  have hd := hs.d2
  have hd1 := hs.d1
  have hm0 : ¬ m = 0 := by omega
  have HDG := Lib.hid (fun W0 => degree_nat m A l.length c d W0 hs.len (by omega))
  have HM1 := Lib.hid (fun W0 => monomial_anyG m d 0 0 W0 (by omega) m2 (by omega) (by omega) (by omega))
  have HM2 := Lib.hid (fun W0 => monomial_anyG m d 1 1 W0 (by omega) m2 (by omega) (by omega) (by omega))
  have HM3 := Lib.hid (fun W0 => monomial_anyG m d 0 1 W0 (by omega) m2 (by omega) (by omega) (by omega))
  have HSO := Lib.hid hs
  obtain ⟨x1, x2, x3⟩ := b1
  clear v3 hwb hW hr hs
  go_enter Try.func65, Try.ntmps65
  go_wp2
  rw [HW.out]
  go_region_held3 (fun w' => w'.cell? ⟨w.heap.size, 0, none⟩ = some (.int .i64 m) ∧ w'.cell? ⟨w.heap.size, 1, none⟩ = some (.slice A l.length c) ∧ w.heap.size < w'.heap.size) (first | exact ⟨x1, x2, x3⟩ | exact (by assumption) | exact box_call (by assumption) (by assumption)) (first
    | (go_at_call 74; refine (HDG.out _).mono ?_; rintro e1 W1 ⟨rfl, hb1⟩))
  all_goals
    have hb2 := below_step (below_drew0 _) hb1
    have Y1 := Lib.hid (B1.out.keep hb2)
    have V1 := Lib.hid (V3.out.keep hb2)
    have HB1 := Lib.hid (below_step HB.out hb2)
    have HSZ1 : w.heap.size + 1 < W1.heap.size := (V3.out.keep hb2).lt
    clear hb1 hb2 x1 x2 x3 B1 V3 HB HW HDG
    go_wp2_with fail
    refine (HM1.out _).mono ?_
    rintro e w2 ⟨s2, rfl, ho2, hb2⟩
    have hlg := Ser.cut_length m d (Ser.mon 0 0)
    obtain ⟨gG, cG, rfl⟩ := ho2.openv (by intro h; rw [h] at hlg; simp at hlg)
    rw [hlg] at ho2 ⊢
    obtain ⟨Wa, hWa⟩ : ∃ Wa, w2.alloc (.cells #[.int .i64 m, .slice (some ⟨gG, 0, none⟩) (d + 1) cG] 62) = Wa := ⟨_, rfl⟩
    have va : Var2 Wa w2.heap.size (.int .i64 m) (.slice (some ⟨gG, 0, none⟩) (d + 1) cG) := by rw [← hWa]; exact Var2.new _ _ _
    have oa : OwnI Wa W1.heap.size (.slice (some ⟨gG, 0, none⟩) (d + 1) cG) (Ser.lagG m u (Ser.co l) d 0).1 := by rw [← hWa]; exact ho2.keep (below_one _ _)
    have ba : Below W1.heap.size W1 Wa := by rw [← hWa]; exact below_alloc _ hb2
    have hga := (oa.lt gG rfl)
    obtain ⟨g7, hg7⟩ : ∃ g7, w2.heap.size = g7 := ⟨_, rfl⟩
    have hg7l : W1.heap.size ≤ g7 := by rw [← hg7]; exact hb2.size
    have hne7 := own_ne_var va oa
    rw [hg7] at va
    have VA := Lib.hid va
    have OA := Lib.hid oa
    have BA := Lib.hid ba
    have HWA := Lib.hid hWa
    clear hWa va oa ba ho2 hb2 HM1 hlg
    go_wp2_with fail
    rw [HWA.out]
    refine (HM2.out _).mono ?_
    rintro e w3 ⟨s3, rfl, ho3, hb3⟩
    obtain ⟨A8, c8, rfl, -⟩ := ho3.form
    rw [Ser.cut_length] at ho3 ⊢
    obtain ⟨Wb, hWb⟩ : ∃ Wb, w3.alloc (.cells #[.int .i64 m, .slice A8 (d + 1) c8] 62) = Wb := ⟨_, rfl⟩
    have vb : Var2 Wb w3.heap.size (.int .i64 m) (.slice A8 (d + 1) c8) := by rw [← hWb]; exact Var2.new _ _ _
    have ob : OwnI Wb Wa.heap.size (.slice A8 (d + 1) c8) (Ser.lagG m u (Ser.co l) d 0).2 := by rw [← hWb]; exact ho3.keep (below_one _ _)
    have bb : Below Wa.heap.size Wa Wb := by rw [← hWb]; exact below_alloc _ hb3
    obtain ⟨g8, hg8⟩ : ∃ g8, w3.heap.size = g8 := ⟨_, rfl⟩
    have hg8l : Wa.heap.size ≤ g8 := by rw [← hg8]; exact hb3.size
    rw [hg8] at vb
    have VB := Lib.hid vb
    have OB := Lib.hid ob
    have BB := Lib.hid bb
    have HWB := Lib.hid hWb
    clear hWb vb ob bb ho3 hb3 HM2 HWA
    go_wp2_with fail
    rw [HWB.out]
    refine (HM3.out _).mono ?_
    rintro e w4 ⟨s4, rfl, ho4, hb4⟩
    obtain ⟨A9, c9, rfl, -⟩ := ho4.form
    rw [Ser.cut_length] at ho4 ⊢
    obtain ⟨Wc, hWc⟩ : ∃ Wc, w4.alloc (.cells #[.int .i64 m, .slice A9 (d + 1) c9] 62) = Wc := ⟨_, rfl⟩
    have vc : Var2 Wc w4.heap.size (.int .i64 m) (.slice A9 (d + 1) c9) := by rw [← hWc]; exact Var2.new _ _ _
    have oc : OwnI Wc Wb.heap.size (.slice A9 (d + 1) c9) (Ser.cut m d (Ser.pw (Ser.co l) 0)) := by rw [← hWc]; exact ho4.keep (below_one _ _)
    have bc : Below Wb.heap.size Wb Wc := by rw [← hWc]; exact below_alloc _ hb4
    obtain ⟨g9, hg9⟩ : ∃ g9, w4.heap.size = g9 := ⟨_, rfl⟩
    have hg9l : Wb.heap.size ≤ g9 := by rw [← hg9]; exact hb4.size
    rw [hg9] at vc
    have h78 : g7 < g8 := by have := VA.out.lt; omega
    have h89 : g8 < g9 := by have := VB.out.lt; omega
    have VC := Lib.hid vc
    have OC := Lib.hid oc
    have VA2 := Lib.hid ((VA.out.keep BB.out).keep bc)
    have OA2 := Lib.hid ((OA.out.keep BB.out).keep bc)
    have VB2 := Lib.hid (VB.out.keep bc)
    have OB2 := Lib.hid (OB.out.keep bc)
    have BC := Lib.hid (below_step (below_step BA.out BB.out) bc)
    have HWC := Lib.hid hWc
    have hwab := BB.out.size
    have hw1a := BA.out.size
    have hgG : gG < Wa.heap.size := hga.2
    have hgG2 : W1.heap.size ≤ gG := hga.1
    clear hWc vc oc bc ho4 hb4 HM3 HWB VA OA VB OB BA BB hga
    go_wp2_with fail
    rw [HWC.out]
    go_loopw [10, 11] (fun s10 s11 wr => ∃ (N n : Nat) (A8 : Option Addr) (c8 : Nat) (A9 : Option Addr) (c9 : Nat), N = n + 1 ∧ n ≤ d ∧ s10 = .int .i64 (Ser.ipow u n % m) ∧ s11 = .int .i64 N ∧
      Var2 wr g7 (.int .i64 m) (.slice (some ⟨gG, 0, none⟩) (d + 1) cG) ∧ OwnI wr W1.heap.size (.slice (some ⟨gG, 0, none⟩) (d + 1) cG) (Ser.lagG m u (Ser.co l) d n).1 ∧
      Var2 wr g8 (.int .i64 m) (.slice A8 (d + 1) c8) ∧ OwnI wr Wa.heap.size (.slice A8 (d + 1) c8) (Ser.lagG m u (Ser.co l) d n).2 ∧
      Var2 wr g9 (.int .i64 m) (.slice A9 (d + 1) c9) ∧ OwnI wr Wa.heap.size (.slice A9 (d + 1) c9) (Ser.cut m d (Ser.pw (Ser.co l) n)) ∧ Below W1.heap.size W1 wr) (fun _ s11 _ => d + 2 - (intOf s11).toNat)
    case atStart => exact ⟨1, 0, A8, c8, A9, c9, rfl, Nat.zero_le _, by rw [show Ser.ipow u 0 = 1 from rfl, Int.emod_eq_of_lt (by omega) (by omega)], rfl, VA2.out, OA2.out, VB2.out, OB2.out, VC.out, OC.out.more hwab, BC.out⟩
    case round =>
      obtain ⟨N, n, A8, c8, A9, c9, hN, hn, rfl, rfl, v7, oG, v8, oR, v9, oP, hbl⟩ := hrel
      have V7 := Lib.hid v7
      have OG := Lib.hid oG
      have V8 := Lib.hid v8
      have OR := Lib.hid oR
      have V9 := Lib.hid v9
      have OP := Lib.hid oP
      have BL := Lib.hid hbl
      have YA := Lib.hid (Y1.out.keep hbl)
      have VR := Lib.hid (V1.out.keep hbl)
      clear v7 oG v8 oR v9 oP hbl VA2 OA2 VB2 OB2 VC OC BC HWC
      by_cases hlt : N ≤ d
      · have hlt2 : (N : Int) ≤ (d : Int) := by omega
        have hwa : Wa.heap.size ≤ wr.heap.size := by have := V8.out.lt; omega
        have sp : SerOkG m d (Ser.cut m d (Ser.pw (Ser.co l) n)) := HSO.out.cut _
        obtain ⟨A0, c0, he0, hri0⟩ := OP.out.form
        rw [Ser.cut_length] at he0
        injection he0 with he1 _ he2
        subst he1 he2
        have ht := times_anyG m d A9 c9 _ m A c l wr sp HSO.out hri0 (HR0.out.below (below_step HB1.out BL.out))
        rw [Ser.cut_length, pw_step, ← hN] at ht
        obtain ⟨P2, hP2⟩ : ∃ P2, Ser.cut m d (Ser.pw (Ser.co l) N) = P2 := ⟨_, rfl⟩
        have hl2 : P2.length = d + 1 := by rw [← hP2, Ser.cut_length]
        have sp2 : SerOkG m d P2 := by rw [← hP2]; exact HSO.out.cut _
        rw [hP2] at ht
        have HT := Lib.hid ht
        obtain ⟨R, hR⟩ : ∃ R, (Ser.lagG m u (Ser.co l) d n).2 = R := ⟨_, rfl⟩
        obtain ⟨G, hG⟩ : ∃ G, (Ser.lagG m u (Ser.co l) d n).1 = G := ⟨_, rfl⟩
        have sr : SerOkG m d R := by rw [← hR]; exact HSO.out.lag2 _ _
        have hlR : R.length = d + 1 := by rw [← hR, Ser.lagG_len2]
        have hlG : G.length = d + 1 := by rw [← hG, Ser.lagG_len1]
        rw [hR] at OR
        rw [hG] at OG
        obtain ⟨q0, hq0⟩ : ∃ q0, Ser.ipow u n % m = q0 := ⟨_, rfl⟩
        have hqb1 := Int.emod_nonneg (Ser.ipow u n) hm0
        have hqb2 := Int.emod_lt_of_pos (Ser.ipow u n) (show 0 < m by omega)
        rw [hq0] at hqb1 hqb2
        have hq1 : q0 * u % m = Ser.ipow u N % m := by
          rw [← hq0, hN, Ser.ipow]; exact Ser.mul_cong (Int.emod_emod _ _) rfl
        have p1 := Int.mul_nonneg hqb1 u1
        have p2 := (mul_bdG (x := q0) (y := u) hqb1 (by omega) (by omega) (by omega)).2
        obtain ⟨Q, hQ⟩ : ∃ Q, q0 * u % m = Q := ⟨_, rfl⟩
        have hQb1 := Int.emod_nonneg (q0 * u) hm0
        have hQb2 := Int.emod_lt_of_pos (q0 * u) (show 0 < m by omega)
        rw [hQ] at hQb1 hQb2 hq1
        obtain ⟨RN, hRN⟩ : ∃ RN, Ser.co R N = RN := ⟨_, rfl⟩
        obtain ⟨rn1, rn2⟩ := sr.red N
        rw [hRN] at rn1 rn2
        have p3 := Int.mul_nonneg rn1 hQb1
        have p4 := (mul_bdG (x := RN) (y := Q) rn1 (by omega) (by omega) (by omega)).2
        obtain ⟨g, hg⟩ : ∃ g, RN * Q % m = g := ⟨_, rfl⟩
        have hg1 := Int.emod_nonneg (RN * Q) hm0
        have hg2 := Int.emod_lt_of_pos (RN * Q) (show 0 < m by omega)
        rw [hg] at hg1 hg2
        have hG2 : G.set N g = (Ser.lagG m u (Ser.co l) d N).1 := by
          rw [hN, lag_g, hG, hR, ← hN, hRN, ← hq1, hg]
        have hR2 : addL m d R (scaL m d P2 (-g)) = (Ser.lagG m u (Ser.co l) d N).2 := by
          have := lag_r m u (Ser.co l) d n
          rw [hR, ← hN, hRN, ← hq1, hg, hP2] at this
          exact this
        have HG2 := Lib.hid hG2
        have HR2 := Lib.hid hR2
        have HQ1 := Lib.hid hq1
        have HP2 := Lib.hid hP2
        obtain ⟨x1, x2, -⟩ := YA.out
        obtain ⟨x3, x4⟩ := (⟨V9.out.c0, V9.out.c1⟩ : _ ∧ _)
        have HNN := Lib.hid hN
        rw [hq0]
        clear ht sp hri0 hR hG hq1 hq0 hP2 hG2 hR2 hN
        go_wp2_with fail
        refine HT.out.mono ?_
        rintro e w3 ⟨s3, rfl, ho3, hb3⟩
        obtain ⟨A3, c3, rfl, -⟩ := ho3.form
        rw [hl2] at ho3 ⊢
        have v9 := V9.out.keep hb3
        have q5 := v9.c0
        have q6 := v9.c1
        have q7 := v9.fz 0
        have q8 := v9.fz 1
        clear x1 x2 x3 x4
        obtain ⟨X1, hX1⟩ : ∃ X1, set2 w3 g9 (.int .i64 m) (.slice A3 (d + 1) c3) = X1 := ⟨_, rfl⟩
        have v9x : Var2 X1 g9 (.int .i64 m) (.slice A3 (d + 1) c3) := by rw [← hX1]; exact v9.set2 _ _
        have oPx : OwnI X1 Wa.heap.size (.slice A3 (d + 1) c3) P2 := by rw [← hX1]; exact (ho3.set2 v9 _ _).more hwa
        have v7x : Var2 X1 g7 (.int .i64 m) (.slice (some ⟨gG, 0, none⟩) (d + 1) cG) := by rw [← hX1]; exact (V7.out.keep hb3).set2' (by omega) _ _
        have oGx : OwnI X1 W1.heap.size (.slice (some ⟨gG, 0, none⟩) (d + 1) cG) G := by rw [← hX1]; exact (OG.out.keep hb3).set2 v9 _ _
        have v8x : Var2 X1 g8 (.int .i64 m) (.slice A8 (d + 1) c8) := by rw [← hX1]; exact (V8.out.keep hb3).set2' (by omega) _ _
        have oRx : OwnI X1 Wa.heap.size (.slice A8 (d + 1) c8) R := by rw [← hX1]; exact (OR.out.keep hb3).set2 v9 _ _
        have bx : Below W1.heap.size W1 X1 := by rw [← hX1]; exact below_set2 (below_step BL.out hb3) (by omega) _ _
        obtain ⟨A0, c0, he0, hri0⟩ := oRx.form
        rw [hlR] at he0
        injection he0 with he1 _ he2
        subst he1 he2
        obtain ⟨b8, off8, hA8, hb8, hcN⟩ := hri0.at N (by omega)
        subst hA8
        rw [hRN] at hcN
        obtain ⟨-, -, o3, o4⟩ := oGx.cells
        have d1 := o3 N (by omega)
        have f1 := o4 N
        have hset := oGx.set N g
        rw [HG2.out] at hset
        have ne7 : gG ≠ g7 := fun e => own_ne_var v7x oGx (by rw [e]; rfl)
        have ne8 : gG ≠ g8 := by omega
        have ne9 : gG ≠ g9 := by omega
        have neR : (Value.slice (some ⟨b8, off8, none⟩) (d + 1) c8).ownBlock = none ∨ (Value.slice (some ⟨b8, off8, none⟩) (d + 1) c8).ownBlock ≠ some gG := by
          rcases hc : (Value.slice (some ⟨b8, off8, none⟩) (d + 1) c8).ownBlock with _ | b
          · exact .inl rfl
          · refine .inr (fun e => ?_)
            injection e with e
            have := (oRx.lt b hc).1
            omega
        have neP : (Value.slice A3 (d + 1) c3).ownBlock = none ∨ (Value.slice A3 (d + 1) c3).ownBlock ≠ some gG := by
          rcases hc : (Value.slice A3 (d + 1) c3).ownBlock with _ | b
          · exact .inl rfl
          · refine .inr (fun e => ?_)
            injection e with e
            have := (oPx.lt b hc).1
            omega
        obtain ⟨X2, hX2⟩ : ∃ X2, (X1.setCell ⟨gG, N, none⟩ (.int .i64 g)).drew = X2 := ⟨_, rfl⟩
        have v7y : Var2 X2 g7 (.int .i64 m) (.slice (some ⟨gG, 0, none⟩) (d + 1) cG) := by rw [← hX2]; exact v7x.far _ _ _ ne7
        have v8y : Var2 X2 g8 (.int .i64 m) (.slice (some ⟨b8, off8, none⟩) (d + 1) c8) := by rw [← hX2]; exact v8x.far _ _ _ ne8
        have v9y : Var2 X2 g9 (.int .i64 m) (.slice A3 (d + 1) c3) := by rw [← hX2]; exact v9x.far _ _ _ ne9
        have oGy : OwnI X2 W1.heap.size (.slice (some ⟨gG, 0, none⟩) (d + 1) cG) (Ser.lagG m u (Ser.co l) d N).1 := by rw [← hX2]; exact hset
        have oRy : OwnI X2 Wa.heap.size (.slice (some ⟨b8, off8, none⟩) (d + 1) c8) R := by rw [← hX2]; exact OwnI.drew (oRx.other (grown_setCell X1 gG N _) neR)
        have oPy : OwnI X2 Wa.heap.size (.slice A3 (d + 1) c3) P2 := by rw [← hX2]; exact OwnI.drew (oPx.other (grown_setCell X1 gG N _) neP)
        have bxy : Below W1.heap.size W1 X2 := by rw [← hX2]; exact (bx.setCell (p := ⟨gG, N, none⟩) (by show W1.heap.size ≤ gG; omega) (.int .i64 g)).drew
        have hgN : X2.cell? ⟨gG, N, none⟩ = some (.int .i64 g) := by
          obtain ⟨-, -, o5, -⟩ := oGy.cells
          have := o5 N (by rw [Ser.lagG_len1]; omega)
          rw [this, ← HG2.out, List.getElem?_set_self (by omega)]
          rfl
        obtain ⟨y1, y2⟩ := (⟨v7x.c0, v7x.c1⟩ : _ ∧ _)
        obtain ⟨y3, y4⟩ := (⟨v8x.c0, v8x.c1⟩ : _ ∧ _)
        have j0 : (0 : Int) ≤ (N : Int) := by omega
        have j1 : (N : Int) < (d : Int) + 1 := by omega
        have w1 : IntKind.i64.wrap (RN * Q) = RN * Q := by rw [IntKind.wrap_i64]; omega
        unfold set2 at hX1
        have HX1 := Lib.hid hX1
        have HX2 := Lib.hid hX2
        have V7Y := Lib.hid v7y
        have V8Y := Lib.hid v8y
        have V9Y := Lib.hid v9y
        have OGY := Lib.hid oGy
        have ORY := Lib.hid oRy
        have OPY := Lib.hid oPy
        have BXY := Lib.hid bxy
        have HGN := Lib.hid hgN
        clear ho3 hb3 v9 v9x oPx v7x oGx v8x oRx bx hri0 o3 o4 hset hX1 hX2 v7y v8y v9y oGy oRy oPy bxy hgN neR neP
        go_upto_region 11 with fail
        rw [HX1.out]
        clear HX1 q5 q6 q7 q8
        go_still_tail 13, (by kernel_rfl)
        change wpList _ _ _ _ _ X1.drew
        go_upto_region 12 with fail
        rw [hg, HX2.out]
        clear HX2 y1 y2 y3 y4 d1 f1 hcN
        obtain ⟨y1, y2⟩ := (⟨V7Y.out.c0, V7Y.out.c1⟩ : _ ∧ _)
        obtain ⟨y3, y4⟩ := (⟨V8Y.out.c0, V8Y.out.c1⟩ : _ ∧ _)
        obtain ⟨y5, y6⟩ := (⟨V9Y.out.c0, V9Y.out.c1⟩ : _ ∧ _)
        have y7 := HGN.out
        obtain ⟨Ng, hNg⟩ : ∃ Ng, -g = Ng := ⟨_, rfl⟩
        have w2 : IntKind.i64.wrap Ng = Ng := by rw [IntKind.wrap_i64]; omega
        have HSC := Lib.hid (scaled_atG (k := Ng) sp2 OPY.out (by omega) (by omega))
        have ss5 : SerOkG m d (scaL m d P2 Ng) := HSO.out.sca _ _
        have HPL := Lib.hid (plus_atG sr ss5 ORY.out)
        have hR5 := HR2.out
        rw [hNg] at hR5
        rw [hR5] at HPL
        have SP2 := Lib.hid sp2
        clear hR5 HR2 ss5 sr sp2 p1 p2 p3 p4 hQ hg hl2 hlR hlG rn1 rn2 hRN hQb1 hQb2 hqb1 hqb2 w1 hg1 hg2 hb8 j0 hwab hw1a
        go_region_with (first
          | (go_at_call 56; refine (HSC.out _ (below_drew0 _)).mono ?_; rintro e5 w5 ⟨A5, c5, rfl, r5, hb5⟩; have v5 := V8Y.out.keep (below_step (below_drew0 _) hb5); have z1 := v5.c0; have z2 := v5.c1)
          | (go_at_call 59; refine (HPL.out _ (below_step (below_drew0 _) hb5) _ _ r5).mono ?_; rintro e6 w6 ⟨A6, c6, rfl, ho6, hb6⟩; have v6 := v5.keep hb6; have z3 := v6.c0; have z4 := v6.c1; have z5 := v6.fz 0; have z6 := v6.fz 1))
        all_goals
          have hb9 := below_step (below_step (below_drew0 _) hb5) hb6
          have K1 := Lib.hid (v6.set2 (.int .i64 m) (.slice A6 (d + 1) c6))
          have K2 := Lib.hid ((ho6.set2 v6 (.int .i64 m) (.slice A6 (d + 1) c6)).more (show Wa.heap.size ≤ w5.heap.size by have := v5.lt; omega))
          have K3 := Lib.hid ((V7Y.out.keep hb9).set2' (g' := g8) (by omega) (.int .i64 m) (.slice A6 (d + 1) c6))
          have K4 := Lib.hid ((OGY.out.keep hb9).set2 v6 (.int .i64 m) (.slice A6 (d + 1) c6))
          have K5 := Lib.hid ((V9Y.out.keep hb9).set2' (g' := g8) (by omega) (.int .i64 m) (.slice A6 (d + 1) c6))
          have K6 := Lib.hid ((OPY.out.keep hb9).set2 v6 (.int .i64 m) (.slice A6 (d + 1) c6))
          have K7 := Lib.hid (below_set2 (below_step BXY.out hb9) (show W1.heap.size ≤ g8 by omega) (.int .i64 m) (.slice A6 (d + 1) c6))
          clear hb9 hb5 hb6 ho6 v5 v6 r5 y1 y2 y3 y4 y5 y6 y7 z1 z2 z3 z4 z5 z6
          go_wp2
          go_roundw
          case rel => exact ⟨N + 1, N, _, _, _, _, rfl, hlt, by rw [HQ1.out], by first | rfl | go_num, K3.out, K4.out, K1.out, K2.out, K5.out, by rw [HP2.out]; exact K6.out, K7.out⟩
          case measure => simp only [intOf]; omega
      · obtain rfl : n = d := by omega
        have hlt2 : ¬ (N : Int) ≤ (n : Int) := by omega
        have z3 := V7.out.c0
        have z4 := V7.out.c1
        have z5 := VR.out.c0
        have z6 := VR.out.c1
        have z7 := VR.out.fz 0
        have z8 := VR.out.fz 1
        have f2 := (VR.out.set2 (.int .i64 m) (.slice (some ⟨gG, 0, none⟩) (n + 1) cG))
        have F1 := f2.c0
        have F2 := f2.c1
        have F3 := Lib.hid ((OG.out.set2 VR.out (.int .i64 m) (.slice (some ⟨gG, 0, none⟩) (n + 1) cG)).more (show w.heap.size ≤ W1.heap.size by omega))
        have F4 := Lib.hid (below_set2 (below_step HB1.out BL.out) (by omega : w.heap.size ≤ w.heap.size + 1) (.int .i64 m) (.slice (some ⟨gG, 0, none⟩) (n + 1) cG))
        unfold set2 at F1 F2 F3 F4
        clear f2 hN hlt
        go_wp2
        exact bodyPost_ret (v := .agg #[.int .i64 m, .slice (some ⟨gG, 0, none⟩) (n + 1) cG]) (by simp [results, Try.results65, go_sem, F1, F2]) rfl ⟨_, rfl, F3.out, F4.out⟩
set_option maxHeartbeats 4000000 in
set_option maxRecDepth 100000 in
theorem reversion_anyG (m : Int) (d : Nat) (A : Option Addr) (c : Nat) (l : List Int) (w : World) (hs : SerOkG m d l) (hr : RI w A l) :
    Calls Try.prog 43 #[.agg #[.int .i64 m, .slice A l.length c]] w fun e w' => ∃ v, e = .returned (.agg #[.int .i64 m, v]) ∧ OwnI w' w.heap.size v (Ser.lagG m 1 (Ser.co l) d d).1 ∧ Below w.heap.size w w' := by
  obtain ⟨W, hW, b1, v2, hwb⟩ := pro_serQ 66 68 w m A l.length c
  have B1 := Lib.hid b1
  have V2 := Lib.hid v2
  have HB := Lib.hid hwb
  have HW := Lib.hid hW
  have m1 := hs.m1
  have HI := Lib.hid (reversed_anyG m d A c l 1 W hs (hr.below hwb) (by omega) (by omega))
  obtain ⟨R, hR⟩ : ∃ R, (Ser.lagG m 1 (Ser.co l) d d).1 = R := ⟨_, rfl⟩
  rw [hR] at HI ⊢
  have hsz : w.heap.size + 1 < W.heap.size := v2.lt
  obtain ⟨x1, x2, x3⟩ := b1
  clear v2 hwb hW hr hs hR
  go_enter Try.func43, Try.ntmps43
  go_wp2_with fail
  rw [HW.out]
  refine HI.out.mono ?_
  rintro e w1 ⟨s, rfl, ho, hb1⟩
  obtain ⟨A2, c2, rfl, -⟩ := ho.form
  have hv := V2.out.keep hb1
  obtain ⟨q0, q1, q2, q3⟩ := hv.tells2
  obtain ⟨f0, f1, f2, f3⟩ := fin_serC (w := w) hv ho hsz (by omega) (below_step HB.out hb1) (.int .i64 m) (.slice A2 R.length c2)
  have F2 := Lib.hid (OwnI.more (b' := w.heap.size) f2 (by omega))
  have F3 := Lib.hid f3
  clear f2 f3 ho hb1 hv x1 x2 x3
  go_wp2
  exact bodyPost_ret (v := .agg #[.int .i64 m, .slice A2 R.length c2]) (by simp [results, Try.results43, go_sem, f0, f1]) rfl ⟨_, rfl, F2.out, F3.out⟩
end Go.Proofs.Ytfhdgcndiljjcab

/- Copies with great moduli, up to 10^8: written by wip/tools/mk_bga.py out of Lpn, Lac. -/
namespace Go.Proofs.Ytfhdgcndiljjcab
open Go.RowKit Go.WideShapes Go.ChangeShapes Go.ChangeAt

namespace Pl
theorem lin_okG {m : Int} {d : Nat} (m1 : 2 ≤ m) (m2 : m ≤ 100000000) (d1 : 1 ≤ d) (d2 : d ≤ 10) (u : Int) : SerOkG m d (lin m d u) := ⟨m1, m2, d1, d2, Ser.cut_length _ _ _, Ser.cut_red (by omega) _ _⟩
end Pl
theorem stepT_okG {m : Int} {d : Nat} (m1 : 2 ≤ m) (m2 : m ≤ 100000000) (d1 : 1 ≤ d) (d2 : d ≤ 10) (T : List (List Int)) (p : Bool × Option Addr × Nat × List Int) : Pl.OkG m d (stepT m d T p) := by
  unfold stepT
  by_cases h : p.1 = true
  · rw [if_pos h]; exact Pl.OkG.of_tab m1 m2 d1 d2 _
  · rw [if_neg h]; exact Pl.hor_okG m1 m2 d1 d2 _ _ _
theorem acrT_okG {m : Int} {d : Nat} (m1 : 2 ≤ m) (m2 : m ≤ 100000000) (d1 : 1 ≤ d) (d2 : d ≤ 10) (ps : List (Bool × Option Addr × Nat × List Int)) : Pl.OkG m d (acrT m d ps) := by
  have key : ∀ (qs : List (Bool × Option Addr × Nat × List Int)) T, Pl.OkG m d T → Pl.OkG m d (qs.foldl (stepT m d) T) := by
    intro qs
    induction qs with
    | nil => intro T h; exact h
    | cons q qs ih => intro T _; exact ih _ (stepT_okG m1 m2 d1 d2 T q)
  exact key ps _ (Pl.OkG.of_tab m1 m2 d1 d2 _)
/-- block g holds passages -/
def PSG (w : World) (g : Nat) (m : Int) (d : Nat) (ps : List (Bool × Option Addr × Nat × List Int)) : Prop :=
  g < w.heap.size ∧ ∀ k b A c l, ps[k]? = some (b, A, c, l) → w.cell? ⟨g, k, none⟩ = some (.iface (if b = true then 66 else 68) (.agg #[.int .i64 m, .slice A l.length c])) ∧ RI w A l ∧ SerOkG m d l ∧ Ser.co l 0 = 0
theorem PSG.keep {w w' : World} {g : Nat} {m : Int} {d : Nat} {ps : List (Bool × Option Addr × Nat × List Int)} (h : PSG w g m d ps) (hb : Below w.heap.size w w') : PSG w' g m d ps :=
  ⟨Nat.lt_of_lt_of_le h.1 hb.size, fun k b A c l hk => by
    obtain ⟨a1, a2, a3⟩ := h.2 k b A c l hk
    exact ⟨(hb.cell (p := ⟨g, k, none⟩) h.1).trans a1, a2.below hb, a3⟩⟩
set_option maxHeartbeats 16000000 in
set_option maxRecDepth 100000 in
theorem additionAcross_anyG (m : Int) (d : Nat) (g : Nat) (ps : List (Bool × Option Addr × Nat × List Int)) (w : World) (m1 : 2 ≤ m) (m2 : m ≤ 100000000) (d1 : 1 ≤ d) (d2 : d ≤ 10) (hp : PSG w g m d ps) (hn : ps.length ≤ 1000)
    (hz : ∀ k A c l, ps[k]? = some (false, A, c, l) → Pl.pc (acrT m d (ps.take k)) 0 0 = 0) :
    Calls Try.prog 42 #[.agg #[.int .i64 m, .int .i64 d], .slice (some ⟨g, 0, none⟩) ps.length ps.length] w fun e w' => ∃ v, e = .returned (.agg #[.int .i64 m, .int .i64 d, v]) ∧ OwnR w' w.heap.size w'.heap.size v (acrT m d ps) ∧ Below w.heap.size w w' := by
  obtain ⟨W, hW, v1, v2, hwb⟩ := pro_frG w m d
  have V2 := Lib.hid v2
  have HB := Lib.hid hwb
  have HW := Lib.hid hW
  have HPS := Lib.hid (hp.keep hwb)
  have HML := Lib.hid (fun W0 => monomial_anyG m d 1 1 W0 (by omega) m2 (by omega) (by omega) (by omega))
  have HG0 := Lib.hid (fun W0 A0 c0 (h : RI W0 A0 (Pl.lin m d 1)) => gridOfSeries_anyG m d A0 c0 (Pl.lin m d 1) 0 W0 (Pl.lin_okG m1 m2 d1 d2 1) h)
  have HG1 := Lib.hid (fun W0 A0 c0 (h : RI W0 A0 (Pl.lin m d 1)) => gridOfSeries_anyG m d A0 c0 (Pl.lin m d 1) 1 W0 (Pl.lin_okG m1 m2 d1 d2 1) h)
  have HPL := Lib.hid (fun W0 A0 c0 A1 c1 (h0 : RP W0 A0 (Pl.tab m d (gosF (Pl.lin m d 1) 0))) (h1 : RP W0 A1 (Pl.tab m d (gosF (Pl.lin m d 1) 1))) => gplus_anyG m d A0 c0 (Pl.tab m d (gosF (Pl.lin m d 1) 0)) A1 c1 (Pl.tab m d (gosF (Pl.lin m d 1) 1)) W0 (Pl.OkG.of_tab m1 m2 d1 d2 _) (Pl.OkG.of_tab m1 m2 d1 d2 _) h0 h1)
  obtain ⟨T0, hT0⟩ : ∃ T, Pl.tab m d (gosF (Pl.lin m d 1) 0) = T := ⟨_, rfl⟩
  obtain ⟨T1, hT1⟩ : ∃ T, Pl.tab m d (gosF (Pl.lin m d 1) 1) = T := ⟨_, rfl⟩
  obtain ⟨T2, hT2⟩ : ∃ T, xyT m d = T := ⟨_, rfl⟩
  rw [show (Pl.tab m d fun i j => Pl.pc (Pl.tab m d (gosF (Pl.lin m d 1) 0)) i j + Pl.pc (Pl.tab m d (gosF (Pl.lin m d 1) 1)) i j) = T2 from hT2, hT0, hT1] at HPL
  rw [hT0] at HG0
  rw [hT1] at HG1
  obtain ⟨Z, hZ⟩ : ∃ Z, Pl.lin m d 1 = Z := ⟨_, rfl⟩
  rw [show Ser.cut m d (Ser.mon 1 1) = Z from hZ] at HML
  rw [hZ] at HG0 HG1
  obtain ⟨x1, x2, -⟩ := v1.tells2
  have hsz : w.heap.size + 1 < W.heap.size := v2.lt
  have HT0 := Lib.hid (show OwnR W W.heap.size W.heap.size (.slice none 0 0) [] from OwnR.nil _ _ _)
  clear v1 v2 hwb hW hp
  have ta1 := fun (a b : Value) (w : World) => (show (Instr.typeAssert (.iface 66 (.agg #[a, b])) 85 66 true).run Try.prog w = .ok (.tuple #[.agg #[a, b], .bool true]) w by kernel_rfl)
  have ta2 := fun (a b : Value) (w : World) => (show (Instr.typeAssert (.iface 68 (.agg #[a, b])) 85 68 true).run Try.prog w = .ok (.tuple #[.agg #[a, b], .bool true]) w by kernel_rfl)
  have mh1 := fun (a b : Value) (w : World) => (show (method 223 66 (.agg #[a, b]) "loop.example/g01152/impl.curve").run Try.prog w = .ok (111, .agg #[a, b]) w by kernel_rfl)
  have mh2 := fun (a b : Value) (w : World) => (show (method 223 68 (.agg #[a, b]) "loop.example/g01152/impl.curve").run Try.prog w = .ok (112, .agg #[a, b]) w by kernel_rfl)
  have ta3 := fun (a b : Value) (w : World) => (show (Instr.typeAssert (.iface 68 (.agg #[a, b])) 85 66 true).run Try.prog w = .ok (.tuple #[.agg #[.int .i64 0, .slice none 0 0], .bool false]) w by kernel_rfl)
  go_enter Try.func42, Try.ntmps42
  go_wp2_with fail
  rw [HW.out]
  refine (HML.out _).mono ?_
  rintro e w1 ⟨s1, rfl, ho1, hb1⟩
  obtain ⟨A1, c1, rfl, -⟩ := ho1.form
  clear x1 x2
  have hro := (ho1.keep (below_one w1 (.cells #[.int .i64 m, .slice A1 Z.length c1] 62))).ri
  have hbx := Box.newT 62 w1 m A1 Z.length c1
  have hb2 := below_alloc (.cells #[.int .i64 m, .slice A1 Z.length c1] 62) hb1
  obtain ⟨w2, hw2⟩ : ∃ w2, w1.alloc (.cells #[.int .i64 m, .slice A1 Z.length c1] 62) = w2 := ⟨_, rfl⟩
  rw [hw2] at hro hbx hb2
  have HRO := Lib.hid hro
  have HW2 := Lib.hid hw2
  have HB2 := Lib.hid hb2
  have hbx2 := hbx
  obtain ⟨x1, x2, x3⟩ := hbx2
  rw [← hw2] at x1 x2
  have HBX := Lib.hid hbx
  clear hro hbx hb2 hw2 ho1 hb1
  go_upto_region 2 with fail
  rw [HW2.out]
  clear HW2 x1 x2 x3
  go_cut [6] (fun s6 wx => ∃ g A1 c1 lo hi, s6 = .pointer (some ⟨g, 0, none⟩) ∧ VarC 43 wx g #[.int .i64 m, .int .i64 d, .slice A1 T2.length c1] ∧ OwnR wx lo hi (.slice A1 T2.length c1) T2 ∧ (g < lo ∨ hi ≤ g) ∧ w2.heap.size ≤ lo ∧ hi ≤ wx.heap.size ∧ Below w2.heap.size w2 wx ∧ w2.heap.size ≤ g)
  case first =>
    go_region_held3 (fun w' => (w'.cell? ⟨w1.heap.size, 0, none⟩ = some (.int .i64 m) ∧ w'.cell? ⟨w1.heap.size, 1, none⟩ = some (.slice A1 Z.length c1)) ∧ True ∧ Below w2.heap.size w2 w') (first | exact bct HBX.out (below_drew0 _) | exact bct HBX.out hbel | exact bct HBX.out hka | exact bct HBX.out hkb | exact bct HBX.out (below_alloc _ (trd (by assumption))) | exact bct HBX.out (below_alloc _ hbel) | exact bct HBX.out (below_alloc _ hka) | exact bct HBX.out (below_alloc _ hkb) | exact bct HBX.out (reg_finG hwg hgc hle hv hog hbel m d).2.2.2.2.2.1 | exact (by assumption)) (first
      | (go_at_call 61; have ht := hba; clear ht; with_reducible refine Calls.mono (HG1.out _ _ _ (HRO.out.below (trd (by assumption)))) ?_; rintro e wb ⟨sb, rfl, hob, hbb⟩; obtain ⟨Ab, cb, rfl, -⟩ := hob.len; obtain ⟨hkb, hlb⟩ := reg_end (by assumption) hbb)
      | (go_at_call 61; with_reducible refine Calls.mono (HG0.out _ _ _ (HRO.out.below (trd (by assumption)))) ?_; rintro e wa ⟨sa, rfl, hoa, hba⟩; obtain ⟨Aa, ca, rfl, -⟩ := hoa.len; obtain ⟨hka, hla⟩ := reg_end (by assumption) hba)
      | (go_at_call 62; with_reducible refine Calls.mono (HPL.out _ _ _ _ _ (by first | exact hoa.rp | exact hoa.rp.below hbb | exact hoa.rp.below (below_one _ _) | exact hoa.rp.below (below_step (below_one _ _) hbb) | exact (hoa.rp.below hbb).below (below_one _ _)) (by first | exact hob.rp | exact hob.rp.below hba | exact hob.rp.below (below_one _ _) | exact hob.rp.below (below_step (below_one _ _) hba) | exact (hob.rp.below hba).below (below_one _ _))) ?_; rintro e wd ⟨sg, rfl, hog, hbd⟩; obtain ⟨Ag, cg, rfl, -⟩ := hog.len; obtain ⟨hbel, hle⟩ := reg_end (by assumption) hbd; first | (refine use_it (varC_keep (((VarC.new 43 w2 _).drew.keep hba).keep hbb) hbd) ?_; rintro ⟨hv, hgc⟩; have hwg := varC_at (k := w2.heap.size) hv (Nat.le_refl _); obtain ⟨q0, q1, q2, q3, q4, q5⟩ := hv.tells3) | (refine use_it (varC_keep (((VarC.new 43 w2 _).drew.keep hbb).keep hba) hbd) ?_; rintro ⟨hv, hgc⟩; have hwg := varC_at (k := w2.heap.size) hv (Nat.le_refl _); obtain ⟨q0, q1, q2, q3, q4, q5⟩ := hv.tells3) | (refine use_it (varC_keep ((VarC.new 43 _ _).keep hbb) hbd) ?_; rintro ⟨hv, hgc⟩; have hwg := varC_at (k := w2.heap.size) hv hka.size; obtain ⟨q0, q1, q2, q3, q4, q5⟩ := hv.tells3) | (refine use_it (varC_keep ((VarC.new 43 _ _).keep hba) hbd) ?_; rintro ⟨hv, hgc⟩; have hwg := varC_at (k := w2.heap.size) hv hkb.size; obtain ⟨q0, q1, q2, q3, q4, q5⟩ := hv.tells3) | (refine use_it (varC_keep (VarC.new 43 _ _) hbd) ?_; rintro ⟨hv, hgc⟩; have hwg := varC_at (k := w2.heap.size) hv (by first | exact hkb.size | exact hka.size); obtain ⟨q0, q1, q2, q3, q4, q5⟩ := hv.tells3) | skip))
    all_goals
      go_wp2_with fail
      go_meet
      case rel => first | exact ⟨_, _, _, _, _, rfl, reg_newG hle hog hbel m d _⟩ | exact ⟨_, _, _, _, _, rfl, reg_finG hwg hgc hle hv hog hbel m d⟩
  case rest =>
    obtain ⟨w3, hwc⟩ : ∃ w9, w9 = wc := ⟨_, rfl⟩
    subst hwc
    obtain ⟨g7, A7, c7, lo7, hi7, rfl, v7, o7, hg7, hl7, hh7, hb7, hgw⟩ := hcut
    have hT2l : T2.length = d + 1 := by rw [← hT2]; exact Pl.tab_length _ _ _
    rw [hT2l] at v7 o7
    rw [← hT2, show xyT m d = acrT m d (ps.take 0) from rfl] at o7
    have O7 := Lib.hid o7
    have V7 := Lib.hid v7
    have B7 := Lib.hid hb7
    have G7 : Hid (g7 < lo7 ∨ hi7 ≤ g7) := Lib.hid hg7
    have VW := Lib.hid (V2.out.keep HB2.out)
    have HPW := Lib.hid (HPS.out.keep HB2.out)
    clear v7 o7 hb7 hg7 HML HG0 HG1 HPL HRO HBX hT0 hT1 hT2 hZ hT2l HT0
    obtain ⟨N, hN⟩ : ∃ N, ps.length = N := ⟨_, rfl⟩
    rw [hN]
    go_wp2
    go_loopw [21] (fun s21 wr => ∃ (k : Nat) (A1 : Option Addr) (c1 lo hi : Nat), k ≤ N ∧ s21 = .int .i64 (k : Int) ∧ VarC 43 wr g7 #[.int .i64 m, .int .i64 d, .slice A1 (d + 1) c1] ∧ OwnR wr lo hi (.slice A1 (d + 1) c1) (acrT m d (ps.take k)) ∧ (g7 < lo ∨ hi ≤ g7) ∧ w2.heap.size ≤ lo ∧ hi ≤ wr.heap.size ∧ Below w2.heap.size w2 wr) (fun s21 _ => (((N : Nat) : Int) - intOf s21).toNat)
    case atStart => exact ⟨0, A7, c7, lo7, hi7, Nat.zero_le _, rfl, V7.out, O7.out, G7.out, hl7, hh7, B7.out⟩
    case round =>
      clear V7 O7 G7 B7 hl7 hh7
      obtain ⟨k, A8, c8, lo, hi, hkN, rfl, v8, o8, hg8, hl8, hh8, hb8⟩ := hrel
      have VV := Lib.hid v8
      have OO := Lib.hid o8
      have BB := Lib.hid hb8
      have VR := Lib.hid (VW.out.keep hb8)
      clear v8 o8 hb8
      by_cases hk : k < N
      · obtain ⟨⟨b, A, c, l⟩, hpk⟩ : ∃ p, ps[k]? = some p := ⟨_, List.getElem?_eq_getElem (by omega)⟩
        obtain ⟨hcell, hrl, hsl, hl0⟩ := (HPW.out.keep BB.out).2 k b A c l hpk
        have HST := Lib.hid (acrT_snoc (m := m) (d := d) hpk)
        have i1 : ((k : Int) < (N : Int)) := by omega
        obtain ⟨z1, z2, z3, z4, z5, z6⟩ := VV.out.tells3
        rcases b with _ | _
        · simp only [Bool.false_eq_true, if_false] at hcell
          have hst : Pl.hor m d l (Pl.pc (acrT m d (ps.take k))) (d + 1) = acrT m d (ps.take (k + 1)) := by rw [acrT_snoc hpk]; rfl
          have hok := acrT_okG m1 m2 d1 d2 (ps.take k)
          have htl : (acrT m d (ps.take (k + 1))).length = d + 1 := (acrT_okG m1 m2 d1 d2 (ps.take (k + 1))).len
          have h00 := hz k A c l hpk
          have HWC := Lib.hid (fun W0 (h : Below wr.heap.size wr W0) => by
            have := appliedTo_anyG m d A c l A8 c8 (acrT m d (ps.take k)) W0 hsl hok h00 (hrl.below h) (OO.out.rp.below h)
            rw [hok.len, hst] at this
            exact this)
          obtain ⟨T', hT'⟩ : ∃ T', acrT m d (ps.take (k + 1)) = T' := ⟨_, rfl⟩
          rw [hT'] at HWC htl
          have HTL := Lib.hid htl
          have HT' := Lib.hid hT'
          clear HST hst hok htl hT' hpk hrl hsl hl0 h00
          go_upto_region 10 with fail
          clear z1 z2 z3 z4 z5 z6 hcell i1
          have HK : Hid (∀ W0, Below wr.heap.size wr W0 → (W0.cell? ⟨g7, 0, none⟩ = some (.int .i64 m) ∧ W0.cell? ⟨g7, 1, none⟩ = some (.int .i64 d) ∧ W0.cell? ⟨g7, 2, none⟩ = some (.slice A8 (d + 1) c8)) ∧ Below wr.heap.size wr W0) := Lib.hid (fun W0 h => by obtain ⟨a1, a2, a3, -⟩ := (VV.out.keep h).tells3; exact ⟨⟨a1, a2, a3⟩, h⟩)
          have HS0 := Lib.hid (HK.out _ (below_drew0 wr))
          refine region_till (fun w' => (w'.cell? ⟨g7, 0, none⟩ = some (.int .i64 m) ∧ w'.cell? ⟨g7, 1, none⟩ = some (.int .i64 d) ∧ w'.cell? ⟨g7, 2, none⟩ = some (.slice A8 (d + 1) c8)) ∧ Below wr.heap.size wr w') 4 (by kernel_rfl) ?_
          refine till_take (i := 0) (dst := some 38) (.iface 68 (.agg #[.int .i64 m, .slice A l.length c])) rfl rfl (by kernel_rfl) (by kernel_rfl) (by kernel_rfl) (by kernel_rfl) (fun _ _ _ h => h) (Or.inl ⟨by rfl, ?_⟩) HS0.out ?_
          · rintro w' ⟨⟨a1, a2, a3⟩, a4⟩
            go_simp
          simp only [Act.put, List.setIfInBounds_toArray, List.set_cons_zero, List.set_cons_succ]
          refine till_take (i := 2) (dst := some 40) (.agg #[.int .i64 m, .int .i64 d, .slice A8 (d + 1) c8]) rfl rfl (by kernel_rfl) (by kernel_rfl) (by kernel_rfl) (by kernel_rfl) (fun _ _ _ h => h) (Or.inl ⟨by rfl, ?_⟩) HS0.out ?_
          · rintro w' ⟨⟨a1, a2, a3⟩, a4⟩
            go_simp
          simp only [Act.put, List.setIfInBounds_toArray, List.set_cons_zero, List.set_cons_succ]
          refine till_one (i := 1) (by kernel_rfl) rfl (fun K hK => ?_)
          go_simp
          (go_at_call 112; with_reducible refine Calls.mono (ecurve_any _ _ _ _ _) ?_; rintro e w6 ⟨rfl, hb6⟩; have b6 := below_step (below_drew0 wr) hb6)
          dsimp only
          refine hK.out _ _ (fun _ => HK.out _ b6) ?_
          clear hK K
          try simp only [Act.put, List.setIfInBounds_toArray, List.set_cons_zero, List.set_cons_succ]
          refine till_one (i := 3) (by kernel_rfl) rfl (fun K hK => ?_)
          go_simp
          (go_at_call 64; with_reducible refine Calls.mono (HWC.out _ b6) ?_; rintro e w9 ⟨v9, rfl, ho9, hb9⟩; obtain ⟨A9, c9, rfl, -⟩ := ho9.len; rw [HTL.out] at ho9 ⊢; have b9 := below_step b6 hb9; have hv9 := VV.out.keep b9; obtain ⟨y0, y1, y2, y3, y4, y5⟩ := hv9.tells3)
          dsimp only
          refine hK.out _ _ (fun _ => HK.out _ b9) ?_
          clear hK K
          try simp only [Act.put, List.setIfInBounds_toArray, List.set_cons_zero, List.set_cons_succ]
          refine till_one (i := 4) (by kernel_rfl) rfl (fun K hK => ?_)
          go_simp
          refine hK.out _ _ (fun hne => absurd rfl hne) ?_
          clear hK K
          refine till_done (by kernel_rfl) ?_
          have R := Lib.hid (reg_finG hgw (VV.out.keep b6).lt (Nat.le_trans BB.out.size b6.size) hv9 ho9 (below_step BB.out b9) m d)
          clear y0 y1 y2 y3 y4 y5 hv9 ho9 b9 b6 hb9 hb6
          go_wp2
          go_roundw
          case rel => exact ⟨k + 1, A9, c9, _, _, by omega, by go_num, R.out.1, by rw [HT'.out]; exact R.out.2.1, R.out.2.2.1, R.out.2.2.2.1, R.out.2.2.2.2.1, R.out.2.2.2.2.2.1⟩
          case measure => simp only [intOf]; omega
        · simp only [if_true] at hcell
          have hst : Pl.botT m d (Pl.pc (acrT m d (ps.take k))) l l = acrT m d (ps.take (k + 1)) := by rw [acrT_snoc hpk]; rfl
          have hok := acrT_okG m1 m2 d1 d2 (ps.take k)
          have htl : (acrT m d (ps.take (k + 1))).length = d + 1 := (acrT_okG m1 m2 d1 d2 (ps.take (k + 1))).len
          have HWC := Lib.hid (fun W0 (h : Below wr.heap.size wr W0) => by
            have := withCurves_anyG m d A8 c8 (acrT m d (ps.take k)) A c l A c l W0 hok hsl hsl hl0 hl0 (OO.out.rp.below h) (hrl.below h) (hrl.below h)
            rw [hok.len, hst] at this
            exact this)
          obtain ⟨T', hT'⟩ : ∃ T', acrT m d (ps.take (k + 1)) = T' := ⟨_, rfl⟩
          rw [hT'] at HWC htl
          have HTL := Lib.hid htl
          have HT' := Lib.hid hT'
          clear HST hst hok htl hT' hpk hrl hsl hl0
          go_upto_region 8 with fail
          clear z1 z2 z3 z4 z5 z6 hcell i1
          have HK : Hid (∀ W0, Below wr.heap.size wr W0 → (W0.cell? ⟨g7, 0, none⟩ = some (.int .i64 m) ∧ W0.cell? ⟨g7, 1, none⟩ = some (.int .i64 d) ∧ W0.cell? ⟨g7, 2, none⟩ = some (.slice A8 (d + 1) c8)) ∧ Below wr.heap.size wr W0) := Lib.hid (fun W0 h => by obtain ⟨a1, a2, a3, -⟩ := (VV.out.keep h).tells3; exact ⟨⟨a1, a2, a3⟩, h⟩)
          have HS0 := Lib.hid (HK.out _ (below_drew0 wr))
          refine region_till (fun w' => (w'.cell? ⟨g7, 0, none⟩ = some (.int .i64 m) ∧ w'.cell? ⟨g7, 1, none⟩ = some (.int .i64 d) ∧ w'.cell? ⟨g7, 2, none⟩ = some (.slice A8 (d + 1) c8)) ∧ Below wr.heap.size wr w') 6 (by kernel_rfl) ?_
          refine till_take (i := 0) (dst := some 29) (.agg #[.int .i64 m, .int .i64 d, .slice A8 (d + 1) c8]) rfl rfl (by kernel_rfl) (by kernel_rfl) (by kernel_rfl) (by kernel_rfl) (fun _ _ _ h => h) (Or.inl ⟨by rfl, ?_⟩) HS0.out ?_
          · rintro w' ⟨⟨a1, a2, a3⟩, a4⟩
            go_simp
          simp only [Act.put, List.setIfInBounds_toArray, List.set_cons_zero, List.set_cons_succ]
          refine till_take (i := 1) (dst := some 30) (.iface 66 (.agg #[.int .i64 m, .slice A l.length c])) rfl rfl (by kernel_rfl) (by kernel_rfl) (by kernel_rfl) (by kernel_rfl) (fun _ _ _ h => h) (Or.inl ⟨by rfl, ?_⟩) HS0.out ?_
          · rintro w' ⟨⟨a1, a2, a3⟩, a4⟩
            go_simp
          simp only [Act.put, List.setIfInBounds_toArray, List.set_cons_zero, List.set_cons_succ]
          refine till_take (i := 3) (dst := some 32) (.iface 66 (.agg #[.int .i64 m, .slice A l.length c])) rfl rfl (by kernel_rfl) (by kernel_rfl) (by kernel_rfl) (by kernel_rfl) (fun _ _ _ h => h) (Or.inl ⟨by rfl, ?_⟩) HS0.out ?_
          · rintro w' ⟨⟨a1, a2, a3⟩, a4⟩
            go_simp
          simp only [Act.put, List.setIfInBounds_toArray, List.set_cons_zero, List.set_cons_succ]
          refine till_one (i := 2) (by kernel_rfl) rfl (fun K hK => ?_)
          go_simp
          (go_at_call 111; with_reducible refine Calls.mono (lcurve_any _ _ _ _ _) ?_; rintro e w5 ⟨rfl, hb5⟩; have b5 := below_step (below_drew0 wr) hb5)
          dsimp only
          refine hK.out _ _ (fun _ => HK.out _ b5) ?_
          clear hK K
          try simp only [Act.put, List.setIfInBounds_toArray, List.set_cons_zero, List.set_cons_succ]
          refine till_one (i := 4) (by kernel_rfl) rfl (fun K hK => ?_)
          go_simp
          (go_at_call 111; with_reducible refine Calls.mono (lcurve_any _ _ _ _ _) ?_; rintro e w6 ⟨rfl, hb6⟩; have b6 := below_step b5 hb6)
          dsimp only
          refine hK.out _ _ (fun _ => HK.out _ b6) ?_
          clear hK K
          try simp only [Act.put, List.setIfInBounds_toArray, List.set_cons_zero, List.set_cons_succ]
          refine till_one (i := 5) (by kernel_rfl) rfl (fun K hK => ?_)
          go_simp
          (go_at_call 63; with_reducible refine Calls.mono (HWC.out _ b6) ?_; rintro e w9 ⟨v9, rfl, ho9, hb9⟩; obtain ⟨A9, c9, rfl, -⟩ := ho9.len; rw [HTL.out] at ho9 ⊢; have b9 := below_step b6 hb9; have hv9 := VV.out.keep b9; obtain ⟨y0, y1, y2, y3, y4, y5⟩ := hv9.tells3)
          dsimp only
          refine hK.out _ _ (fun _ => HK.out _ b9) ?_
          clear hK K
          try simp only [Act.put, List.setIfInBounds_toArray, List.set_cons_zero, List.set_cons_succ]
          refine till_one (i := 6) (by kernel_rfl) rfl (fun K hK => ?_)
          go_simp
          refine hK.out _ _ (fun hne => absurd rfl hne) ?_
          clear hK K
          refine till_done (by kernel_rfl) ?_
          have R := Lib.hid (reg_finG hgw (VV.out.keep b6).lt (Nat.le_trans BB.out.size b6.size) hv9 ho9 (below_step BB.out b9) m d)
          clear y0 y1 y2 y3 y4 y5 hv9 ho9 b9 b6 hb9 hb6
          go_wp2
          go_roundw
          case rel => exact ⟨k + 1, A9, c9, _, _, by omega, by go_num, R.out.1, by rw [HT'.out]; exact R.out.2.1, R.out.2.2.1, R.out.2.2.2.1, R.out.2.2.2.2.1, R.out.2.2.2.2.2.1⟩
          case measure => simp only [intOf]; omega
      · obtain rfl : k = N := by omega
        have i1 : ¬ ((k : Int) < (k : Int)) := by omega
        have HTE := Lib.hid (show ps.take k = ps from List.take_of_length_le (by omega))
        obtain ⟨z3, z4, z5, -⟩ := VV.out.tells3
        obtain ⟨q0, q1, q2, q3, q4, q5⟩ := VR.out.tells3
        obtain ⟨f0, f1, f2, f3, f4⟩ := fin_grid (w := w) VR.out OO.out (.inl (by have := HB2.out.size; omega)) (by omega) hh8 (below_step HB.out (below_step HB2.out BB.out)) (.int .i64 m) (.int .i64 d) (.slice A8 (d + 1) c8)
        rw [HTE.out] at f3
        have F3 := Lib.hid (f3.low (show w.heap.size ≤ lo by have := HB2.out.size; omega))
        have F4 := Lib.hid f4
        unfold set3 at f0 f1 f2
        clear f3 f4
        go_wp2
        exact bodyPost_ret (v := .agg #[.int .i64 m, .int .i64 d, .slice A8 (d + 1) c8]) (by simp [results, Try.results42, go_sem, f0, f1, f2]) rfl ⟨_, rfl, F3.out, F4.out⟩
end Go.Proofs.Ytfhdgcndiljjcab

/- additionAcross with a logarithm and its reversion, for great moduli. -/
namespace Go.Proofs.Ytfhdgcndiljjcab
open Go.RowKit Go.WideShapes Go.ChangeShapes Go.ChangeAt

theorem sum_botTG {m : Int} {d : Nat} {l : List Int} (hs : SerOkG m d l) (hz : Ser.co l 0 = 0) : Pl.botT m d (Pl.pc (xyT m d)) l l = Pl.tab m d (sumF l) := by
  have m1 := hs.m1
  have d1 := hs.d1
  unfold Pl.botT
  refine Pl.tab_congr (Pl.Eq.of m d (fun p q _ => ?_))
  have p0 : ∀ n, Ser.pw (Ser.co l) 0 n = if n = 0 then 1 else 0 := fun n => rfl
  have p1 : ∀ n, Ser.pw (Ser.co l) 1 n = Ser.co l n := fun n => by
    show Ser.cv n (Ser.pw (Ser.co l) 0) (Ser.co l) = _
    rw [show Ser.pw (Ser.co l) 0 = Ser.mon 0 1 from rfl, Ser.cv_const]
    omega
  obtain ⟨e, rfl⟩ : ∃ e, d = e + 1 := ⟨d - 1, by omega⟩
  unfold Pl.subB
  rw [show e + 1 + 1 = e + 2 from rfl]
  rw [Ser.psum_two _ (fun i hi => by
    refine (Ser.psum_low _ _ (fun j _ => ?_))
    rw [xy_pc m1 d1, if_neg (by omega), Int.zero_mul])]
  rw [Ser.psum_two _ (fun j hj => by rw [xy_pc m1 d1, if_neg (by omega), Int.zero_mul]), Ser.psum_two _ (fun j hj => by rw [xy_pc m1 d1, if_neg (by omega), Int.zero_mul])]
  have x00 : Pl.pc (xyT m (e + 1)) 0 0 = 0 := by rw [xy_pc m1 d1]; exact if_neg (by omega)
  have x01 : Pl.pc (xyT m (e + 1)) 0 1 = 1 := by rw [xy_pc m1 d1]; exact if_pos (by omega)
  have x10 : Pl.pc (xyT m (e + 1)) 1 0 = 1 := by rw [xy_pc m1 d1]; exact if_pos (by omega)
  have x11 : Pl.pc (xyT m (e + 1)) 1 1 = 0 := by rw [xy_pc m1 d1]; exact if_neg (by omega)
  simp only [x00, x01, x10, x11, p0, p1]
  unfold sumF
  by_cases hp : p = 0
  · by_cases hq : q = 0
    · simp [hp, hq, hz]
    · simp [hp, hq, hz]
  · by_cases hq : q = 0
    · simp [hp, hq, hz]
    · simp [hp, hq]
theorem acr_logG {m : Int} {d : Nat} {l : List Int} (hs : SerOkG m d l) (hz : Ser.co l 0 = 0) (A : Option Addr) (c : Nat) : acrT m d [(true, A, c, l)] = Pl.tab m d (sumF l) := sum_botTG hs hz
theorem acr_bothG {m : Int} {d : Nat} {l : List Int} (hs : SerOkG m d l) (hz : Ser.co l 0 = 0) (A A' : Option Addr) (c c' : Nat) (r : List Int) : acrT m d [(true, A, c, l), (false, A', c', r)] = Pl.hor m d r (Pl.pc (Pl.tab m d (sumF l))) (d + 1) := by
  have h := acr_logG hs hz A c
  unfold acrT at h ⊢
  rw [← h]
  rfl
theorem PS_twoG {T : TypeId} {W : World} {g : Nat} {m : Int} {d : Nat} {A : Option Addr} {c : Nat} {l : List Int} {A1 : Option Addr} {c1 : Nat} {R : List Int} (hv : VarC T W g #[.iface 66 (.agg #[.int .i64 m, .slice A l.length c]), .iface 68 (.agg #[.int .i64 m, .slice A1 R.length c1])])
    (ra : RI W A l) (rb : RI W A1 R) (s1 : SerOkG m d l) (z1 : Ser.co l 0 = 0) (s2 : SerOkG m d R) (z2 : Ser.co R 0 = 0) : PSG W g m d [(true, A, c, l), (false, A1, c1, R)] := by
  refine ⟨hv.lt, fun k b A' c' l' hk => ?_⟩
  rcases k with _ | _ | k
  · simp at hk
    obtain ⟨rfl, rfl, rfl, rfl⟩ := hk
    exact ⟨hv.cell 0 _ rfl, ra, s1, z1⟩
  · simp at hk
    obtain ⟨rfl, rfl, rfl, rfl⟩ := hk
    exact ⟨hv.cell 1 _ rfl, rb, s2, z2⟩
  · simp at hk
theorem across2_anyG (m : Int) (d : Nat) (A : Option Addr) (c : Nat) (l : List Int) (A1 : Option Addr) (c1 : Nat) (R : List Int) (g : Nat) (w : World) (hs : SerOkG m d l) (hz : Ser.co l 0 = 0) (hp : PSG w g m d [(true, A, c, l), (false, A1, c1, R)]) :
    Calls Try.prog 42 #[.agg #[.int .i64 m, .int .i64 d], .slice (some ⟨g, 0, none⟩) 2 2] w fun e w' => ∃ v, e = .returned (.agg #[.int .i64 m, .int .i64 d, v]) ∧ OwnR w' w.heap.size w'.heap.size v (Pl.hor m d R (Pl.pc (Pl.tab m d (sumF l))) (d + 1)) ∧ Below w.heap.size w w' := by
  have h := additionAcross_anyG m d g _ w hs.m1 hs.m2 hs.d1 hs.d2 hp (by simp) (fun k A' c' l' hk => by
    rcases k with _ | _ | k
    · simp at hk
    · show Pl.pc (acrT m d [(true, A, c, l)]) 0 0 = 0
      rw [acr_logG hs hz]
      exact sum_00 _ _ _
    · simp at hk)
  rw [acr_bothG hs hz] at h
  exact h
end Go.Proofs.Ytfhdgcndiljjcab

/- Contract of typicalLaw. -/
namespace Go.Proofs.Ytfhdgcndiljjcab
open Go.RowKit Go.WideShapes Go.ChangeShapes Go.ChangeAt

/-- the stretched logarithm, its law, and the law that the program makes of them -/
def strL (p : Nat) (m : Int) (d : Nat) (l : List Int) : List Int := tyL (m * strN p d) d p (fun k => Nmr.num p (Ser.co l) k % (m * strN p d) * ((strN p (p ^ k) / p ^ k : Nat) : Int)) (needN p d + 1)
def strT (p : Nat) (m : Int) (d : Nat) (l : List Int) : List (List Int) := Pl.hor (m * strN p d) d (Ser.lagG (m * strN p d) 1 (Ser.co (strL p m d l)) d d).1 (Pl.pc (Pl.tab (m * strN p d) d (sumF (strL p m d l)))) (d + 1)
def tlwP (p : Nat) (m : Int) (d : Nat) (l : List Int) : List (List Int) := Pl.tab m d fun i j => Pl.pc (strT p m d l) i j / strN p (i + j)
theorem num_wt {p : Nat} (hp : p = 2 ∨ p = 3 ∨ p = 5 ∨ p = 7) {m : Int} (m1 : 2 ≤ m) (m2 : m ≤ 10000) {d : Nat} (d1 : 1 ≤ d) (d2 : d ≤ 10) (x : Int) {k : Nat} (hk : k ≤ needN p d) :
    0 ≤ x % (m * strN p d) * ((strN p (p ^ k) / p ^ k : Nat) : Int) ∧ x % (m * strN p d) * ((strN p (p ^ k) / p ^ k : Nat) : Int) ≤ 100000000 := by
  have hs := strN_bd p (in4 hp) d (List.mem_range.2 (by omega))
  obtain ⟨S, hS⟩ : ∃ S, strN p d = S := ⟨_, rfl⟩
  rw [hS] at hs ⊢
  have h3 : k ≤ 3 := Nat.le_trans hk (needN_le3 p (in4 hp) d (List.mem_range.2 (by omega)))
  have hw : strN p (p ^ k) / p ^ k ≤ 16 := by
    rcases Nat.eq_zero_or_pos k with rfl | h0
    · have : strN p (p ^ 0) / p ^ 0 ≤ 16 := strN_div p (in4 hp) 0 (by decide) (by simp)
      exact this
    · have := (needN_at p (in4 hp) d (List.mem_range.2 (by omega)) k (List.mem_range.2 (by omega))).1 ⟨h0, hk⟩
      exact strN_div p (in4 hp) k (List.mem_range.2 (by omega)) (by omega)
  obtain ⟨W, hW⟩ : ∃ W, strN p (p ^ k) / p ^ k = W := ⟨_, rfl⟩
  rw [hW] at hw ⊢
  have hM : 2 ≤ m * (S : Int) ∧ m * (S : Int) ≤ 5120000 := by
    refine ⟨?_, ?_⟩
    · have := Int.mul_le_mul m1 (show (1 : Int) ≤ (S : Int) by omega) (by omega) (by omega); omega
    · have := Int.mul_le_mul m2 (show (S : Int) ≤ 512 by omega) (by omega) (by omega); omega
  have r1 := Int.emod_nonneg x (show m * (S : Int) ≠ 0 by omega)
  have r2 := Int.emod_lt_of_pos x (show 0 < m * (S : Int) by omega)
  obtain ⟨R, hR⟩ : ∃ R, x % (m * (S : Int)) = R := ⟨_, rfl⟩
  rw [hR] at r1 r2 ⊢
  refine ⟨Int.mul_nonneg r1 (by omega), ?_⟩
  have := Int.mul_le_mul (show R ≤ 5120000 by omega) (show (W : Int) ≤ 16 by omega) (by omega) (by omega)
  omega
theorem pow_need {p : Nat} (hp : p = 2 ∨ p = 3 ∨ p = 5 ∨ p = 7) {d : Nat} (d1 : 1 ≤ d) (d2 : d ≤ 10) {k : Nat} (hk : k ≤ needN p d) : p ^ k ≤ 10 := by
  rcases Nat.eq_zero_or_pos k with rfl | h0
  · rw [Nat.pow_zero]; omega
  · have h3 : k ≤ 3 := Nat.le_trans hk (needN_le3 p (in4 hp) d (List.mem_range.2 (by omega)))
    have := (needN_at p (in4 hp) d (List.mem_range.2 (by omega)) k (List.mem_range.2 (by omega))).1 ⟨h0, hk⟩
    omega
theorem tyF_co0 {p : Nat} (hp : 1 ≤ p) (f : Nat → Int) : ∀ k, tyF p f k 0 = 0
  | 0 => rfl
  | k + 1 => by
    show tyF p f k 0 + Ser.mon (p ^ k) (f k) 0 = 0
    have : 1 ≤ p ^ k := Nat.pow_pos hp
    rw [tyF_co0 hp f k]
    unfold Ser.mon
    rw [if_neg (by omega)]
    rfl
theorem tyL_co0 {p : Nat} (hp : 1 ≤ p) (m : Int) (d : Nat) (f : Nat → Int) (k : Nat) : Ser.co (tyL m d p f k) 0 = 0 := by
  unfold tyL
  rw [Ser.co_cut (Nat.zero_le _), tyF_co0 hp, Int.zero_emod]
theorem VarC.new1G (t : TypeId) (w : World) (o : Obj) (cs : Array Value) : VarC t ((w.alloc o).alloc (.cells cs t)) (w.heap.size + 1) cs := by
  have := VarC.new t (w.alloc o) cs
  simpa using this
theorem lagG_zero (m u : Int) (f : Nat → Int) (d : Nat) : ∀ n, Ser.co (Ser.lagG m u f d n).1 0 = 0
  | 0 => by
    show Ser.co (Ser.cut m d (Ser.mon 0 0)) 0 = 0
    rw [Ser.co_cut (Nat.zero_le _)]
    unfold Ser.mon
    rw [if_pos rfl, Int.zero_emod]
  | n + 1 => by
    rw [lag_g]
    show (List.set _ (n + 1) _)[0]?.getD 0 = 0
    rw [List.getElem?_set_ne (by omega)]
    exact lagG_zero m u f d n
set_option maxHeartbeats 16000000 in
set_option maxRecDepth 100000 in
theorem typicalLaw_any (p : Nat) (m : Int) (d : Nat) (A : Option Addr) (c : Nat) (l : List Int) (w : World) (m1 : 2 ≤ m) (m2 : m ≤ 10000) (d1 : 1 ≤ d) (d2 : d ≤ 10) (hp : p = 2 ∨ p = 3 ∨ p = 5 ∨ p = 7)
    (hx : ∀ i, -1000000000 ≤ Ser.co l i ∧ Ser.co l i ≤ 1000000000) (hr : RI w A l) :
    Calls Try.prog 20 #[.agg #[.int .i64 m, .int .i64 d], .int .i64 p, .slice A l.length c] w fun e w' => ∃ v, e = .returned (.agg #[.int .i64 m, .int .i64 d, v]) ∧ OwnR w' w.heap.size w'.heap.size v (tlwP p m d l) ∧ Below w.heap.size w w' := by
  obtain ⟨W, hW⟩ : ∃ W, ((w.alloc (.cells #[.int .i64 m, .int .i64 d] 41)).alloc (.cells #[.int .i64 p] 2)).alloc (.cells #[.int .i64 0, .int .i64 0, .slice none 0 0] 45) = W := ⟨_, rfl⟩
  have hwb : Below w.heap.size w W := by rw [← hW]; exact below_alloc _ (below_alloc _ (below_one _ _))
  have v1 : VarC 41 W w.heap.size #[.int .i64 m, .int .i64 d] := by rw [← hW]; exact ((VarC.new _ w _).keep (below_one _ _)).keep (below_one _ _)
  have cp : Cel W (w.heap.size + 1) p := by
    rw [← hW]
    have := (Cel.new (w.alloc (.cells #[.int .i64 m, .int .i64 d] 41)) p).keep (below_one _ (.cells #[.int .i64 0, .int .i64 0, .slice none 0 0] 45))
    simpa using this
  have v3 : VarC 45 W (w.heap.size + 1 + 1) #[.int .i64 0, .int .i64 0, .slice none 0 0] := by
    rw [← hW]
    have := VarC.new 45 ((w.alloc (.cells #[.int .i64 m, .int .i64 d] 41)).alloc (.cells #[.int .i64 p] 2)) #[.int .i64 0, .int .i64 0, .slice none 0 0]
    simpa using this
  have HST := Lib.hid (fun W0 => stretch_any p d W0 hp d2)
  have hnw := fun k (hk : k ≤ needN p d) => num_wt hp m1 m2 d1 d2 (Nmr.num p (Ser.co l) k) hk
  have hp1 : 1 ≤ p := by omega
  have hsb := strN_bd p (in4 hp) d (List.mem_range.2 (by omega))
  obtain ⟨S, hS⟩ : ∃ S, strN p d = S := ⟨_, rfl⟩
  rw [hS] at HST hsb hnw
  have hM : 2 ≤ m * (S : Int) ∧ m * (S : Int) ≤ 5120000 := by
    refine ⟨?_, ?_⟩
    · have := Int.mul_le_mul m1 (show (1 : Int) ≤ (S : Int) by omega) (by omega) (by omega); omega
    · have := Int.mul_le_mul m2 (show (S : Int) ≤ 512 by omega) (by omega) (by omega); omega
  obtain ⟨M, hMM⟩ : ∃ M, m * (S : Int) = M := ⟨_, rfl⟩
  rw [hMM] at hM hnw
  have hwm : IntKind.i64.wrap M = M := by rw [IntKind.wrap_i64]; omega
  have HW := Lib.hid hW
  have HB := Lib.hid hwb
  have V1 := Lib.hid v1
  have V3 := Lib.hid v3
  have CP := Lib.hid cp
  have HR := Lib.hid (hr.below hwb)
  have HK : Hid (∀ W0, Below W.heap.size W W0 → (W0.cell? ⟨w.heap.size, 0, none⟩ = some (.int .i64 m) ∧ W0.cell? ⟨w.heap.size, 1, none⟩ = some (.int .i64 d)) ∧ W0.cell? ⟨w.heap.size + 1, 0, none⟩ = some (.int .i64 p) ∧ Below W.heap.size W W0) :=
    Lib.hid (fun W0 h => ⟨⟨(v1.keep h).cell 0 _ rfl, (v1.keep h).cell 1 _ rfl⟩, (cp.keep h).1, h⟩)
  have HTS := Lib.hid (fun W0 (h : Below W.heap.size W W0) => typicalSeries_any M d p 41 #[.pointer (some ⟨w.heap.size + 1, 0, none⟩)] (fun k => ((strN p (p ^ k) / p ^ k : Nat) : Int)) A c l W0 hM.1 (by omega) d1 d2 hp hx ((hr.below hwb).below h) hnw
    (enters_fn Try.func41 (of_decide_eq_true (by kernel_rfl)) rfl)
    (fun k W1 hk h1 => typicalLawA_any p k (w.heap.size + 1) W1 (cp.keep (h.trans (h1.mono h.size))) hp (pow_need hp d1 d2 hk)))
  have hLL : strL p m d l = tyL M d p (fun k => Nmr.num p (Ser.co l) k % M * ((strN p (p ^ k) / p ^ k : Nat) : Int)) (needN p d + 1) := by unfold strL; rw [hS, hMM]
  have hTT : strT p m d l = Pl.hor M d (Ser.lagG M 1 (Ser.co (strL p m d l)) d d).1 (Pl.pc (Pl.tab M d (sumF (strL p m d l)))) (d + 1) := by unfold strT; rw [hS, hMM]
  have okL : SerOkG M d (strL p m d l) := by rw [hLL]; exact SerOkG.of hM.1 (by omega) d1 d2 _
  have zL : Ser.co (strL p m d l) 0 = 0 := by rw [hLL]; exact tyL_co0 hp1 _ _ _ _
  rw [← hLL] at HTS
  have okR : SerOkG M d (Ser.lagG M 1 (Ser.co (strL p m d l)) d d).1 := ⟨hM.1, by omega, d1, d2, Ser.lagG_len1 _ _ _ _ _, Ser.lagG_red1 (by omega) _ _ _ _ (Nat.le_refl _)⟩
  have zR : Ser.co (Ser.lagG M 1 (Ser.co (strL p m d l)) d d).1 0 = 0 := lagG_zero _ _ _ _ _
  have hFT : tlwP p m d l = Pl.tab m d fun i j => Pl.pc (strT p m d l) i j / strN p (i + j) := rfl
  obtain ⟨L, hL⟩ : ∃ L, strL p m d l = L := ⟨_, rfl⟩
  rw [hL] at HTS hTT okL zL okR zR
  obtain ⟨T, hT⟩ : ∃ T, strT p m d l = T := ⟨_, rfl⟩
  rw [hT] at hTT hFT
  have hFl : (tlwP p m d l).length = d + 1 := by rw [hFT]; exact (Pl.OkG.of_tab m1 (by omega) d1 d2 _).len
  obtain ⟨FT, hFF⟩ : ∃ FT, tlwP p m d l = FT := ⟨_, rfl⟩
  rw [hFF] at hFT hFl ⊢
  clear hW hwb v1 v3 cp hr hLL hL hT hnw hFF
  go_enter Try.func20, Try.ntmps20
  go_upto_region 1 with fail
  rw [HW.out]
  go_cut [7] (fun s7 wx => ∃ g, s7 = .pointer (some ⟨g, 0, none⟩) ∧ VarC 41 wx g #[.int .i64 M, .int .i64 d] ∧ W.heap.size ≤ g ∧ Below W.heap.size W wx)
  case first =>
    go_region_held3 (fun w' => (w'.cell? ⟨w.heap.size, 0, none⟩ = some (.int .i64 m) ∧ w'.cell? ⟨w.heap.size, 1, none⟩ = some (.int .i64 d)) ∧ w'.cell? ⟨w.heap.size + 1, 0, none⟩ = some (.int .i64 p) ∧ Below W.heap.size W w') (first | exact HK.out _ (below_drew0 _) | exact HK.out _ (below_alloc _ (trd (by assumption))) | exact (by assumption) | exact HK.out _ ((below_one W _).drew)) (first
      | (go_at_call 39; with_reducible refine Calls.mono (HST.out _) ?_; rintro e wa ⟨rfl, hwa⟩; subst hwa))
    all_goals
      go_wp2_with fail
      go_meet
      case rel => first | exact ⟨W.heap.size, rfl, (VarC.new _ W _).drew, Nat.le_refl _, (below_one W _).drew⟩
  case rest =>
    obtain ⟨w2, hwc⟩ : ∃ w9, w9 = wc := ⟨_, rfl⟩
    subst hwc
    obtain ⟨g7, rfl, v7, hg7, hb2⟩ := hcut
    go_upto_region 2 with fail
    have HB2 := Lib.hid hb2
    have V7 := Lib.hid v7
    have HLL := Lib.hid okL.len
    clear hb2 v7
    have hk := HK.out _ HB2.out
    obtain ⟨-, kp, -⟩ := hk
    obtain ⟨x0, x1, -, -⟩ := V7.out.tells2
    go_wp2_with (go_at_call 40; with_reducible refine Calls.mono (HTS.out _ HB2.out) ?_; rintro e w3 ⟨v3', rfl, ho3, hb3⟩; obtain ⟨A3, c3, hv3, -⟩ := ho3.form; subst hv3; rw [HLL.out] at ho3 ⊢)
    obtain ⟨w4, hw4⟩ : ∃ w4, w3.alloc (.cells #[.int .i64 M, .slice A3 (d + 1) c3] 66) = w4 := ⟨_, rfl⟩
    have hlt3 : w2.heap.size ≤ w3.heap.size := hb3.size
    have hb4 : Below w2.heap.size w2 w4 := by rw [← hw4]; exact below_alloc _ hb3
    have v8 : VarC 66 w4 w3.heap.size #[.int .i64 M, .slice A3 (d + 1) c3] := by rw [← hw4]; exact VarC.new _ _ _
    have ra : RI w4 A3 L := by rw [← hw4]; exact (ho3.ri.below (below_one _ _))
    obtain ⟨g8, hg8⟩ : ∃ g8, w3.heap.size = g8 := ⟨_, rfl⟩
    have HW4 := Lib.hid hw4
    have HG8 := Lib.hid hg8
    rw [hg8] at v8 hlt3
    have HB4 := Lib.hid (below_step HB2.out hb4)
    have v7 := V7.out.keep hb4
    have HK4 : Hid (∀ W0, Below w4.heap.size w4 W0 → (W0.cell? ⟨g7, 0, none⟩ = some (.int .i64 M) ∧ W0.cell? ⟨g7, 1, none⟩ = some (.int .i64 d)) ∧ (W0.cell? ⟨g8, 0, none⟩ = some (.int .i64 M) ∧ W0.cell? ⟨g8, 1, none⟩ = some (.slice A3 (d + 1) c3)) ∧ Below w4.heap.size w4 W0) :=
      Lib.hid (fun W0 h => ⟨⟨(v7.keep h).cell 0 _ rfl, (v7.keep h).cell 1 _ rfl⟩, ⟨(v8.keep h).cell 0 _ rfl, (v8.keep h).cell 1 _ rfl⟩, h⟩)
    have HRV : Hid (∀ W0, Below w4.heap.size w4 W0 → Calls Try.prog 43 #[.agg #[.int .i64 M, .slice A3 (d + 1) c3]] W0 fun e w' => ∃ v, e = .returned (.agg #[.int .i64 M, v]) ∧ OwnI w' W0.heap.size v (Ser.lagG M 1 (Ser.co L) d d).1 ∧ Below W0.heap.size W0 w') :=
      Lib.hid (fun W0 h => by have := reversion_anyG M d A3 c3 L W0 okL (ra.below h); rw [okL.len] at this; exact this)
    have HAC := Lib.hid (fun (A1 : Option Addr) (c1 g : Nat) (W0 : World) (hp : PSG W0 g M d [(true, A3, c3, L), (false, A1, c1, (Ser.lagG M 1 (Ser.co L) d d).1)]) => across2_anyG M d A3 c3 L A1 c1 (Ser.lagG M 1 (Ser.co L) d d).1 g W0 okL zL hp)
    have HP2 : Hid (∀ (T : TypeId) (W0 : World) (g : Nat) (A1 : Option Addr) (c1 : Nat), VarC T W0 g #[.iface 66 (.agg #[.int .i64 M, .slice A3 (d + 1) c3]), .iface 68 (.agg #[.int .i64 M, .slice A1 (d + 1) c1])] → Below w4.heap.size w4 W0 → RI W0 A1 (Ser.lagG M 1 (Ser.co L) d d).1 → PSG W0 g M d [(true, A3, c3, L), (false, A1, c1, (Ser.lagG M 1 (Ser.co L) d d).1)]) :=
      Lib.hid (fun T W0 g A1 c1 hv h rb => by
        refine PS_twoG (T := T) ?_ (ra.below h) rb okL zL okR zR
        rw [okL.len, okR.len]; exact hv)
    rw [← hTT] at HAC
    have HRL := Lib.hid okR.len
    obtain ⟨R, hR⟩ : ∃ R, (Ser.lagG M 1 (Ser.co L) d d).1 = R := ⟨_, rfl⟩
    rw [hR] at HRV HAC HP2 HRL
    have hTl : T.length = d + 1 := by rw [hTT]; exact (Pl.hor_okG hM.1 (by omega) d1 d2 _ _ _).len
    have okT : Pl.OkG M d T := by rw [hTT]; exact Pl.hor_okG hM.1 (by omega) d1 d2 _ _ _
    have HFI : Hid (∀ (g9 : Nat) (A9 : Option Addr) (c9 : Nat) (W0 : World), Below W.heap.size W W0 → VarC 43 W0 g9 #[.int .i64 M, .int .i64 d, .slice A9 (d + 1) c9] → RP W0 A9 T → Calls Try.prog 44 #[.agg #[.int .i64 m, .int .i64 d], .func (.func 45) #[] #[.pointer (some ⟨g9, 0, none⟩), .pointer (some ⟨w.heap.size + 1, 0, none⟩)]] W0 fun e w' => ∃ v, e = .returned (.agg #[.int .i64 m, .int .i64 d, v]) ∧ OwnR w' W0.heap.size w'.heap.size v FT ∧ Below W0.heap.size W0 w') :=
      Lib.hid (fun g9 A9 c9 W0 h hv hrp => by
        rw [hFT]
        have hbx : GBox W0 g9 M d A9 T.length c9 := by rw [hTl]; exact ⟨hv.cell 0 _ rfl, hv.cell 1 _ rfl, hv.cell 2 _ rfl, hv.lt⟩
        exact filled_anyG m d 45 #[.pointer (some ⟨g9, 0, none⟩), .pointer (some ⟨w.heap.size + 1, 0, none⟩)] (fun i j => Pl.pc T i j / (strN p (i + j) : Int)) W0 (by omega) (by omega) (by omega)
          (fun i j _ => by
            have hb := okT.pc i j
            have b1 : 0 ≤ Pl.pc T i j / (strN p (i + j) : Int) := Int.ediv_nonneg hb.1 (by omega)
            have b2 : Pl.pc T i j / (strN p (i + j) : Int) ≤ Pl.pc T i j := Int.ediv_le_self _ hb.1
            obtain ⟨Z, hZ⟩ : ∃ Z, Pl.pc T i j / (strN p (i + j) : Int) = Z := ⟨_, rfl⟩
            rw [hZ] at b1 b2 ⊢
            omega)
          (enters_fn Try.func45 (of_decide_eq_true (by kernel_rfl)) rfl)
          (fun i j W1 hij hb => typicalLawB_any p i j g9 (w.heap.size + 1) M d A9 c9 T W1 (hbx.keep hb) ((CP.out.keep h).keep hb) okT (hrp.below hb) hij hp))
    clear hFT
    clear hw4 hb4 v8 v7 ra ho3 hb3 kp x0 x1 hg8 okL okR zL zR hTT hR
    go_upto_region 3 with fail
    rw [HW4.out, HG8.out]
    go_cut [9] (fun s9 wx => ∃ g A1 c1 lo hi, s9 = .pointer (some ⟨g, 0, none⟩) ∧ VarC 43 wx g #[.int .i64 M, .int .i64 d, .slice A1 (d + 1) c1] ∧ OwnR wx lo hi (.slice A1 (d + 1) c1) T ∧ (g < lo ∨ hi ≤ g) ∧ w4.heap.size ≤ lo ∧ hi ≤ wx.heap.size ∧ Below w4.heap.size w4 wx ∧ w4.heap.size ≤ g)
    case first =>
      go_region_held3 (fun w' => (w'.cell? ⟨g7, 0, none⟩ = some (.int .i64 M) ∧ w'.cell? ⟨g7, 1, none⟩ = some (.int .i64 d)) ∧ (w'.cell? ⟨g8, 0, none⟩ = some (.int .i64 M) ∧ w'.cell? ⟨g8, 1, none⟩ = some (.slice A3 (d + 1) c3)) ∧ Below w4.heap.size w4 w') (first | exact HK4.out _ (reg_finG hwg hgc hle hv hog hbel M d).2.2.2.2.2.1 | exact HK4.out _ (below_drew0 _) | with_reducible exact HK4.out _ hbel | with_reducible exact HK4.out _ hka | exact HK4.out _ (below_alloc _ (trd (by assumption))) | exact HK4.out _ (below_alloc _ hbel) | exact (by assumption)) (first
        | (go_at_call 43; with_reducible refine Calls.mono (HRV.out _ (trd (by assumption))) ?_; rintro e wa ⟨va, rfl, hoa, hba⟩; obtain ⟨A1, c1, hva, -⟩ := hoa.form; subst hva; rw [HRL.out] at hoa ⊢; obtain ⟨hka, hla⟩ := reg_end2 (by assumption) hba)
        | (go_at_call 42; with_reducible refine Calls.mono (HAC.out A1 c1 _ _ (by first
            | exact HP2.out _ _ _ A1 c1 (VarC.new _ wa _) (below_alloc _ hka) (hoa.ri.below (below_one _ _))
            | exact HP2.out _ _ _ A1 c1 (VarC.new1G _ wa _ _) (below_alloc _ (below_alloc _ hka)) (hoa.ri.below (below_alloc _ (below_one _ _)))
            | exact HP2.out _ _ _ A1 c1 ((VarC.new _ wa _).keep (below_one _ _)) (below_alloc _ (below_alloc _ hka)) (hoa.ri.below (below_alloc _ (below_one _ _))))) ?_; rintro e wd ⟨sg, rfl, hog, hbd⟩; obtain ⟨Ag, cg, rfl, -⟩ := hog.len; rw [hTl] at hog ⊢; obtain ⟨hbel, hle⟩ := reg_end2 (by assumption) hbd; first | (with_reducible refine use_it (varC_keep ((((VarC.new 43 w4 _).keep (below_one _ _)).drew).keep hba) hbd) ?_; rintro ⟨hv, hgc⟩; have hwg := varC_at (k := w4.heap.size) hv (Nat.le_refl _); obtain ⟨q0, q1, q2, q3, q4, q5⟩ := hv.tells3) | (with_reducible refine use_it (varC_keep (((VarC.new 43 w4 _).drew.keep hba).keep (below_one _ _)) hbd) ?_; rintro ⟨hv, hgc⟩; have hwg := varC_at (k := w4.heap.size) hv (Nat.le_refl _); obtain ⟨q0, q1, q2, q3, q4, q5⟩ := hv.tells3) | (with_reducible refine use_it (varC_keep ((VarC.new1G 43 w4 _ _).drew.keep hba) hbd) ?_; rintro ⟨hv, hgc⟩; have hwg := varC_at (k := w4.heap.size) hv (Nat.le_succ _); obtain ⟨q0, q1, q2, q3, q4, q5⟩ := hv.tells3) | (with_reducible refine use_it (varC_keep ((VarC.new 43 wa _).keep (below_one _ _)) hbd) ?_; rintro ⟨hv, hgc⟩; have hwg := varC_at (k := w4.heap.size) hv (hka.size); obtain ⟨q0, q1, q2, q3, q4, q5⟩ := hv.tells3) | (with_reducible refine use_it (varC_keep (VarC.new1G 43 wa _ _) hbd) ?_; rintro ⟨hv, hgc⟩; have hwg := varC_at (k := w4.heap.size) hv (Nat.le_trans hka.size (Nat.le_succ _)); obtain ⟨q0, q1, q2, q3, q4, q5⟩ := hv.tells3) | (with_reducible refine use_it (varC_keep (VarC.new 43 wa _) hbd) ?_; rintro ⟨hv, hgc⟩; have hwg := varC_at (k := w4.heap.size) hv (hka.size); obtain ⟨q0, q1, q2, q3, q4, q5⟩ := hv.tells3) | skip))
      all_goals
        go_wp2_with fail
        go_meet
        case rel => first | exact ⟨_, _, _, _, _, rfl, reg_finG hwg hgc hle hv hog hbel M d⟩ | exact ⟨_, _, _, _, _, rfl, reg_newG hle hog hbel M d _⟩
    case rest =>
      obtain ⟨w5, hwc⟩ : ∃ w9, w9 = wc := ⟨_, rfl⟩
      subst hwc
      obtain ⟨g9, A9, c9, lo9, hi9, rfl, v9, o9, hg9, hl9, hh9, hb5, hgw⟩ := hcut
      have V9 := Lib.hid v9
      have HB5 := Lib.hid (below_step HB4.out hb5)
      have HRP := Lib.hid o9.rp
      obtain ⟨⟨k0, k1⟩, kp, -⟩ := HK.out _ HB5.out
      clear v9 o9 hb5
      go_wp2_with (go_at_call 44; with_reducible refine Calls.mono (HFI.out _ _ _ _ HB5.out V9.out HRP.out) ?_; rintro e w6 ⟨v6, rfl, ho6, hb6⟩; obtain ⟨A2, c2, hv6, -⟩ := ho6.len; subst hv6; rw [hFl] at ho6 ⊢; have hb := below_step HB5.out hb6; have hv := V3.out.keep hb; obtain ⟨q0, q1, q2, q3, q4, q5⟩ := hv.tells3; obtain ⟨f0, f1, f2, f3, f4⟩ := fin_grid (w := w) hv ho6 (.inl (by have := V3.out.lt; have := HB5.out.size; omega)) (by omega) (Nat.le_refl _) (below_step HB.out hb) (.int .i64 m) (.int .i64 d) (.slice A2 (d + 1) c2); have F3 := Lib.hid (f3.low (show w.heap.size ≤ w5.heap.size from Nat.le_trans HB.out.size HB5.out.size)); have F4 := Lib.hid f4; unfold set3 at f0 f1 f2; clear f3 f4)
      exact bodyPost_ret (v := .agg #[.int .i64 m, .int .i64 d, .slice A2 (d + 1) c2]) (by simp [results, Try.results20, go_sem, f0, f1, f2]) rfl ⟨_, rfl, F3.out, F4.out⟩
end Go.Proofs.Ytfhdgcndiljjcab

/- Plain, for TypicalLaw: the law that the program makes of the stretched logarithm is Hazewinkel's one. -/
namespace Go.Proofs.Ytfhdgcndiljjcab

namespace Pl
open Ser (psum)
theorem hor_horqU (m : Int) (d : Nat) (l : List Int) (F : Nat → Nat → Int) (hl : l.length = d + 1) : ∀ k, hor m d l F k = horq m d l F k := by
  intro k
  induction k with
  | zero => rfl
  | succ k ih =>
    show tab m d _ = tab m d _
    rw [ih, hl]; rfl
theorem hor_aftU {m : Int} {d : Nat} {l : List Int} {G : Nat → Nat → Int} (hl : l.length = d + 1) (F : Nat → Nat → Int) (h : Eq m d F G) : Eq m d (pc (hor m d l F (d + 1))) (aft (Ser.co l) G (d + 1)) := by
  rw [hor_horqU m d l F hl]
  exact (horq_aft hl F).trans (aft_congr (d + 1) (fun _ _ => rfl) h)
theorem pw2_row0 {F G : Nat → Nat → Int} {d : Nat} (h : ∀ i, i ≤ d → F i 0 = G i 0) : ∀ k i, i ≤ d → pw2 F k i 0 = pw2 G k i 0
  | 0, _, _ => rfl
  | k + 1, i, hi => by
    show psum (fun x => psum (fun y => pw2 F k x y * F (i - x) (0 - y)) (0 + 1)) (i + 1) = psum (fun x => psum (fun y => pw2 G k x y * G (i - x) (0 - y)) (0 + 1)) (i + 1)
    refine Ser.psum_ext _ (fun x hx => Ser.psum_ext _ (fun y hy => ?_))
    obtain rfl : y = 0 := by omega
    rw [pw2_row0 h k x (by omega), Nat.sub_self, h (i - x) (by omega)]
theorem pw2_col0 {F G : Nat → Nat → Int} {d : Nat} (h : ∀ i, i ≤ d → F 0 i = G 0 i) : ∀ k i, i ≤ d → pw2 F k 0 i = pw2 G k 0 i
  | 0, _, _ => rfl
  | k + 1, i, hi => by
    show psum (fun x => psum (fun y => pw2 F k x y * F (0 - x) (i - y)) (i + 1)) (0 + 1) = psum (fun x => psum (fun y => pw2 G k x y * G (0 - x) (i - y)) (i + 1)) (0 + 1)
    refine Ser.psum_ext _ (fun x hx => Ser.psum_ext _ (fun y hy => ?_))
    obtain rfl : x = 0 := by omega
    rw [pw2_col0 h k y (by omega), Nat.sub_self, h (i - y) (by omega)]
end Pl

namespace Tyc
theorem famS_row {p : Nat} (hp : p = 2 ∨ p = 3 ∨ p = 5 ∨ p = 7) (v : Nat → Int) {i : Nat} (h : i ≤ 10) : famS p v i 0 = Pl.mon2 1 0 i 0 := by
  unfold famS
  rw [fam_side hp v (.inr rfl) (by omega)]
  unfold Pl.xyF Pl.mon2
  by_cases h1 : i = 1
  · subst h1; simp
  · rw [if_neg (by omega), if_neg (by omega)]; simp
theorem famS_col {p : Nat} (hp : p = 2 ∨ p = 3 ∨ p = 5 ∨ p = 7) (v : Nat → Int) {i : Nat} (h : i ≤ 10) : famS p v 0 i = Pl.mon2 0 1 0 i := by
  unfold famS
  rw [fam_side hp v (.inl rfl) (by omega)]
  unfold Pl.xyF Pl.mon2
  by_cases h1 : i = 1
  · subst h1; simp
  · rw [if_neg (by omega), if_neg (by omega)]; simp
theorem aft_row {p : Nat} (hp : p = 2 ∨ p = 3 ∨ p = 5 ∨ p = 7) (v : Nat → Int) (l : Nat → Int) {d i : Nat} (hd : d ≤ 10) (hi : i ≤ d) : Pl.aft l (famS p v) (d + 1) i 0 = l i := by
  have h := Pl.aft_x l (d + 1) i 0 (by omega)
  rw [if_pos rfl] at h
  rw [← h]
  exact Ser.psum_ext _ (fun k _ => by rw [Pl.pw2_row0 (d := d) (G := Pl.mon2 1 0) (fun x hx => famS_row hp v (by omega)) k i hi])
theorem aft_col {p : Nat} (hp : p = 2 ∨ p = 3 ∨ p = 5 ∨ p = 7) (v : Nat → Int) (l : Nat → Int) {d i : Nat} (hd : d ≤ 10) (hi : i ≤ d) : Pl.aft l (famS p v) (d + 1) 0 i = l i := by
  have h := Pl.aft_y l (d + 1) 0 i (by omega)
  rw [if_pos rfl] at h
  rw [← h]
  exact Ser.psum_ext _ (fun k _ => by rw [Pl.pw2_col0 (d := d) (G := Pl.mon2 0 1) (fun x hx => famS_col hp v (by omega)) k i hi])
theorem tyF_congr {M : Int} {p : Nat} {f g : Nat → Int} (h : ∀ e, f e % M = g e % M) (k n : Nat) : tyF p f k n % M = tyF p g k n % M := by
  refine Ser.psum_congr _ (fun e _ => ?_)
  unfold Ser.mon
  by_cases hc : n = p ^ e
  · rw [if_pos hc, if_pos hc]; exact h e
  · rw [if_neg hc, if_neg hc]
end Tyc

section
variable {p : Nat} {m : Int} {d : Nat}
theorem strL_co (l : List Int) {k : Nat} (hk : k ≤ d) :
    Ser.co (strL p m d l) k % (m * strN p d) = tyF p (fun e => Nmr.num p (Ser.co l) e * (Tyc.wtS p e : Int)) (needN p d + 1) k % (m * strN p d) := by
  unfold strL tyL
  rw [Ser.co_cut hk, Int.emod_emod]
  refine Tyc.tyF_congr (fun e => ?_) _ _
  show _ % _ * ((Tyc.wtS p e : Nat) : Int) % _ = _
  rw [Int.mul_emod, Int.emod_emod, ← Int.mul_emod]
theorem strL_one (hp : p = 2 ∨ p = 3 ∨ p = 5 ∨ p = 7) (hd : 1 ≤ d) (l : List Int) : (Ser.co (strL p m d l) 1 * 1) % (m * strN p d) = 1 % (m * strN p d) := by
  rw [Int.mul_one, strL_co l hd]
  unfold tyF
  rw [Pl.psum_split]
  rw [Tyc.psum_nil (f := fun e => Ser.mon (p ^ (e + 1)) (Nmr.num p (Ser.co l) (e + 1) * (Tyc.wtS p (e + 1) : Int)) 1) _ (fun e _ => by
    have h1 : p ^ 1 ≤ p ^ (e + 1) := Nat.pow_le_pow_right (by omega) (by omega)
    rw [Nat.pow_one] at h1
    show Ser.mon _ _ 1 = 0
    unfold Ser.mon
    rw [if_neg (by omega)])]
  have h0 : Nmr.num p (Ser.co l) 0 = 1 := rfl
  have hw : Tyc.wtS p 0 = 1 := by rcases hp with rfl | rfl | rfl | rfl <;> rfl
  show (Ser.mon (p ^ 0) (Nmr.num p (Ser.co l) 0 * (Tyc.wtS p 0 : Int)) 1 + 0) % _ = _
  rw [h0, hw]
  rfl
/-- the stretched logarithm after the stretched law is the sum of it in both variables -/
theorem strL_sum (hp : p = 2 ∨ p = 3 ∨ p = 5 ∨ p = 7) (d2 : d ≤ 10) (l : List Int) :
    Pl.Eq (m * strN p d) d (sumF (strL p m d l)) (Pl.aft (Ser.co (strL p m d l)) (Tyc.famS p (Ser.co l)) (d + 1)) := by
  intro i j hij
  unfold sumF
  by_cases hi : i = 0
  · subst hi
    rw [if_pos rfl, Tyc.aft_col hp _ _ d2 (by omega)]
    by_cases hj : j = 0
    · subst hj
      rw [if_pos rfl]
      have : Ser.co (strL p m d l) 0 = 0 := tyL_co0 (by omega) _ _ _ _
      rw [this]
    · rw [if_neg hj]
  · rw [if_neg hi]
    by_cases hj : j = 0
    · subst hj
      rw [if_pos rfl, Tyc.aft_row hp _ _ d2 (by omega)]
    · rw [if_neg hj]
      have h := Pl.aft_congr (m := m * strN p d) (d := d) (d + 1) (fun k hk => strL_co (p := p) (m := m) (d := d) l (show k ≤ d by omega)) (Pl.Eq.refl _ d (Tyc.famS p (Ser.co l))) i j hij
      rw [h, Tyc.ty_inner hp _ d2 (by omega) (by omega) hij]
theorem strT_fam (hp : p = 2 ∨ p = 3 ∨ p = 5 ∨ p = 7) (d1 : 1 ≤ d) (d2 : d ≤ 10) (l : List Int) :
    Pl.Eq (m * strN p d) d (Pl.pc (strT p m d l)) (Tyc.famS p (Ser.co l)) := by
  have hL0 : Ser.co (strL p m d l) 0 = 0 := tyL_co0 (by omega) _ _ _ _
  have hleft := Ser.lagG_left hL0 (strL_one (m := m) hp d1 l) d
  have hF0 := Tyc.famS_00 hp (Ser.co l)
  unfold strT
  refine (Pl.hor_aftU (Ser.lagG_len1 _ _ _ _ _) _ ((Pl.pc_tab_eq _ _ _).trans (strL_sum hp d2 l))).trans ?_
  refine (Pl.Eq.of _ _ (fun i j hij => Tyc.aft_comp _ hL0 hF0 d i j hij)).trans ?_
  refine (Pl.aft_congr (d + 1) (fun k hk => hleft.2 k (by omega)) (Pl.Eq.refl _ d _)).trans ?_
  rw [Pl.aft_t 1 _ (d + 1) (by omega), Pl.one_sm]
  exact Pl.Eq.refl _ _ _
/-- both laws are one -/
theorem tlw_law (hp : p = 2 ∨ p = 3 ∨ p = 5 ∨ p = 7) (m1 : 2 ≤ m) (d1 : 1 ≤ d) (d2 : d ≤ 10) (l : List Int) : tlwP p m d l = lawT p m d (Ser.co l) := by
  rw [lawT_fam hp m1 d1 d2]
  unfold tlwP
  refine Pl.tab_congr (fun i j hij => ?_)
  have h := strT_fam (m := m) hp d1 d2 l i j hij
  have hr : Pl.pc (strT p m d l) i j % (m * strN p d) = Pl.pc (strT p m d l) i j := by
    unfold strT
    show Pl.pc (Pl.tab _ d _) i j % _ = Pl.pc (Pl.tab _ d _) i j
    rw [Pl.pc_tab hij, Int.emod_emod]
  rw [← hr, h]
  exact Tyc.famS_back hp (Ser.co l) m hij
end
end Go.Proofs.Ytfhdgcndiljjcab

/- Plain number theory: what trial division tells. No program in sight. -/
namespace Go.Proofs.Ytfhdgcndiljjcab
namespace Num

/-- n is a prime number -/
def prB (n : Int) : Bool := decide (1 < n ∧ ∀ d : Nat, d < n.toNat → 2 ≤ d → ¬ (d : Int) ∣ n)
theorem prB_iff (n : Int) : prB n = true ↔ 1 < n ∧ ∀ d : Nat, d < n.toNat → 2 ≤ d → ¬ (d : Int) ∣ n := by unfold prB; exact decide_eq_true_iff
theorem prB_small {n : Int} (h : n < 4) : prB n = decide (1 < n) := by
  rw [Bool.eq_iff_iff, prB_iff, decide_eq_true_iff]
  constructor
  · exact fun h => h.1
  · refine fun h1 => ⟨h1, fun d h2 h3 h4 => ?_⟩
    obtain ⟨rfl, rfl⟩ : d = 2 ∧ n = 3 := by omega
    omega
theorem prB_no {n : Int} (d : Nat) (h1 : 2 ≤ d) (h2 : (d : Int) < n) (h3 : n % (d : Int) = 0) : prB n = false := by
  rw [← Bool.not_eq_true, prB_iff]
  exact fun h => h.2 d (by omega) h1 (Int.dvd_of_emod_eq_zero h3)

/-- no divisor of n from 2 on lies below d -/
def LowI (d : Nat) (n : Int) : Prop := ∀ e : Nat, 2 ≤ e → e < d → ¬ (e : Int) ∣ n
theorem LowI.two (n : Int) : LowI 2 n := fun e h1 h2 => by omega
theorem LowI.succ {d : Nat} {n : Int} (h : LowI d n) (hn : ¬ n % (d : Int) = 0) : LowI (d + 1) n := by
  intro e h1 h2
  rcases (show e < d ∨ e = d by omega) with c | rfl
  · exact h e h1 c
  · exact fun h3 => hn (Int.emod_eq_zero_of_dvd h3)
theorem LowI.prime {d : Nat} {n : Int} (h : LowI d n) (hn : 1 < n) (hd : n < (d : Int) * d) : prB n = true := by
  refine (prB_iff n).2 ⟨hn, fun e h1 h2 h3 => ?_⟩
  obtain ⟨N, rfl⟩ := Int.eq_ofNat_of_zero_le (show 0 ≤ n by omega)
  have h3' : e ∣ N := Int.natCast_dvd_natCast.1 h3
  obtain ⟨f, hf⟩ := h3'
  have hd' : N < d * d := by rw [← Int.natCast_mul] at hd; omega
  have hde : d ≤ e := by
    apply Nat.le_of_not_lt
    intro hlt
    exact h e h2 hlt h3
  have hf2 : 2 ≤ f := by
    apply Nat.le_of_not_lt
    intro hlt
    have : f = 0 ∨ f = 1 := by omega
    rcases this with rfl | rfl <;> simp at hf <;> omega
  have hdf : d ≤ f := by
    apply Nat.le_of_not_lt
    intro hlt
    exact h f hf2 hlt (Int.natCast_dvd_natCast.2 ⟨e, by rw [hf, Nat.mul_comm]⟩)
  have := Nat.mul_le_mul hde hdf
  omega
theorem LowI.start {n : Int} (h2 : ¬ n % 2 = 0) (h3 : ¬ n % 3 = 0) : LowI 5 n := by
  intro e h1 h4 h5
  have := Int.emod_eq_zero_of_dvd h5
  rcases (show e = 2 ∨ e = 3 ∨ e = 4 by omega) with rfl | rfl | rfl <;> omega
theorem LowI.six {m : Nat} {n : Int} (h : LowI (m - 1) n) (hm : 6 ≤ m) (h6 : m % 6 = 0) (ha : ¬ n % ((m : Int) - 1) = 0) (hb : ¬ n % ((m : Int) + 1) = 0) : LowI (m + 5) n := by
  intro e h1 h2 h3
  have hz := Int.emod_eq_zero_of_dvd h3
  rcases (show e < m - 1 ∨ e = m - 1 ∨ e = m + 1 ∨ e % 2 = 0 ∨ e % 3 = 0 by omega) with c | rfl | rfl | c | c
  · exact h e h1 c h3
  · apply ha
    rw [← hz]; congr 1; omega
  · apply hb
    rw [← hz]; congr 1
  · refine h 2 (by omega) (by omega) (Int.dvd_trans ?_ h3)
    exact Int.natCast_dvd_natCast.2 (Nat.dvd_of_mod_eq_zero c)
  · refine h 3 (by omega) (by omega) (Int.dvd_trans ?_ h3)
    exact Int.natCast_dvd_natCast.2 (Nat.dvd_of_mod_eq_zero c)
theorem sq_le {d c : Int} (h0 : 0 ≤ d) (h : d ≤ c) : 0 ≤ d * d ∧ d * d ≤ c * c :=
  ⟨Int.mul_nonneg h0 h0, Int.mul_le_mul h h h0 (by omega)⟩
theorem lin_sq {d k : Int} (h0 : 0 ≤ d) (h : k ≤ d) : k * d ≤ d * d := Int.mul_le_mul_of_nonneg_right h h0

end Num
end Go.Proofs.Ytfhdgcndiljjcab

/- Contracts of the two trial divisions. -/
namespace Go.Proofs.Ytfhdgcndiljjcab
open Go.RowKit Go.WideShapes Go.ChangeShapes Go.ChangeAt

theorem idx0 (x y : Value) (w : World) : (Instr.index 88 (.agg #[x, y]) (.int .i64 0)).run Try.prog w = .ok x w := by kernel_rfl
theorem idx1 (x y : Value) (w : World) : (Instr.index 88 (.agg #[x, y]) (.int .i64 1)).run Try.prog w = .ok y w := by kernel_rfl

set_option maxHeartbeats 1000000 in
theorem isPrime_any (n : Int) (w : World) (h2 : n ≤ 1000000000000) :
    Calls Try.prog 47 #[.int .i64 n] w fun e w' => e = .returned (.bool (Num.prB n)) ∧ w = w' := by
  by_cases h4 : n < 4
  · have HF := Lib.hid (Num.prB_small h4)
    go_enter Try.func47, Try.ntmps47
    go_wp2
    go_step3
    go_wp2
    rw [Exit.noGoto_ret]
    go_ret
    exact ⟨ret_bool (by rw [HF.out]), rfl⟩
  · have i0 := idx0
    have i1 := idx1
    by_cases hz2 : n % 2 = 0
    · have HF := Lib.hid (Num.prB_no (n := n) 2 (by omega) (by omega) hz2)
      go_enter Try.func47, Try.ntmps47
      go_wp2
      go_step3
      go_wp2
      go_step3
      go_wp2
      refine wp_loop_rounds 1 ?_
      rw [rounds_succ]
      go_wp2
      rw [Exit.noGoto_ret]
      go_ret
      exact ⟨ret_bool HF.out.symm, rfl⟩
    · by_cases hz3 : n % 3 = 0
      · have HF := Lib.hid (Num.prB_no (n := n) 3 (by omega) (by omega) hz3)
        go_enter Try.func47, Try.ntmps47
        go_wp2
        go_step3
        go_wp2
        go_step3
        go_wp2
        refine wp_loop_rounds 1 ?_
        rw [rounds_succ]
        go_wp2
        rw [Exit.noGoto_ret]
        go_ret
        exact ⟨ret_bool HF.out.symm, rfl⟩
      · have HS := Lib.hid (Num.LowI.start hz2 hz3)
        have HP := Lib.hid (show (n % 2 != 0 && n % 3 != 0) = true by simp [hz2, hz3])
        go_enter Try.func47, Try.ntmps47
        go_wp2
        go_step3
        go_wp2
        go_step3
        go_wp2
        clear hz2 hz3
        go_loopg [3, 4] 1000100 (fun g p m wr => w = wr ∧ ∃ M : Nat, p = .bool true ∧ m = .int .i64 M ∧ 6 ≤ M ∧ M ≤ 1000008 ∧ M % 6 = 0 ∧ g + M = 1000106 ∧ Num.LowI (M - 1) n)
        case atStart => exact ⟨rfl, 6, by rw [HP.out], rfl, by omega, by omega, by omega, by omega, HS.out⟩
        case round =>
          obtain ⟨rfl, M, rfl, rfl, m1, m2, m6, hg, hlow⟩ := hrel
          have HL := Lib.hid hlow
          have HG := Lib.hid hg
          have H6 := Lib.hid m6
          clear hlow hg m6
          obtain ⟨p1, p2⟩ := Num.sq_le (d := (M : Int) - 1) (c := 1000007) (by omega) (by omega)
          have p3 : ((M : Int) - 1) * (M - 1) ≤ 1000014000049 := by omega
          clear p2
          by_cases hsq : ((M : Int) - 1) * (M - 1) ≤ n
          · have hlin := Num.lin_sq (d := (M : Int) - 1) (k := 5) (by omega) (by omega)
            by_cases ha : n % ((M : Int) - 1) = 0
            · have HF := Lib.hid (Num.prB_no (n := n) (M - 1) (by omega) (by omega) (by rw [← ha]; congr 1; omega))
              have ha' : (n % ((M : Int) - 1) == 0) = true := by simpa using ha
              clear ha
              go_wp2
              refine wp_loop_rounds 3 ?_
              rw [rounds_succ]
              go_wp2
              rw [Exit.noGoto_ret]
              go_ret
              exact ⟨ret_bool HF.out.symm, rfl⟩
            · have ha' : (n % ((M : Int) - 1) == 0) = false := by simpa using ha
              by_cases hb : n % ((M : Int) + 1) = 0
              · have HF := Lib.hid (Num.prB_no (n := n) (M + 1) (by omega) (by omega) (by rw [← hb]; congr 1))
                have hb' : (n % ((M : Int) + 1) == 0) = true := by simpa using hb
                clear ha hb
                go_wp2
                refine wp_loop_rounds 3 ?_
                rw [rounds_succ]
                go_wp2
                rw [rounds_succ]
                go_wp2
                rw [Exit.noGoto_ret]
                go_ret
                exact ⟨ret_bool HF.out.symm, rfl⟩
              · have HN := Lib.hid (Num.LowI.six HL.out m1 H6.out ha hb)
                have hb' : (n % ((M : Int) + 1) == 0) = false := by simpa using hb
                have hM : M ≤ 1000002 := by
                  apply Nat.le_of_not_lt; intro hlt
                  have := Num.sq_le (d := 1000002) (c := (M : Int) - 1) (by omega) (by omega)
                  omega
                clear ha hb
                go_wp2
                refine wp_loop_rounds 3 ?_
                rw [rounds_succ]
                go_wp2
                rw [rounds_succ]
                go_wp2
                rw [rounds_succ]
                go_wp2
                have hG := HG.out
                go_roundg (gk - 6)
                case measure => omega
                case rel => exact ⟨rfl, M + 6, by first | rfl | rw [HP.out], by go_num, by omega, by omega, by have := H6.out; omega, by omega, HN.out⟩
          · have HF := Lib.hid (Num.LowI.prime (d := M - 1) HL.out (by omega) (by rw [show ((M - 1 : Nat) : Int) = (M : Int) - 1 from by omega]; omega))
            go_wp2
            go_ret
            exact ⟨ret_bool HF.out.symm, rfl⟩

end Go.Proofs.Ytfhdgcndiljjcab

/- Contracts of the codes of chapter 9: a prime number, a modulus, parameters. -/
namespace Go.Proofs.Ytfhdgcndiljjcab
open Go.RowKit Go.WideShapes Go.ChangeShapes Go.ChangeAt

/-- one of the four primes -/
def isP4 (p : Int) : Bool := decide (p = 2 ∨ p = 3 ∨ p = 5 ∨ p = 7)
theorem isP4_iff (p : Int) : isP4 p = true ↔ p = 2 ∨ p = 3 ∨ p = 5 ∨ p = 7 := by simp [isP4]
theorem isP4_prB {p : Int} (h : p ≤ 7) : Num.prB p = isP4 p := by
  by_cases h0 : p < 4
  · rw [Num.prB_small h0, Bool.eq_iff_iff, decide_eq_true_iff, isP4_iff]; omega
  · rcases (show p = 4 ∨ p = 5 ∨ p = 6 ∨ p = 7 by omega) with rfl | rfl | rfl | rfl <;> decide
theorem isTypicalPrime_any (p : Int) (w : World) :
    Calls Try.prog 26 #[.int .i64 p] w fun e w' => e = .returned (.bool (isP4 p)) ∧ w = w' := by
  by_cases h : p ≤ 7
  · have HP := Lib.hid (isP4_prB h)
    have h2 : p ≤ 1000000000000 := by omega
    go_enter Try.func26, Try.ntmps26
    go_wp2_with (go_at_call 47; refine (isPrime_any _ _ h2).mono ?_; rintro e w' ⟨rfl, rfl⟩)
    go_ret
    exact ⟨ret_bool HP.out, rfl⟩
  · have HP := Lib.hid (show isP4 p = false by rw [← Bool.not_eq_true, isP4_iff]; omega)
    go_enter Try.func26, Try.ntmps26
    go_wp2
    go_ret
    exact ⟨ret_bool HP.out.symm, rfl⟩
theorem l09Prime_any (p : Int) (w : World) :
    Calls Try.prog 25 #[.int .i64 p] w fun e w' => e = .returned (.bool (isP4 p)) ∧ w = w' := by
  have HP := Lib.hid (show (p == 2 || p == 3 || p == 5 || p == 7) = isP4 p by
    rw [Bool.eq_iff_iff, isP4_iff]
    simp only [Bool.or_eq_true, beq_iff_eq]
    omega)
  go_enter Try.func25, Try.ntmps25
  go_wp2
  all_goals
    go_ret
    exact ⟨ret_bool (by first | exact HP.out | (rw [← HP.out]; simp [*])), rfl⟩

/-- the code of a prime number, a modulus and parameters, of which there are at least so many -/
def codeT (p m : Int) (l : List Int) (k : Nat) : Int :=
  if codeN m l = 0 then (if isP4 p = true ∧ k ≤ l.length ∧ l.length ≤ 3 then 0 else 2) else codeN m l
theorem codeT_ok {p m : Int} {l : List Int} {k : Nat} (h : codeT p m l k = 0) : (2 ≤ m ∧ m ≤ 10000) ∧ allIn 0 (m - 1) l = true ∧ (p = 2 ∨ p = 3 ∨ p = 5 ∨ p = 7) ∧ k ≤ l.length ∧ l.length ≤ 3 := by
  unfold codeT at h
  by_cases h0 : codeN m l = 0
  · rw [if_pos h0] at h
    unfold codeN at h0
    by_cases hm : isM m = true
    · rw [if_pos hm] at h0
      by_cases ha : allIn 0 (m - 1) l = true
      · by_cases hp : isP4 p = true ∧ k ≤ l.length ∧ l.length ≤ 3
        · exact ⟨(isM_iff m).1 hm, ha, (isP4_iff p).1 hp.1, hp.2⟩
        · rw [if_neg hp] at h; omega
      · rw [if_neg ha] at h0; omega
    · rw [if_neg hm] at h0; omega
  · rw [if_neg h0] at h; exact absurd h h0
theorem codeN_cases (m : Int) (l : List Int) : codeN m l = 0 ∨ codeN m l = 1 ∨ codeN m l = 2 := by
  unfold codeN; split <;> (try split) <;> simp
theorem codeT_cases (p m : Int) (l : List Int) (k : Nat) : codeT p m l k = 0 ∨ codeT p m l k = 1 ∨ codeT p m l k = 2 := by
  unfold codeT
  split
  · split <;> simp
  · exact codeN_cases m l

set_option maxHeartbeats 1000000 in
theorem codeOfTypical_any (p m : Int) (A : Option Addr) (c : Nat) (l : List Int) (k : Nat) (w : World) (hl : l.length ≤ 9223372036854775807) (hr : RI w A l) :
    Calls Try.prog 38 #[.int .i64 p, .int .i64 m, .slice A l.length c, .int .i64 k] w fun e w' => e = .returned (.int .i64 (codeT p m l k)) ∧ w = w' := by
  have HC := Lib.hid (codeOfNumbers_any m A c l w hl hr)
  have HQ := Lib.hid (isTypicalPrime_any p w)
  clear hr
  by_cases h0 : codeN m l = 0
  · have HF := Lib.hid (show codeT p m l k = if isP4 p = true ∧ k ≤ l.length ∧ l.length ≤ 3 then 0 else 2 by unfold codeT; rw [if_pos h0])
    rw [h0] at HC
    clear h0
    by_cases hp : isP4 p = true
    · rw [hp] at HQ
      by_cases hc : k ≤ l.length ∧ l.length ≤ 3
      · have hw := inB_yes (n := (l.length : Int)) (lo := (k : Int)) (hi := 3) (by omega) (by omega)
        have HF2 := Lib.hid (show codeT p m l k = 0 by rw [HF.out, if_pos ⟨hp, hc⟩])
        clear hc hp HF
        go_enter Try.func38, Try.ntmps38
        go_wp2_with (first | (go_at_call 54; refine HC.out.mono ?_; rintro e w' ⟨rfl, rfl⟩) | (go_at_call 26; refine HQ.out.mono ?_; rintro e w' ⟨rfl, rfl⟩) | (go_at_call 27; refine (isWithin_any _ _ _ _).mono ?_; rintro e w' ⟨rfl, rfl⟩))
        go_ret
        exact ⟨ret_int HF2.out.symm, rfl⟩
      · have hw := inB_no (n := (l.length : Int)) (lo := (k : Int)) (hi := 3) (by omega)
        have HF2 := Lib.hid (show codeT p m l k = 2 by rw [HF.out, if_neg (fun h => hc h.2)])
        clear hc hp HF
        go_enter Try.func38, Try.ntmps38
        go_wp2_with (first | (go_at_call 54; refine HC.out.mono ?_; rintro e w' ⟨rfl, rfl⟩) | (go_at_call 26; refine HQ.out.mono ?_; rintro e w' ⟨rfl, rfl⟩) | (go_at_call 27; refine (isWithin_any _ _ _ _).mono ?_; rintro e w' ⟨rfl, rfl⟩))
        go_ret
        exact ⟨ret_int HF2.out.symm, rfl⟩
    · have HF2 := Lib.hid (show codeT p m l k = 2 by rw [HF.out, if_neg (fun h => hp h.1)])
      rw [show isP4 p = false by simpa using hp] at HQ
      clear hp HF
      go_enter Try.func38, Try.ntmps38
      go_wp2_with (first | (go_at_call 54; refine HC.out.mono ?_; rintro e w' ⟨rfl, rfl⟩) | (go_at_call 26; refine HQ.out.mono ?_; rintro e w' ⟨rfl, rfl⟩))
      go_ret
      exact ⟨ret_int HF2.out.symm, rfl⟩
  · have HF := Lib.hid (show codeT p m l k = codeN m l by unfold codeT; rw [if_neg h0])
    obtain ⟨n1, n2⟩ := ne_facts h0
    clear h0
    go_enter Try.func38, Try.ntmps38
    go_wp2_with (go_at_call 54; refine HC.out.mono ?_; rintro e w' ⟨rfl, rfl⟩)
    go_ret
    exact ⟨ret_int HF.out.symm, rfl⟩

set_option maxHeartbeats 1000000 in
theorem l09Code_any (p m : Int) (A : Option Addr) (c : Nat) (l : List Int) (k : Nat) (w : World) (hl : l.length ≤ 9223372036854775807) (hr : RI w A l) :
    Calls Try.prog 15 #[.int .i64 p, .int .i64 m, .slice A l.length c, .int .i64 k] w fun e w' => e = .returned (.int .i64 (codeT p m l k)) ∧ w = w' := by
  by_cases hm : isM m = true
  · obtain ⟨hm2, hm3⟩ := (isM_iff m).1 hm
    have HN := Lib.hid (l01Numbers_any m A c l w hm2 hm3 hl hr)
    have HQ := Lib.hid (l09Prime_any p w)
    have HF := Lib.hid (show codeT p m l k = if allIn 0 (m - 1) l = true ∧ isP4 p = true ∧ k ≤ l.length ∧ l.length ≤ 3 then 0 else 2 by
      unfold codeT codeN
      rw [if_pos hm]
      by_cases ha : allIn 0 (m - 1) l = true
      · rw [if_pos ha, if_pos rfl]; simp only [ha, true_and]
      · rw [if_neg ha, if_neg (by omega), if_neg (fun h => ha h.1)])
    have HM := Lib.hid (l01Modulus_any m w)
    rw [hm] at HM
    clear hr hm hm2 hm3
    by_cases hp : isP4 p = true
    · rw [hp] at HQ
      by_cases ha : allIn 0 (m - 1) l = true
      · rw [ha] at HN
        by_cases h1 : k ≤ l.length
        · by_cases h2 : l.length ≤ 3
          · have HF2 := Lib.hid (show codeT p m l k = 0 by rw [HF.out, if_pos ⟨ha, hp, h1, h2⟩])
            have q1 : ¬ (l.length : Int) < (k : Int) := by omega
            have q2 : ¬ (l.length : Int) > (3 : Int) := by omega
            clear ha hp HF
            go_enter Try.func15, Try.ntmps15
            go_wp2_with (first | (go_at_call 28; refine HM.out.mono ?_; rintro e w' ⟨rfl, rfl⟩) | (go_at_call 25; refine HQ.out.mono ?_; rintro e w' ⟨rfl, rfl⟩) | (go_at_call 29; refine HN.out.mono ?_; rintro e w' ⟨rfl, rfl⟩))
            go_ret
            exact ⟨ret_int HF2.out.symm, rfl⟩
          · have HF2 := Lib.hid (show codeT p m l k = 2 by rw [HF.out, if_neg (fun h => h2 h.2.2.2)])
            have q1 : ¬ (l.length : Int) < (k : Int) := by omega
            have q2 : (l.length : Int) > (3 : Int) := by omega
            clear ha hp HF h2
            go_enter Try.func15, Try.ntmps15
            go_wp2_with (first | (go_at_call 28; refine HM.out.mono ?_; rintro e w' ⟨rfl, rfl⟩) | (go_at_call 25; refine HQ.out.mono ?_; rintro e w' ⟨rfl, rfl⟩) | (go_at_call 29; refine HN.out.mono ?_; rintro e w' ⟨rfl, rfl⟩))
            go_ret
            exact ⟨ret_int HF2.out.symm, rfl⟩
        · have HF2 := Lib.hid (show codeT p m l k = 2 by rw [HF.out, if_neg (fun h => h1 h.2.2.1)])
          have q1 : (l.length : Int) < (k : Int) := by omega
          clear ha hp HF h1
          go_enter Try.func15, Try.ntmps15
          go_wp2_with (first | (go_at_call 28; refine HM.out.mono ?_; rintro e w' ⟨rfl, rfl⟩) | (go_at_call 25; refine HQ.out.mono ?_; rintro e w' ⟨rfl, rfl⟩) | (go_at_call 29; refine HN.out.mono ?_; rintro e w' ⟨rfl, rfl⟩))
          go_ret
          exact ⟨ret_int HF2.out.symm, rfl⟩
      · have HF2 := Lib.hid (show codeT p m l k = 2 by rw [HF.out, if_neg (fun h => ha h.1)])
        rw [show allIn 0 (m - 1) l = false by simpa using ha] at HN
        clear ha hp HF
        go_enter Try.func15, Try.ntmps15
        go_wp2_with (first | (go_at_call 28; refine HM.out.mono ?_; rintro e w' ⟨rfl, rfl⟩) | (go_at_call 25; refine HQ.out.mono ?_; rintro e w' ⟨rfl, rfl⟩) | (go_at_call 29; refine HN.out.mono ?_; rintro e w' ⟨rfl, rfl⟩))
        go_ret
        exact ⟨ret_int HF2.out.symm, rfl⟩
    · have HF2 := Lib.hid (show codeT p m l k = 2 by rw [HF.out, if_neg (fun h => hp h.2.1)])
      rw [show isP4 p = false by simpa using hp] at HQ
      clear hp HF
      go_enter Try.func15, Try.ntmps15
      go_wp2_with (first | (go_at_call 28; refine HM.out.mono ?_; rintro e w' ⟨rfl, rfl⟩) | (go_at_call 25; refine HQ.out.mono ?_; rintro e w' ⟨rfl, rfl⟩))
      go_ret
      exact ⟨ret_int HF2.out.symm, rfl⟩
  · have HF := Lib.hid (show codeT p m l k = 1 by unfold codeT codeN; rw [if_neg hm, if_neg (by omega)])
    have HM := Lib.hid (l01Modulus_any m w)
    rw [show isM m = false by simpa using hm] at HM
    clear hm hr
    go_enter Try.func15, Try.ntmps15
    go_wp2_with (go_at_call 28; refine HM.out.mono ?_; rintro e w' ⟨rfl, rfl⟩)
    go_ret
    exact ⟨ret_int HF.out.symm, rfl⟩

end Go.Proofs.Ytfhdgcndiljjcab

/- Plain: the inverse of a power modulo m is the power of the inverse; the plain answer of TypicalLogarithm. -/
namespace Go.Proofs.Ytfhdgcndiljjcab
open Go.RowKit Go.WideShapes Go.ChangeShapes Go.ChangeAt

theorem gcdI_emod (a m : Int) (ha : 0 ≤ a) (hm : 0 < m) : gcdI (a % m) m = gcdI a m := by
  obtain ⟨A, rfl⟩ := Int.eq_ofNat_of_zero_le ha
  obtain ⟨M, rfl⟩ := Int.eq_ofNat_of_zero_le (show 0 ≤ m by omega)
  rw [← Int.natCast_emod]
  unfold gcdI
  rw [Int.natAbs_natCast, Int.natAbs_natCast, Int.natAbs_natCast]
  congr 1
  rw [← Nat.gcd_rec, Nat.gcd_comm]
theorem gcdI_comm (a b : Int) : gcdI a b = gcdI b a := by unfold gcdI; rw [Nat.gcd_comm]
theorem gcdI_pow {p : Nat} {m : Int} (h : gcdI (p : Int) m = 1) (k : Nat) : gcdI ((p ^ k : Nat) : Int) m = 1 := by
  unfold gcdI at h ⊢
  rw [Int.natAbs_natCast] at h ⊢
  have h1 : Nat.Coprime p m.natAbs := by unfold Nat.Coprime; omega
  have h2 : Nat.Coprime (p ^ k) m.natAbs := Nat.Coprime.pow_left k h1
  unfold Nat.Coprime at h2
  omega
/-- the inverse of p modulo m -/
def invP (m : Int) (p : Nat) : Int := (egI m ((p : Int) % m)).2
theorem invP_bd {m : Int} (h : 2 ≤ m) (p : Nat) : 0 ≤ invP m p ∧ invP m p < m := by
  have := eg_fact m ((p : Int) % m) (Int.emod_nonneg _ (by omega)) (Int.emod_lt_of_pos _ (by omega))
  exact ⟨this.2.2.1, this.2.2.2⟩
theorem inv_mul {m a : Int} (h : 2 ≤ m) (ha : 0 ≤ a) (hg : gcdI a m = 1) : (a * (egI m (a % m)).2) % m = 1 % m := by
  have hf := eg_fact m (a % m) (Int.emod_nonneg _ (by omega)) (Int.emod_lt_of_pos _ (by omega))
  have h1 := hf.2.1
  rw [gcdI_emod a m ha (by omega), hg] at h1
  have h2 : ((a % m) * (egI m (a % m)).2) % m = 1 % m := Int.emod_eq_emod_iff_emod_sub_eq_zero.2 (Int.emod_eq_zero_of_dvd h1)
  rw [← h2]
  exact Ser.mul_cong (Int.emod_emod _ _).symm rfl
theorem inv_pow {m : Int} {p : Nat} (h : 2 ≤ m) (hg : gcdI (p : Int) m = 1) (k : Nat) : (egI m (((p ^ k : Nat) : Int) % m)).2 = invP m p ^ k % m := by
  have hgk := gcdI_pow hg k
  have hX := inv_mul h (by omega) hgk
  have hI := inv_mul h (by omega) hg
  have hb := (eg_fact m (((p ^ k : Nat) : Int) % m) (Int.emod_nonneg _ (by omega)) (Int.emod_lt_of_pos _ (by omega)))
  obtain ⟨X, hX2⟩ : ∃ X, (egI m (((p ^ k : Nat) : Int) % m)).2 = X := ⟨_, rfl⟩
  rw [hX2] at hX hb ⊢
  have hIk : (((p ^ k : Nat) : Int) * invP m p ^ k) % m = 1 % m := by
    rw [Int.natCast_pow, ← Int.mul_pow, Nmr.pow_cong (show ((p : Int) * invP m p) % m = 1 % m from hI) k, Int.one_pow]
  obtain ⟨P, hP⟩ : ∃ P, ((p ^ k : Nat) : Int) = P := ⟨_, rfl⟩
  obtain ⟨Y, hY⟩ : ∃ Y, invP m p ^ k = Y := ⟨_, rfl⟩
  rw [hP] at hX hIk
  rw [hY] at hIk ⊢
  have e1 : X % m = (X * (P * Y)) % m := by
    have := Ser.mul_cong (m := m) (x := X) (y := X) rfl hIk
    rw [Int.mul_one] at this
    exact this.symm
  have e2 : (X * (P * Y)) % m = Y % m := by
    have := Ser.mul_cong (m := m) hX (show Y % m = Y % m from rfl)
    rw [Int.one_mul] at this
    rw [← this]
    congr 1
    rw [Int.mul_comm P X, Int.mul_assoc]
  rw [← e2, ← e1, Int.emod_eq_of_lt hb.2.2.1 hb.2.2.2]
/-- the code of a prime number, a modulus, a degree and parameters -/
def codeTD (p m d : Int) (l : List Int) : Int := if codeT p m l 0 = 0 then (if inB d 1 10 = true then 0 else 2) else codeT p m l 0
def tloM (p m d : Int) (l : List Int) : Int × List Int × Int :=
  if codeTD p m d l = 0 then (if gcdI p m = 1 then (m, tyL m d.toNat p.toNat (fun k => Nmr.num p.toNat (Ser.co l) k % m * (invP m p.toNat ^ k % m)) (needN p.toNat d.toNat + 1), 0) else (0, [], 5)) else (0, [], codeTD p m d l)
theorem codeTD_ok {p m d : Int} {l : List Int} (h : codeTD p m d l = 0) : codeT p m l 0 = 0 ∧ 1 ≤ d ∧ d ≤ 10 := by
  unfold codeTD at h
  by_cases h0 : codeT p m l 0 = 0
  · rw [if_pos h0] at h
    by_cases h1 : inB d 1 10 = true
    · exact ⟨h0, (inB_iff _ _ _).1 h1⟩
    · rw [if_neg h1] at h; omega
  · rw [if_neg h0] at h; exact absurd h h0
theorem tloM_len (p m d : Int) (l : List Int) : (tloM p m d l).2.1.length ≤ 1048576 := by
  unfold tloM
  split
  · rename_i h
    obtain ⟨_, h1, h2⟩ := codeTD_ok h
    split
    · show (tyL m d.toNat _ _ _).length ≤ _
      unfold tyL
      rw [Ser.cut_length]; omega
    · exact Nat.zero_le _
  · exact Nat.zero_le _

end Go.Proofs.Ytfhdgcndiljjcab

