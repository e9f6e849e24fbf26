/- Contract of a series put upon a grid, of the program. -/
import Derived.Test.YtjgpdgoclianlaaPap
import Derived.Test.YtjgpdgoclianlaaMon
import Derived.Test.YtjgpdgoclianlaaFrm
namespace Go.Proofs.Ytjgpdgoclianlaa
open Go.RowKit Go.WideShapes Go.ChangeShapes Go.ChangeAt

/-- a grid has been stored into a new variable -/
theorem reg_newG {wk cur wd : World} {A : Option Addr} {n c : Nat} {T : List (List Int)} (hk : wk.heap.size ≤ cur.heap.size) (ho : OwnR wd cur.heap.size wd.heap.size (.slice A n c) T) (hb : Below wk.heap.size wk wd) (m d : Int) (t : TypeId) :
    VarC t (wd.alloc (.cells #[.int .i64 m, .int .i64 d, .slice A n c] t)) wd.heap.size #[.int .i64 m, .int .i64 d, .slice A n c] ∧ OwnR (wd.alloc (.cells #[.int .i64 m, .int .i64 d, .slice A n c] t)) cur.heap.size wd.heap.size (.slice A n c) T ∧
    (wd.heap.size < cur.heap.size ∨ wd.heap.size ≤ wd.heap.size) ∧ wk.heap.size ≤ cur.heap.size ∧ wd.heap.size ≤ (wd.alloc (.cells #[.int .i64 m, .int .i64 d, .slice A n c] t)).heap.size ∧ Below wk.heap.size wk (wd.alloc (.cells #[.int .i64 m, .int .i64 d, .slice A n c] t)) ∧ wk.heap.size ≤ wd.heap.size :=
  ⟨VarC.new _ _ _, ho.keep (below_one _ _), .inr (Nat.le_refl _), hk, (below_one wd _).size, below_alloc _ hb, hb.size⟩
/-- a grid has been stored into a variable that lay there before the call -/
theorem reg_finG {t : TypeId} {wk cur wd : World} {g : Nat} {A : Option Addr} {n c : Nat} {T : List (List Int)} {x y z : Value} (hk : wk.heap.size ≤ g) (hgc : g < cur.heap.size) (hle : wk.heap.size ≤ cur.heap.size) (hv : VarC t wd g #[x, y, z]) (ho : OwnR wd cur.heap.size wd.heap.size (.slice A n c) T) (hb : Below wk.heap.size wk wd) (m d : Int) :
    VarC t (((wd.setCell ⟨g, 0, none⟩ (.int .i64 m)).setCell ⟨g, 1, none⟩ (.int .i64 d)).setCell ⟨g, 2, none⟩ (.slice A n c)) g #[.int .i64 m, .int .i64 d, .slice A n c] ∧
    OwnR (((wd.setCell ⟨g, 0, none⟩ (.int .i64 m)).setCell ⟨g, 1, none⟩ (.int .i64 d)).setCell ⟨g, 2, none⟩ (.slice A n c)) cur.heap.size wd.heap.size (.slice A n c) T ∧
    (g < cur.heap.size ∨ wd.heap.size ≤ g) ∧ wk.heap.size ≤ cur.heap.size ∧ wd.heap.size ≤ (((wd.setCell ⟨g, 0, none⟩ (.int .i64 m)).setCell ⟨g, 1, none⟩ (.int .i64 d)).setCell ⟨g, 2, none⟩ (.slice A n c)).heap.size ∧
    Below wk.heap.size wk (((wd.setCell ⟨g, 0, none⟩ (.int .i64 m)).setCell ⟨g, 1, none⟩ (.int .i64 d)).setCell ⟨g, 2, none⟩ (.slice A n c)) ∧ wk.heap.size ≤ g :=
  ⟨hv.set3 _ _ _, ho.far (Span.of_grown (lo := g) (hi := g + 1) (grown_set3 wd g _ _ _) (fun b hb => by injection hb with hb; omega)) (.inr (by omega)), .inl hgc, hle, (grown_set3 wd g _ _ _).size, below_set3 hb hk _ _ _, hk⟩
/-- a series' box, a grid's box, the result's variable -/
theorem gproA (w : World) (m : Int) (A : Option Addr) (n c : Nat) (m' : Int) (d' : Nat) (A' : Option Addr) (n' c' : Nat) : ∃ W, ((w.alloc (.cells #[.int .i64 m, .slice A n c] 49)).alloc (.cells #[.int .i64 m', .int .i64 d', .slice A' n' c'] 66)).alloc (.cells #[.int .i64 0, .int .i64 0, .slice none 0 0] 66) = W ∧
    Box W w.heap.size m A n c ∧ GBox W (w.heap.size + 1) m' d' A' n' c' ∧ VarC 66 W (w.heap.size + 1 + 1) #[.int .i64 0, .int .i64 0, .slice none 0 0] ∧ Below w.heap.size w W := by
  refine ⟨_, rfl, ((Box.newT _ _ _ _ _ _).keep (below_one _ _)).keep (below_one _ _), ?_, ?_, below_alloc _ (below_alloc _ (below_one _ _))⟩
  · have := (GBox.new 66 (w.alloc (.cells #[.int .i64 m, .slice A n c] 49)) m' d' A' n' c').keep (below_one _ (.cells #[.int .i64 0, .int .i64 0, .slice none 0 0] 66))
    simpa using this
  · have := VarC.new 66 ((w.alloc (.cells #[.int .i64 m, .slice A n c] 49)).alloc (.cells #[.int .i64 m', .int .i64 d', .slice A' n' c'] 66)) #[.int .i64 0, .int .i64 0, .slice none 0 0]
    simpa using this
theorem bcb2 {W w' : World} {g b o : Nat} {m x : Int} {A : Option Addr} {n c : Nat} (h : Box W g m A n c) (hc : W.cell? ⟨b, o, none⟩ = some (.int .i64 x)) (hlt : b < W.heap.size) (hb : Below W.heap.size W w') :
    (w'.cell? ⟨g, 0, none⟩ = some (.int .i64 m) ∧ w'.cell? ⟨g, 1, none⟩ = some (.slice A n c)) ∧ (w'.cell? ⟨b, o, none⟩ = some (.int .i64 x)) ∧ Below W.heap.size W w' := ⟨box_in h hb, (hb.cell (p := ⟨b, o, none⟩) hlt).trans hc, hb⟩

set_option maxHeartbeats 16000000 in
set_option maxRecDepth 100000 in
theorem appliedTo_any (m : Int) (d : Nat) (A : Option Addr) (c : Nat) (l : List Int) (A' : Option Addr) (c' : Nat) (t : List (List Int)) (w : World) (hs : SerOk m d l) (hs' : Pl.Ok m d t) (h00 : Pl.pc t 0 0 = 0) (hr : RI w A l) (hr' : RP w A' t) :
    Calls Try.prog 98 #[.agg #[.int .i64 m, .slice A l.length c], .agg #[.int .i64 m, .int .i64 d, .slice A' t.length c']] w fun e w' => ∃ v, e = .returned (.agg #[.int .i64 m, .int .i64 d, v]) ∧ OwnR w' w.heap.size w'.heap.size v (Pl.hor m d l (Pl.pc t) (d + 1)) ∧ Below w.heap.size w w' := by
  obtain ⟨W, hW, b1, b2, v3, hwb⟩ := gproA w m A l.length c m d A' t.length c'
  have B1 := Lib.hid b1
  have B2 := Lib.hid b2
  have V3 := Lib.hid v3
  have HB := Lib.hid hwb
  have HW := Lib.hid hW
  have HR := Lib.hid hr
  have HR' := Lib.hid hr'
  have HSZ : w.heap.size + 1 + 1 < W.heap.size := v3.lt
  have m1 := hs.m1
  have m2 := hs.m2
  have hd := hs.d2
  have hd1 := hs.d1
  have HS := Lib.hid hs
  have HS' := Lib.hid hs'
  have H00 := Lib.hid h00
  obtain ⟨b, off, rfl, hbb, hcd⟩ := hr.at d (by rw [hs.len]; omega)
  have hcd1 := (hwb.cell (p := ⟨b, off + d, none⟩) hbb).trans hcd
  obtain ⟨r1, r2⟩ := hs.red d
  have h1 := Pl.hor_one (Pl.pc t) r1 r2
  obtain ⟨X, hX⟩ : ∃ X, Ser.co l d = X := ⟨_, rfl⟩
  rw [hX] at hcd1 r1 r2 h1
  have HDG := Lib.hid (fun W0 => degree_nat m (some ⟨b, off, none⟩) l.length c d W0 hs.len (by omega))
  have HMO := Lib.hid (fun W0 => monomial_any m d 0 X W0 (by omega) m2 (by omega) (by omega) (by omega))
  have HGS := Lib.hid (fun (W0 : World) (A0 : Option Addr) (c0 : Nat) (h : RI W0 A0 (Ser.cut m d (Ser.mon 0 X))) => gridOfSeries_any m d A0 c0 _ 0 W0 ⟨m1, m2, by omega, by omega, Ser.cut_length _ _ _, Ser.cut_red (by omega) _ _⟩ h)
  have HT := Lib.hid (fun (k : Nat) (A1 : Option Addr) (c1 : Nat) (W0 : World) (h : RP W0 A1 (Pl.hor m d l (Pl.pc t) k)) (h' : RP W0 A' t) => by
    have := gtimes_any m d A1 c1 (Pl.hor m d l (Pl.pc t) k) A' c' t W0 (Pl.hor_ok m1 m2 hd1 hd l _ k) hs' h h'
    rw [Pl.hor_length] at this
    exact this)
  obtain ⟨L0, hL0⟩ : ∃ L0, Ser.cut m d (Ser.mon 0 X) = L0 := ⟨_, rfl⟩
  rw [hL0] at HMO HGS h1
  obtain ⟨T0, hT0⟩ : ∃ T0, Pl.tab m d (gosF L0 0) = T0 := ⟨_, rfl⟩
  rw [hT0] at HGS h1
  have HT0 := Lib.hid h1
  have z1 : (0 : Int) ≤ (d : Int) := by omega
  have z2 : (d : Int) < (l.length : Int) := by have := hs.len; omega
  have hWb : b < W.heap.size := Nat.lt_of_lt_of_le hbb hwb.size
  obtain ⟨L', hL'⟩ : ∃ L, t.length = L := ⟨_, rfl⟩
  rw [hL'] at HT B2 HW ⊢
  clear b1 b2 v3 hwb hW hr hr' hs hs' hcd hX hL0 hT0 h1 h00 hL'
  go_enter Try.func98, Try.ntmps98
  go_wp2_with fail
  rw [HW.out]
  refine (HDG.out _).mono ?_
  rintro e W1 ⟨rfl, hb1⟩
  have Y1 := Lib.hid (B1.out.keep hb1)
  have Y2 := Lib.hid (B2.out.keep hb1)
  have V1 := Lib.hid (V3.out.keep hb1)
  have HB1 := Lib.hid (below_step HB.out hb1)
  have HSZ1 : w.heap.size + 1 + 1 < W1.heap.size := (V3.out.keep hb1).lt
  have hcd2 := (hb1.cell (p := ⟨b, off + d, none⟩) hWb).trans hcd1
  have hW1b : b < W1.heap.size := Nat.lt_of_lt_of_le hWb hb1.size
  clear hb1 hcd1 HDG B1 B2 V3 HB
  obtain ⟨x1, x2, x3⟩ := Y1.out
  go_wp2
  go_cut [6] (fun s6 wx => ∃ g A1 c1 lo hi, s6 = .pointer (some ⟨g, 0, none⟩) ∧ VarC 66 wx g #[.int .i64 m, .int .i64 d, .slice A1 T0.length c1] ∧ OwnR wx lo hi (.slice A1 T0.length c1) T0 ∧ (g < lo ∨ hi ≤ g) ∧ W1.heap.size ≤ lo ∧ hi ≤ wx.heap.size ∧ Below W1.heap.size W1 wx ∧ W1.heap.size ≤ g)
  case first =>
    go_region_held3 (fun w' => (w'.cell? ⟨w.heap.size, 0, none⟩ = some (.int .i64 m) ∧ w'.cell? ⟨w.heap.size, 1, none⟩ = some (.slice (some ⟨b, off, none⟩) l.length c)) ∧ (w'.cell? ⟨b, off + d, none⟩ = some (.int .i64 X)) ∧ Below W1.heap.size W1 w') (first | exact bcb2 Y1.out hcd2 hW1b (below_drew0 _) | exact bcb2 Y1.out hcd2 hW1b hbel | exact bcb2 Y1.out hcd2 hW1b hka | exact bcb2 Y1.out hcd2 hW1b (below_alloc _ (trd (by assumption))) | exact bcb2 Y1.out hcd2 hW1b (below_alloc _ hbel) | exact bcb2 Y1.out hcd2 hW1b (below_alloc _ hka) | exact bcb2 Y1.out hcd2 hW1b (reg_finG hwg hgc hle hv hog hbel m d).2.2.2.2.2.1 | exact (by assumption)) (first
      | (go_at_call 82; refine (HMO.out _).mono ?_; rintro e wa ⟨sd, rfl, hod, hba⟩; obtain ⟨Ad, cd, rfl, hri⟩ := hod.form; obtain ⟨hka, hka2⟩ := reg_end (by assumption) hba)
      | (go_at_call 81; refine (HGS.out _ _ _ (by first | exact hri | exact hri.below (below_one _ _))).mono ?_; rintro e wd ⟨sg, rfl, hog, hbd⟩; obtain ⟨Ag, cg, rfl, -⟩ := hog.len; obtain ⟨hbel, hle⟩ := reg_end (by assumption) hbd; first | (refine use_it (varC_keep ((VarC.new 66 W1 _).drew.keep hba) hbd) ?_; rintro ⟨hv, hgc⟩; have hwg := varC_at (k := W1.heap.size) hv (Nat.le_refl _); obtain ⟨q0, q1, q2, q3, q4, q5⟩ := hv.tells3) | (refine use_it (varC_keep (VarC.new 66 _ _) hbd) ?_; rintro ⟨hv, hgc⟩; have hwg := varC_at (k := W1.heap.size) hv hka.size; obtain ⟨q0, q1, q2, q3, q4, q5⟩ := hv.tells3) | skip))
    all_goals
      go_wp2_with fail
      go_meet
      case rel => first | exact ⟨_, _, _, _, _, rfl, reg_newG hle hog hbel m d _⟩ | exact ⟨_, _, _, _, _, rfl, reg_finG hwg hgc hle hv hog hbel m d⟩
  case rest =>
    obtain ⟨w2, hwc⟩ : ∃ w9, w9 = wc := ⟨_, rfl⟩
    subst hwc
    obtain ⟨g7, A7, c7, lo7, hi7, rfl, v7, o7, hg7, hl7, hh7, hb7, hgw⟩ := hcut
    have hT0l : T0.length = d + 1 := by rw [HT0.out, Pl.hor_length]
    rw [hT0l] at v7 o7
    rw [HT0.out] at o7
    have O7 := Lib.hid o7
    have V7 := Lib.hid v7
    have B7 := Lib.hid hb7
    have G7 : Hid (g7 < lo7 ∨ hi7 ≤ g7) := Lib.hid hg7
    clear v7 o7 hb7 hg7 HMO HGS x1 x2 x3 hcd2 HT0 hT0l
    go_wp2
    go_loopw [7] (fun s7 wr => ∃ (j t0 : Nat) (I : Int) (A1 : Option Addr) (c1 lo hi : Nat), j + t0 = d ∧ I = (t0 : Int) - 1 ∧ s7 = .int .i64 I ∧ VarC 66 wr g7 #[.int .i64 m, .int .i64 d, .slice A1 (d + 1) c1] ∧ OwnR wr lo hi (.slice A1 (d + 1) c1) (Pl.hor m d l (Pl.pc t) (j + 1)) ∧ (g7 < lo ∨ hi ≤ g7) ∧ W1.heap.size ≤ lo ∧ hi ≤ wr.heap.size ∧ Below W1.heap.size W1 wr) (fun s7 _ => (intOf s7 + 1).toNat)
    case atStart => exact ⟨0, d, _, A7, c7, lo7, hi7, by omega, rfl, rfl, V7.out, O7.out, G7.out, hl7, hh7, B7.out⟩
    case round =>
      clear V7 O7 G7 B7 hl7 hh7
      obtain ⟨j, t0, I, A1, c1, lo, hi, hjt, hI, rfl, v1, o1, hg1, hl1, hh1, hb1⟩ := hrel
      have VV := Lib.hid v1
      have OO := Lib.hid o1
      have BB := Lib.hid hb1
      have VR := Lib.hid (V1.out.keep hb1)
      clear v1 o1 hb1
      rcases t0 with _ | i
      · obtain rfl : j = d := by omega
        obtain rfl : I = -1 := by omega
        clear hI hjt hg1
        obtain ⟨z3, z4, z5, -⟩ := VV.out.tells3
        obtain ⟨q0, q1, q2, q3, q4, q5⟩ := VR.out.tells3
        obtain ⟨f0, f1, f2, f3, f4⟩ := fin_grid (w := w) VR.out OO.out (.inl (by omega)) (by omega) hh1 (below_step HB1.out BB.out) (.int .i64 m) (.int .i64 j) (.slice A1 (j + 1) c1)
        have F3 := Lib.hid (f3.low (show w.heap.size ≤ lo by omega))
        have F4 := Lib.hid f4
        unfold set3 at f0 f1 f2
        clear f3 f4
        go_wp2
        exact bodyPost_ret (v := .agg #[.int .i64 m, .int .i64 j, .slice A1 (j + 1) c1]) (by simp [results, Try.results98, go_sem, f0, f1, f2]) rfl ⟨_, rfl, F3.out, F4.out⟩
      · obtain rfl : I = (i : Int) := by omega
        have hik : d - (j + 1) = i := by omega
        have hid : i ≤ d := by omega
        have HTK := Lib.hid (HT.out (j + 1) A1 c1 wr OO.out.rp (HR'.out.below (below_step HB1.out BB.out)))
        have hst := Pl.hor_stepP (m := m) (d := d) (l := l) (F := Pl.pc t) (j + 1) H00.out (by rw [hik]; exact (HS.out.red i).1) (by rw [hik]; exact (HS.out.red i).2)
        rw [hik] at hst
        obtain ⟨F, hF⟩ : ∃ F, Pl.mul2 (Pl.pc (Pl.hor m d l (Pl.pc t) (j + 1))) (Pl.pc t) = F := ⟨_, rfl⟩
        rw [hF] at HTK hst
        have HST := Lib.hid hst
        have HJT := Lib.hid hjt
        obtain ⟨z3, z4, z5, -⟩ := VV.out.tells3
        obtain ⟨y1, y2, y3, -⟩ := Y2.out.keep BB.out
        have hgr : g7 < wr.heap.size := VV.out.lt
        clear hI hst hF hik hjt hg1 hh1
        go_wp2_with fail
        refine HTK.out.mono ?_
        rintro e w3 ⟨v3, rfl, ho3, hb3⟩
        obtain ⟨g, cv, rfl⟩ := ho3.openv (by rw [Pl.tab_length]; omega)
        rw [Pl.tab_length] at ho3 ⊢
        clear z3 z4 z5 y1 y2 y3
        have v3 := VV.out.keep hb3
        obtain ⟨q0, q1, q2, q3, q4, q5⟩ := v3.tells3
        obtain ⟨X9, hX9⟩ : ∃ X9, set3 w3 g7 (.int .i64 m) (.int .i64 d) (.slice (some ⟨g, 0, none⟩) (d + 1) cv) = X9 := ⟨_, rfl⟩
        obtain ⟨f0, f1, f2, ox, bx⟩ := fin_grid (w := W1) v3 ho3 (.inl hgr) hgw (Nat.le_refl _) (below_step BB.out hb3) (.int .i64 m) (.int .i64 d) (.slice (some ⟨g, 0, none⟩) (d + 1) cv)
        have vx := v3.set3 (.int .i64 m) (.int .i64 d) (.slice (some ⟨g, 0, none⟩) (d + 1) cv)
        rw [hX9] at f0 f1 f2 ox bx vx
        obtain ⟨b4, c4, h1, h2, h3, h4, hcel⟩ := ox.numB 0 0 (d + 1) (by rw [Pl.tab_length]; omega) (by rw [Pl.tab_row m d _ 0 (by omega), Ser.cut_length]; omega) (by omega)
        obtain ⟨k4, k5, k6, k7⟩ := hcel X9.drew (below_drew0 X9)
        obtain ⟨b', off', hbe, hbb', hci⟩ := (HR.out.below (below_step HB1.out bx)).at i (by have := HS.out.len; omega)
        injection hbe with hbe
        injection hbe with hbe1 hbe2
        subst hbe1 hbe2
        obtain ⟨Z, hZ⟩ : ∃ Z, Ser.co l i = Z := ⟨_, rfl⟩
        have hst := HST.out
        rw [hZ] at hci hst
        have h8 := k7 Z
        rw [hst] at h8
        have hwr := BB.out.size
        have ne2 : b4 ≠ g7 := by omega
        have V9 := Lib.hid (vx.far b4 0 (.int .i64 Z) ne2)
        have BX := Lib.hid (bx.drew.setCell (p := ⟨b4, 0, none⟩) (show W1.heap.size ≤ b4 by omega) (.int .i64 Z))
        have HO2 := Lib.hid (h8.more (show X9.heap.size ≤ (X9.drew.setCell ⟨b4, 0, none⟩ (.int .i64 Z)).heap.size by show X9.heap.size ≤ (X9.heap.modify _ _).size; simp))
        have HHS : Hid ((X9.drew.setCell ⟨b4, 0, none⟩ (.int .i64 Z)).heap.size ≤ (X9.drew.setCell ⟨b4, 0, none⟩ (.int .i64 Z)).heap.size) := Lib.hid (Nat.le_refl _)
        obtain ⟨x5, x6, -⟩ := Y1.out.keep bx
        have j0 : (0 : Int) ≤ (i : Int) := by omega
        have j1 : (i : Int) < (l.length : Int) := by have := HS.out.len; have := HJT.out; omega
        have j2 : (0 : Int) < (d : Int) + 1 := by omega
        unfold set3 at hX9
        have HX := Lib.hid hX9
        clear ho3 hb3 v3 vx ox bx hZ hst hcel k7 h8 h1 h2 h3 h4 ne2 hX9 hbb'
        go_upto_region 7 with fail
        rw [HX.out]
        clear HX q0 q1 q2 q3 q4 q5
        go_still_tail 10, (by kernel_rfl)
        change wpList _ _ _ _ _ X9.drew
        go_wp2
        go_roundw
        case rel => exact ⟨j + 1, i, _, _, cv, wr.heap.size, _, by have := HJT.out; omega, rfl, by first | rfl | go_num, V9.out, HO2.out, .inl hgr, hwr, HHS.out, BX.out⟩
        case measure => simp only [intOf]; omega
end Go.Proofs.Ytjgpdgoclianlaa
