/- Texts of contracts, joined. -/
import Derived.Test.YtfhdgcndiljjcabGreatMgah
import Derived.Test.YtfhdgcndiljjcabGreatMgak
import Derived.Test.YtfhdgcndiljjcabGreatMgan
import Derived.Deep.RegionHeld3
import Derived.Test.YtfhdgcndiljjcabGreatMgal
/- Copies with great moduli, up to 10^8: written by wip/tools/mk_bga.py out of Lpn, Lac. -/
namespace Go.Proofs.YtfhdgcndiljjcabGreat
open Go.RowKit Go.WideShapes Go.ChangeShapes Go.ChangeAt
namespace Pl
theorem lin_okG {m : Int} {d : Nat} (m1 : 2 ≤ m) (m2 : m ≤ 100000000) (d1 : 1 ≤ d) (d2 : d ≤ 10) (u : Int) : SerOkG m d (lin m d u) := ⟨m1, m2, d1, d2, Ser.cut_length _ _ _, Ser.cut_red (by omega) _ _⟩
end Pl
theorem stepT_okG {m : Int} {d : Nat} (m1 : 2 ≤ m) (m2 : m ≤ 100000000) (d1 : 1 ≤ d) (d2 : d ≤ 10) (T : List (List Int)) (p : Bool × Option Addr × Nat × List Int) : Pl.OkG m d (stepT m d T p) := by
  unfold stepT
  by_cases h : p.1 = true
  · rw [if_pos h]; exact Pl.OkG.of_tab m1 m2 d1 d2 _
  · rw [if_neg h]; exact Pl.hor_okG m1 m2 d1 d2 _ _ _
theorem acrT_okG {m : Int} {d : Nat} (m1 : 2 ≤ m) (m2 : m ≤ 100000000) (d1 : 1 ≤ d) (d2 : d ≤ 10) (ps : List (Bool × Option Addr × Nat × List Int)) : Pl.OkG m d (acrT m d ps) := by
  have key : ∀ (qs : List (Bool × Option Addr × Nat × List Int)) T, Pl.OkG m d T → Pl.OkG m d (qs.foldl (stepT m d) T) := by
    intro qs
    induction qs with
    | nil => intro T h; exact h
    | cons q qs ih => intro T _; exact ih _ (stepT_okG m1 m2 d1 d2 T q)
  exact key ps _ (Pl.OkG.of_tab m1 m2 d1 d2 _)
/-- block g holds passages -/
def PSG (w : World) (g : Nat) (m : Int) (d : Nat) (ps : List (Bool × Option Addr × Nat × List Int)) : Prop :=
  g < w.heap.size ∧ ∀ k b A c l, ps[k]? = some (b, A, c, l) → w.cell? ⟨g, k, none⟩ = some (.iface (if b = true then 128 else 130) (.agg #[.int .i64 m, .slice A l.length c])) ∧ RI w A l ∧ SerOkG m d l ∧ Ser.co l 0 = 0
theorem PSG.keep {w w' : World} {g : Nat} {m : Int} {d : Nat} {ps : List (Bool × Option Addr × Nat × List Int)} (h : PSG w g m d ps) (hb : Below w.heap.size w w') : PSG w' g m d ps :=
  ⟨Nat.lt_of_lt_of_le h.1 hb.size, fun k b A c l hk => by
    obtain ⟨a1, a2, a3⟩ := h.2 k b A c l hk
    exact ⟨(hb.cell (p := ⟨g, k, none⟩) h.1).trans a1, a2.below hb, a3⟩⟩
set_option maxHeartbeats 16000000 in
set_option maxRecDepth 100000 in
theorem additionAcross_anyG (m : Int) (d : Nat) (g : Nat) (ps : List (Bool × Option Addr × Nat × List Int)) (w : World) (m1 : 2 ≤ m) (m2 : m ≤ 100000000) (d1 : 1 ≤ d) (d2 : d ≤ 10) (hp : PSG w g m d ps) (hn : ps.length ≤ 1000)
    (hz : ∀ k A c l, ps[k]? = some (false, A, c, l) → Pl.pc (acrT m d (ps.take k)) 0 0 = 0) :
    Calls Tryz.prog 135 #[.agg #[.int .i64 m, .int .i64 d], .slice (some ⟨g, 0, none⟩) ps.length ps.length] w fun e w' => ∃ v, e = .returned (.agg #[.int .i64 m, .int .i64 d, v]) ∧ OwnR w' w.heap.size w'.heap.size v (acrT m d ps) ∧ Below w.heap.size w w' := by
  obtain ⟨W, hW, v1, v2, hwb⟩ := pro_frG w m d
  have V2 := Lib.hid v2
  have HB := Lib.hid hwb
  have HW := Lib.hid hW
  have HPS := Lib.hid (hp.keep hwb)
  have HML := Lib.hid (fun W0 => monomial_anyG m d 1 1 W0 (by omega) m2 (by omega) (by omega) (by omega))
  have HG0 := Lib.hid (fun W0 A0 c0 (h : RI W0 A0 (Pl.lin m d 1)) => gridOfSeries_anyG m d A0 c0 (Pl.lin m d 1) 0 W0 (Pl.lin_okG m1 m2 d1 d2 1) h)
  have HG1 := Lib.hid (fun W0 A0 c0 (h : RI W0 A0 (Pl.lin m d 1)) => gridOfSeries_anyG m d A0 c0 (Pl.lin m d 1) 1 W0 (Pl.lin_okG m1 m2 d1 d2 1) h)
  have HPL := Lib.hid (fun W0 A0 c0 A1 c1 (h0 : RP W0 A0 (Pl.tab m d (gosF (Pl.lin m d 1) 0))) (h1 : RP W0 A1 (Pl.tab m d (gosF (Pl.lin m d 1) 1))) => gplus_anyG m d A0 c0 (Pl.tab m d (gosF (Pl.lin m d 1) 0)) A1 c1 (Pl.tab m d (gosF (Pl.lin m d 1) 1)) W0 (Pl.OkG.of_tab m1 m2 d1 d2 _) (Pl.OkG.of_tab m1 m2 d1 d2 _) h0 h1)
  obtain ⟨T0, hT0⟩ : ∃ T, Pl.tab m d (gosF (Pl.lin m d 1) 0) = T := ⟨_, rfl⟩
  obtain ⟨T1, hT1⟩ : ∃ T, Pl.tab m d (gosF (Pl.lin m d 1) 1) = T := ⟨_, rfl⟩
  obtain ⟨T2, hT2⟩ : ∃ T, xyT m d = T := ⟨_, rfl⟩
  rw [show (Pl.tab m d fun i j => Pl.pc (Pl.tab m d (gosF (Pl.lin m d 1) 0)) i j + Pl.pc (Pl.tab m d (gosF (Pl.lin m d 1) 1)) i j) = T2 from hT2, hT0, hT1] at HPL
  rw [hT0] at HG0
  rw [hT1] at HG1
  obtain ⟨Z, hZ⟩ : ∃ Z, Pl.lin m d 1 = Z := ⟨_, rfl⟩
  rw [show Ser.cut m d (Ser.mon 1 1) = Z from hZ] at HML
  rw [hZ] at HG0 HG1
  obtain ⟨x1, x2, -⟩ := v1.tells2
  have hsz : w.heap.size + 1 < W.heap.size := v2.lt
  have HT0 := Lib.hid (show OwnR W W.heap.size W.heap.size (.slice none 0 0) [] from OwnR.nil _ _ _)
  clear v1 v2 hwb hW hp
  have ta1 := fun (a b : Value) (w : World) => (show (Instr.typeAssert (.iface 128 (.agg #[a, b])) 144 128 true).run Tryz.prog w = .ok (.tuple #[.agg #[a, b], .bool true]) w by kernel_rfl)
  have ta2 := fun (a b : Value) (w : World) => (show (Instr.typeAssert (.iface 130 (.agg #[a, b])) 144 130 true).run Tryz.prog w = .ok (.tuple #[.agg #[a, b], .bool true]) w by kernel_rfl)
  have mh1 := fun (a b : Value) (w : World) => (show (method 282 128 (.agg #[a, b]) "loop.example/g01152/impl.curve").run Tryz.prog w = .ok (190, .agg #[a, b]) w by kernel_rfl)
  have mh2 := fun (a b : Value) (w : World) => (show (method 282 130 (.agg #[a, b]) "loop.example/g01152/impl.curve").run Tryz.prog w = .ok (191, .agg #[a, b]) w by kernel_rfl)
  have ta3 := fun (a b : Value) (w : World) => (show (Instr.typeAssert (.iface 130 (.agg #[a, b])) 144 128 true).run Tryz.prog w = .ok (.tuple #[.agg #[.int .i64 0, .slice none 0 0], .bool false]) w by kernel_rfl)
  go_enter Tryz.func135, Tryz.ntmps135
  go_wp2_with fail
  rw [HW.out]
  refine (HML.out _).mono ?_
  rintro e w1 ⟨s1, rfl, ho1, hb1⟩
  obtain ⟨A1, c1, rfl, -⟩ := ho1.form
  clear x1 x2
  have hro := (ho1.keep (below_one w1 (.cells #[.int .i64 m, .slice A1 Z.length c1] 39))).ri
  have hbx := Box.newT 39 w1 m A1 Z.length c1
  have hb2 := below_alloc (.cells #[.int .i64 m, .slice A1 Z.length c1] 39) hb1
  obtain ⟨w2, hw2⟩ : ∃ w2, w1.alloc (.cells #[.int .i64 m, .slice A1 Z.length c1] 39) = w2 := ⟨_, rfl⟩
  rw [hw2] at hro hbx hb2
  have HRO := Lib.hid hro
  have HW2 := Lib.hid hw2
  have HB2 := Lib.hid hb2
  have hbx2 := hbx
  obtain ⟨x1, x2, x3⟩ := hbx2
  rw [← hw2] at x1 x2
  have HBX := Lib.hid hbx
  clear hro hbx hb2 hw2 ho1 hb1
  go_upto_region 2 with fail
  rw [HW2.out]
  clear HW2 x1 x2 x3
  go_cut [6] (fun s6 wx => ∃ g A1 c1 lo hi, s6 = .pointer (some ⟨g, 0, none⟩) ∧ VarC 55 wx g #[.int .i64 m, .int .i64 d, .slice A1 T2.length c1] ∧ OwnR wx lo hi (.slice A1 T2.length c1) T2 ∧ (g < lo ∨ hi ≤ g) ∧ w2.heap.size ≤ lo ∧ hi ≤ wx.heap.size ∧ Below w2.heap.size w2 wx ∧ w2.heap.size ≤ g)
  case first =>
    go_region_held3 (fun w' => (w'.cell? ⟨w1.heap.size, 0, none⟩ = some (.int .i64 m) ∧ w'.cell? ⟨w1.heap.size, 1, none⟩ = some (.slice A1 Z.length c1)) ∧ True ∧ Below w2.heap.size w2 w') (first | exact bct HBX.out (below_drew0 _) | exact bct HBX.out hbel | exact bct HBX.out hka | exact bct HBX.out hkb | exact bct HBX.out (below_alloc _ (trd (by assumption))) | exact bct HBX.out (below_alloc _ hbel) | exact bct HBX.out (below_alloc _ hka) | exact bct HBX.out (below_alloc _ hkb) | exact bct HBX.out (reg_finG hwg hgc hle hv hog hbel m d).2.2.2.2.2.1 | exact (by assumption)) (first
      | (go_at_call 111; have ht := hba; clear ht; with_reducible refine Calls.mono (HG1.out _ _ _ (HRO.out.below (trd (by assumption)))) ?_; rintro e wb ⟨sb, rfl, hob, hbb⟩; obtain ⟨Ab, cb, rfl, -⟩ := hob.len; obtain ⟨hkb, hlb⟩ := reg_end (by assumption) hbb)
      | (go_at_call 111; with_reducible refine Calls.mono (HG0.out _ _ _ (HRO.out.below (trd (by assumption)))) ?_; rintro e wa ⟨sa, rfl, hoa, hba⟩; obtain ⟨Aa, ca, rfl, -⟩ := hoa.len; obtain ⟨hka, hla⟩ := reg_end (by assumption) hba)
      | (go_at_call 129; with_reducible refine Calls.mono (HPL.out _ _ _ _ _ (by first | exact hoa.rp | exact hoa.rp.below hbb | exact hoa.rp.below (below_one _ _) | exact hoa.rp.below (below_step (below_one _ _) hbb) | exact (hoa.rp.below hbb).below (below_one _ _)) (by first | exact hob.rp | exact hob.rp.below hba | exact hob.rp.below (below_one _ _) | exact hob.rp.below (below_step (below_one _ _) hba) | exact (hob.rp.below hba).below (below_one _ _))) ?_; rintro e wd ⟨sg, rfl, hog, hbd⟩; obtain ⟨Ag, cg, rfl, -⟩ := hog.len; obtain ⟨hbel, hle⟩ := reg_end (by assumption) hbd; first | (refine use_it (varC_keep (((VarC.new 55 w2 _).drew.keep hba).keep hbb) hbd) ?_; rintro ⟨hv, hgc⟩; have hwg := varC_at (k := w2.heap.size) hv (Nat.le_refl _); obtain ⟨q0, q1, q2, q3, q4, q5⟩ := hv.tells3) | (refine use_it (varC_keep (((VarC.new 55 w2 _).drew.keep hbb).keep hba) hbd) ?_; rintro ⟨hv, hgc⟩; have hwg := varC_at (k := w2.heap.size) hv (Nat.le_refl _); obtain ⟨q0, q1, q2, q3, q4, q5⟩ := hv.tells3) | (refine use_it (varC_keep ((VarC.new 55 _ _).keep hbb) hbd) ?_; rintro ⟨hv, hgc⟩; have hwg := varC_at (k := w2.heap.size) hv hka.size; obtain ⟨q0, q1, q2, q3, q4, q5⟩ := hv.tells3) | (refine use_it (varC_keep ((VarC.new 55 _ _).keep hba) hbd) ?_; rintro ⟨hv, hgc⟩; have hwg := varC_at (k := w2.heap.size) hv hkb.size; obtain ⟨q0, q1, q2, q3, q4, q5⟩ := hv.tells3) | (refine use_it (varC_keep (VarC.new 55 _ _) hbd) ?_; rintro ⟨hv, hgc⟩; have hwg := varC_at (k := w2.heap.size) hv (by first | exact hkb.size | exact hka.size); obtain ⟨q0, q1, q2, q3, q4, q5⟩ := hv.tells3) | skip))
    all_goals
      go_wp2_with fail
      go_meet
      case rel => first | exact ⟨_, _, _, _, _, rfl, reg_newG hle hog hbel m d _⟩ | exact ⟨_, _, _, _, _, rfl, reg_finG hwg hgc hle hv hog hbel m d⟩
  case rest =>
    obtain ⟨w3, hwc⟩ : ∃ w9, w9 = wc := ⟨_, rfl⟩
    subst hwc
    obtain ⟨g7, A7, c7, lo7, hi7, rfl, v7, o7, hg7, hl7, hh7, hb7, hgw⟩ := hcut
    have hT2l : T2.length = d + 1 := by rw [← hT2]; exact Pl.tab_length _ _ _
    rw [hT2l] at v7 o7
    rw [← hT2, show xyT m d = acrT m d (ps.take 0) from rfl] at o7
    have O7 := Lib.hid o7
    have V7 := Lib.hid v7
    have B7 := Lib.hid hb7
    have G7 : Hid (g7 < lo7 ∨ hi7 ≤ g7) := Lib.hid hg7
    have VW := Lib.hid (V2.out.keep HB2.out)
    have HPW := Lib.hid (HPS.out.keep HB2.out)
    clear v7 o7 hb7 hg7 HML HG0 HG1 HPL HRO HBX hT0 hT1 hT2 hZ hT2l HT0
    obtain ⟨N, hN⟩ : ∃ N, ps.length = N := ⟨_, rfl⟩
    rw [hN]
    go_wp2
    go_loopw [21] (fun s21 wr => ∃ (k : Nat) (A1 : Option Addr) (c1 lo hi : Nat), k ≤ N ∧ s21 = .int .i64 (k : Int) ∧ VarC 55 wr g7 #[.int .i64 m, .int .i64 d, .slice A1 (d + 1) c1] ∧ OwnR wr lo hi (.slice A1 (d + 1) c1) (acrT m d (ps.take k)) ∧ (g7 < lo ∨ hi ≤ g7) ∧ w2.heap.size ≤ lo ∧ hi ≤ wr.heap.size ∧ Below w2.heap.size w2 wr) (fun s21 _ => (((N : Nat) : Int) - intOf s21).toNat)
    case atStart => exact ⟨0, A7, c7, lo7, hi7, Nat.zero_le _, rfl, V7.out, O7.out, G7.out, hl7, hh7, B7.out⟩
    case round =>
      clear V7 O7 G7 B7 hl7 hh7
      obtain ⟨k, A8, c8, lo, hi, hkN, rfl, v8, o8, hg8, hl8, hh8, hb8⟩ := hrel
      have VV := Lib.hid v8
      have OO := Lib.hid o8
      have BB := Lib.hid hb8
      have VR := Lib.hid (VW.out.keep hb8)
      clear v8 o8 hb8
      by_cases hk : k < N
      · obtain ⟨⟨b, A, c, l⟩, hpk⟩ : ∃ p, ps[k]? = some p := ⟨_, List.getElem?_eq_getElem (by omega)⟩
        obtain ⟨hcell, hrl, hsl, hl0⟩ := (HPW.out.keep BB.out).2 k b A c l hpk
        have HST := Lib.hid (acrT_snoc (m := m) (d := d) hpk)
        have i1 : ((k : Int) < (N : Int)) := by omega
        obtain ⟨z1, z2, z3, z4, z5, z6⟩ := VV.out.tells3
        rcases b with _ | _
        · simp only [Bool.false_eq_true, if_false] at hcell
          have hst : Pl.hor m d l (Pl.pc (acrT m d (ps.take k))) (d + 1) = acrT m d (ps.take (k + 1)) := by rw [acrT_snoc hpk]; rfl
          have hok := acrT_okG m1 m2 d1 d2 (ps.take k)
          have htl : (acrT m d (ps.take (k + 1))).length = d + 1 := (acrT_okG m1 m2 d1 d2 (ps.take (k + 1))).len
          have h00 := hz k A c l hpk
          have HWC := Lib.hid (fun W0 (h : Below wr.heap.size wr W0) => by
            have := appliedTo_anyG m d A c l A8 c8 (acrT m d (ps.take k)) W0 hsl hok h00 (hrl.below h) (OO.out.rp.below h)
            rw [hok.len, hst] at this
            exact this)
          obtain ⟨T', hT'⟩ : ∃ T', acrT m d (ps.take (k + 1)) = T' := ⟨_, rfl⟩
          rw [hT'] at HWC htl
          have HTL := Lib.hid htl
          have HT' := Lib.hid hT'
          clear HST hst hok htl hT' hpk hrl hsl hl0 h00
          go_upto_region 10 with fail
          clear z1 z2 z3 z4 z5 z6 hcell i1
          have HK : Hid (∀ W0, Below wr.heap.size wr W0 → (W0.cell? ⟨g7, 0, none⟩ = some (.int .i64 m) ∧ W0.cell? ⟨g7, 1, none⟩ = some (.int .i64 d) ∧ W0.cell? ⟨g7, 2, none⟩ = some (.slice A8 (d + 1) c8)) ∧ Below wr.heap.size wr W0) := Lib.hid (fun W0 h => by obtain ⟨a1, a2, a3, -⟩ := (VV.out.keep h).tells3; exact ⟨⟨a1, a2, a3⟩, h⟩)
          have HS0 := Lib.hid (HK.out _ (below_drew0 wr))
          refine region_till (fun w' => (w'.cell? ⟨g7, 0, none⟩ = some (.int .i64 m) ∧ w'.cell? ⟨g7, 1, none⟩ = some (.int .i64 d) ∧ w'.cell? ⟨g7, 2, none⟩ = some (.slice A8 (d + 1) c8)) ∧ Below wr.heap.size wr w') 4 (by kernel_rfl) ?_
          refine till_take (i := 0) (dst := some 38) (.iface 130 (.agg #[.int .i64 m, .slice A l.length c])) rfl rfl (by kernel_rfl) (by kernel_rfl) (by kernel_rfl) (by kernel_rfl) (fun _ _ _ h => h) (Or.inl ⟨by rfl, ?_⟩) HS0.out ?_
          · rintro w' ⟨⟨a1, a2, a3⟩, a4⟩
            go_simp
          simp only [Act.put, List.setIfInBounds_toArray, List.set_cons_zero, List.set_cons_succ]
          refine till_take (i := 2) (dst := some 40) (.agg #[.int .i64 m, .int .i64 d, .slice A8 (d + 1) c8]) rfl rfl (by kernel_rfl) (by kernel_rfl) (by kernel_rfl) (by kernel_rfl) (fun _ _ _ h => h) (Or.inl ⟨by rfl, ?_⟩) HS0.out ?_
          · rintro w' ⟨⟨a1, a2, a3⟩, a4⟩
            go_simp
          simp only [Act.put, List.setIfInBounds_toArray, List.set_cons_zero, List.set_cons_succ]
          refine till_one (i := 1) (by kernel_rfl) rfl (fun K hK => ?_)
          go_simp
          (go_at_call 191; with_reducible refine Calls.mono (ecurve_any _ _ _ _ _) ?_; rintro e w6 ⟨rfl, hb6⟩; have b6 := below_step (below_drew0 wr) hb6)
          dsimp only
          refine hK.out _ _ (fun _ => HK.out _ b6) ?_
          clear hK K
          try simp only [Act.put, List.setIfInBounds_toArray, List.set_cons_zero, List.set_cons_succ]
          refine till_one (i := 3) (by kernel_rfl) rfl (fun K hK => ?_)
          go_simp
          (go_at_call 74; with_reducible refine Calls.mono (HWC.out _ b6) ?_; rintro e w9 ⟨v9, rfl, ho9, hb9⟩; obtain ⟨A9, c9, rfl, -⟩ := ho9.len; rw [HTL.out] at ho9 ⊢; have b9 := below_step b6 hb9; have hv9 := VV.out.keep b9; obtain ⟨y0, y1, y2, y3, y4, y5⟩ := hv9.tells3)
          dsimp only
          refine hK.out _ _ (fun _ => HK.out _ b9) ?_
          clear hK K
          try simp only [Act.put, List.setIfInBounds_toArray, List.set_cons_zero, List.set_cons_succ]
          refine till_one (i := 4) (by kernel_rfl) rfl (fun K hK => ?_)
          go_simp
          refine hK.out _ _ (fun hne => absurd rfl hne) ?_
          clear hK K
          refine till_done (by kernel_rfl) ?_
          have R := Lib.hid (reg_finG hgw (VV.out.keep b6).lt (Nat.le_trans BB.out.size b6.size) hv9 ho9 (below_step BB.out b9) m d)
          clear y0 y1 y2 y3 y4 y5 hv9 ho9 b9 b6 hb9 hb6
          go_wp2
          go_roundw
          case rel => exact ⟨k + 1, A9, c9, _, _, by omega, by go_num, R.out.1, by rw [HT'.out]; exact R.out.2.1, R.out.2.2.1, R.out.2.2.2.1, R.out.2.2.2.2.1, R.out.2.2.2.2.2.1⟩
          case measure => simp only [intOf]; omega
        · simp only [if_true] at hcell
          have hst : Pl.botT m d (Pl.pc (acrT m d (ps.take k))) l l = acrT m d (ps.take (k + 1)) := by rw [acrT_snoc hpk]; rfl
          have hok := acrT_okG m1 m2 d1 d2 (ps.take k)
          have htl : (acrT m d (ps.take (k + 1))).length = d + 1 := (acrT_okG m1 m2 d1 d2 (ps.take (k + 1))).len
          have HWC := Lib.hid (fun W0 (h : Below wr.heap.size wr W0) => by
            have := withCurves_anyG m d A8 c8 (acrT m d (ps.take k)) A c l A c l W0 hok hsl hsl hl0 hl0 (OO.out.rp.below h) (hrl.below h) (hrl.below h)
            rw [hok.len, hst] at this
            exact this)
          obtain ⟨T', hT'⟩ : ∃ T', acrT m d (ps.take (k + 1)) = T' := ⟨_, rfl⟩
          rw [hT'] at HWC htl
          have HTL := Lib.hid htl
          have HT' := Lib.hid hT'
          clear HST hst hok htl hT' hpk hrl hsl hl0
          go_upto_region 8 with fail
          clear z1 z2 z3 z4 z5 z6 hcell i1
          have HK : Hid (∀ W0, Below wr.heap.size wr W0 → (W0.cell? ⟨g7, 0, none⟩ = some (.int .i64 m) ∧ W0.cell? ⟨g7, 1, none⟩ = some (.int .i64 d) ∧ W0.cell? ⟨g7, 2, none⟩ = some (.slice A8 (d + 1) c8)) ∧ Below wr.heap.size wr W0) := Lib.hid (fun W0 h => by obtain ⟨a1, a2, a3, -⟩ := (VV.out.keep h).tells3; exact ⟨⟨a1, a2, a3⟩, h⟩)
          have HS0 := Lib.hid (HK.out _ (below_drew0 wr))
          refine region_till (fun w' => (w'.cell? ⟨g7, 0, none⟩ = some (.int .i64 m) ∧ w'.cell? ⟨g7, 1, none⟩ = some (.int .i64 d) ∧ w'.cell? ⟨g7, 2, none⟩ = some (.slice A8 (d + 1) c8)) ∧ Below wr.heap.size wr w') 6 (by kernel_rfl) ?_
          refine till_take (i := 0) (dst := some 29) (.agg #[.int .i64 m, .int .i64 d, .slice A8 (d + 1) c8]) rfl rfl (by kernel_rfl) (by kernel_rfl) (by kernel_rfl) (by kernel_rfl) (fun _ _ _ h => h) (Or.inl ⟨by rfl, ?_⟩) HS0.out ?_
          · rintro w' ⟨⟨a1, a2, a3⟩, a4⟩
            go_simp
          simp only [Act.put, List.setIfInBounds_toArray, List.set_cons_zero, List.set_cons_succ]
          refine till_take (i := 1) (dst := some 30) (.iface 128 (.agg #[.int .i64 m, .slice A l.length c])) rfl rfl (by kernel_rfl) (by kernel_rfl) (by kernel_rfl) (by kernel_rfl) (fun _ _ _ h => h) (Or.inl ⟨by rfl, ?_⟩) HS0.out ?_
          · rintro w' ⟨⟨a1, a2, a3⟩, a4⟩
            go_simp
          simp only [Act.put, List.setIfInBounds_toArray, List.set_cons_zero, List.set_cons_succ]
          refine till_take (i := 3) (dst := some 32) (.iface 128 (.agg #[.int .i64 m, .slice A l.length c])) rfl rfl (by kernel_rfl) (by kernel_rfl) (by kernel_rfl) (by kernel_rfl) (fun _ _ _ h => h) (Or.inl ⟨by rfl, ?_⟩) HS0.out ?_
          · rintro w' ⟨⟨a1, a2, a3⟩, a4⟩
            go_simp
          simp only [Act.put, List.setIfInBounds_toArray, List.set_cons_zero, List.set_cons_succ]
          refine till_one (i := 2) (by kernel_rfl) rfl (fun K hK => ?_)
          go_simp
          (go_at_call 190; with_reducible refine Calls.mono (lcurve_any _ _ _ _ _) ?_; rintro e w5 ⟨rfl, hb5⟩; have b5 := below_step (below_drew0 wr) hb5)
          dsimp only
          refine hK.out _ _ (fun _ => HK.out _ b5) ?_
          clear hK K
          try simp only [Act.put, List.setIfInBounds_toArray, List.set_cons_zero, List.set_cons_succ]
          refine till_one (i := 4) (by kernel_rfl) rfl (fun K hK => ?_)
          go_simp
          (go_at_call 190; with_reducible refine Calls.mono (lcurve_any _ _ _ _ _) ?_; rintro e w6 ⟨rfl, hb6⟩; have b6 := below_step b5 hb6)
          dsimp only
          refine hK.out _ _ (fun _ => HK.out _ b6) ?_
          clear hK K
          try simp only [Act.put, List.setIfInBounds_toArray, List.set_cons_zero, List.set_cons_succ]
          refine till_one (i := 5) (by kernel_rfl) rfl (fun K hK => ?_)
          go_simp
          (go_at_call 75; with_reducible refine Calls.mono (HWC.out _ b6) ?_; rintro e w9 ⟨v9, rfl, ho9, hb9⟩; obtain ⟨A9, c9, rfl, -⟩ := ho9.len; rw [HTL.out] at ho9 ⊢; have b9 := below_step b6 hb9; have hv9 := VV.out.keep b9; obtain ⟨y0, y1, y2, y3, y4, y5⟩ := hv9.tells3)
          dsimp only
          refine hK.out _ _ (fun _ => HK.out _ b9) ?_
          clear hK K
          try simp only [Act.put, List.setIfInBounds_toArray, List.set_cons_zero, List.set_cons_succ]
          refine till_one (i := 6) (by kernel_rfl) rfl (fun K hK => ?_)
          go_simp
          refine hK.out _ _ (fun hne => absurd rfl hne) ?_
          clear hK K
          refine till_done (by kernel_rfl) ?_
          have R := Lib.hid (reg_finG hgw (VV.out.keep b6).lt (Nat.le_trans BB.out.size b6.size) hv9 ho9 (below_step BB.out b9) m d)
          clear y0 y1 y2 y3 y4 y5 hv9 ho9 b9 b6 hb9 hb6
          go_wp2
          go_roundw
          case rel => exact ⟨k + 1, A9, c9, _, _, by omega, by go_num, R.out.1, by rw [HT'.out]; exact R.out.2.1, R.out.2.2.1, R.out.2.2.2.1, R.out.2.2.2.2.1, R.out.2.2.2.2.2.1⟩
          case measure => simp only [intOf]; omega
      · obtain rfl : k = N := by omega
        have i1 : ¬ ((k : Int) < (k : Int)) := by omega
        have HTE := Lib.hid (show ps.take k = ps from List.take_of_length_le (by omega))
        obtain ⟨z3, z4, z5, -⟩ := VV.out.tells3
        obtain ⟨q0, q1, q2, q3, q4, q5⟩ := VR.out.tells3
        obtain ⟨f0, f1, f2, f3, f4⟩ := fin_grid (w := w) VR.out OO.out (.inl (by have := HB2.out.size; omega)) (by omega) hh8 (below_step HB.out (below_step HB2.out BB.out)) (.int .i64 m) (.int .i64 d) (.slice A8 (d + 1) c8)
        rw [HTE.out] at f3
        have F3 := Lib.hid (f3.low (show w.heap.size ≤ lo by have := HB2.out.size; omega))
        have F4 := Lib.hid f4
        unfold set3 at f0 f1 f2
        clear f3 f4
        go_wp2
        exact bodyPost_ret (v := .agg #[.int .i64 m, .int .i64 d, .slice A8 (d + 1) c8]) (by simp [results, Tryz.results135, go_sem, f0, f1, f2]) rfl ⟨_, rfl, F3.out, F4.out⟩
end Go.Proofs.YtfhdgcndiljjcabGreat

/- additionAcross with a logarithm and its reversion, for great moduli. -/
namespace Go.Proofs.YtfhdgcndiljjcabGreat
open Go.RowKit Go.WideShapes Go.ChangeShapes Go.ChangeAt
theorem sum_botTG {m : Int} {d : Nat} {l : List Int} (hs : SerOkG m d l) (hz : Ser.co l 0 = 0) : Pl.botT m d (Pl.pc (xyT m d)) l l = Pl.tab m d (sumF l) := by
  have m1 := hs.m1
  have d1 := hs.d1
  unfold Pl.botT
  refine Pl.tab_congr (Pl.Eq.of m d (fun p q _ => ?_))
  have p0 : ∀ n, Ser.pw (Ser.co l) 0 n = if n = 0 then 1 else 0 := fun n => rfl
  have p1 : ∀ n, Ser.pw (Ser.co l) 1 n = Ser.co l n := fun n => by
    show Ser.cv n (Ser.pw (Ser.co l) 0) (Ser.co l) = _
    rw [show Ser.pw (Ser.co l) 0 = Ser.mon 0 1 from rfl, Ser.cv_const]
    omega
  obtain ⟨e, rfl⟩ : ∃ e, d = e + 1 := ⟨d - 1, by omega⟩
  unfold Pl.subB
  rw [show e + 1 + 1 = e + 2 from rfl]
  rw [Ser.psum_two _ (fun i hi => by
    refine (Ser.psum_low _ _ (fun j _ => ?_))
    rw [xy_pc m1 d1, if_neg (by omega), Int.zero_mul])]
  rw [Ser.psum_two _ (fun j hj => by rw [xy_pc m1 d1, if_neg (by omega), Int.zero_mul]), Ser.psum_two _ (fun j hj => by rw [xy_pc m1 d1, if_neg (by omega), Int.zero_mul])]
  have x00 : Pl.pc (xyT m (e + 1)) 0 0 = 0 := by rw [xy_pc m1 d1]; exact if_neg (by omega)
  have x01 : Pl.pc (xyT m (e + 1)) 0 1 = 1 := by rw [xy_pc m1 d1]; exact if_pos (by omega)
  have x10 : Pl.pc (xyT m (e + 1)) 1 0 = 1 := by rw [xy_pc m1 d1]; exact if_pos (by omega)
  have x11 : Pl.pc (xyT m (e + 1)) 1 1 = 0 := by rw [xy_pc m1 d1]; exact if_neg (by omega)
  simp only [x00, x01, x10, x11, p0, p1]
  unfold sumF
  by_cases hp : p = 0
  · by_cases hq : q = 0
    · simp [hp, hq, hz]
    · simp [hp, hq, hz]
  · by_cases hq : q = 0
    · simp [hp, hq, hz]
    · simp [hp, hq]
theorem acr_logG {m : Int} {d : Nat} {l : List Int} (hs : SerOkG m d l) (hz : Ser.co l 0 = 0) (A : Option Addr) (c : Nat) : acrT m d [(true, A, c, l)] = Pl.tab m d (sumF l) := sum_botTG hs hz
theorem acr_bothG {m : Int} {d : Nat} {l : List Int} (hs : SerOkG m d l) (hz : Ser.co l 0 = 0) (A A' : Option Addr) (c c' : Nat) (r : List Int) : acrT m d [(true, A, c, l), (false, A', c', r)] = Pl.hor m d r (Pl.pc (Pl.tab m d (sumF l))) (d + 1) := by
  have h := acr_logG hs hz A c
  unfold acrT at h ⊢
  rw [← h]
  rfl
theorem PS_twoG {T : TypeId} {W : World} {g : Nat} {m : Int} {d : Nat} {A : Option Addr} {c : Nat} {l : List Int} {A1 : Option Addr} {c1 : Nat} {R : List Int} (hv : VarC T W g #[.iface 128 (.agg #[.int .i64 m, .slice A l.length c]), .iface 130 (.agg #[.int .i64 m, .slice A1 R.length c1])])
    (ra : RI W A l) (rb : RI W A1 R) (s1 : SerOkG m d l) (z1 : Ser.co l 0 = 0) (s2 : SerOkG m d R) (z2 : Ser.co R 0 = 0) : PSG W g m d [(true, A, c, l), (false, A1, c1, R)] := by
  refine ⟨hv.lt, fun k b A' c' l' hk => ?_⟩
  rcases k with _ | _ | k
  · simp at hk
    obtain ⟨rfl, rfl, rfl, rfl⟩ := hk
    exact ⟨hv.cell 0 _ rfl, ra, s1, z1⟩
  · simp at hk
    obtain ⟨rfl, rfl, rfl, rfl⟩ := hk
    exact ⟨hv.cell 1 _ rfl, rb, s2, z2⟩
  · simp at hk
theorem across2_anyG (m : Int) (d : Nat) (A : Option Addr) (c : Nat) (l : List Int) (A1 : Option Addr) (c1 : Nat) (R : List Int) (g : Nat) (w : World) (hs : SerOkG m d l) (hz : Ser.co l 0 = 0) (hp : PSG w g m d [(true, A, c, l), (false, A1, c1, R)]) :
    Calls Tryz.prog 135 #[.agg #[.int .i64 m, .int .i64 d], .slice (some ⟨g, 0, none⟩) 2 2] w fun e w' => ∃ v, e = .returned (.agg #[.int .i64 m, .int .i64 d, v]) ∧ OwnR w' w.heap.size w'.heap.size v (Pl.hor m d R (Pl.pc (Pl.tab m d (sumF l))) (d + 1)) ∧ Below w.heap.size w w' := by
  have h := additionAcross_anyG m d g _ w hs.m1 hs.m2 hs.d1 hs.d2 hp (by simp) (fun k A' c' l' hk => by
    rcases k with _ | _ | k
    · simp at hk
    · show Pl.pc (acrT m d [(true, A, c, l)]) 0 0 = 0
      rw [acr_logG hs hz]
      exact sum_00 _ _ _
    · simp at hk)
  rw [acr_bothG hs hz] at h
  exact h
end Go.Proofs.YtfhdgcndiljjcabGreat

