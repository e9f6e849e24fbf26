/- Texts of contracts, joined. -/
import Derived.Test.YtfhdgcndiljjcabGreatMgai
import Derived.Test.YtfhdgcndiljjcabGreatMgaj
import Derived.Test.YtfhdgcndiljjcabGreatMgam
import Derived.Deep.RegionHeld3
/- Copies with great moduli, up to 10^8: written by wip/tools/mk_bga.py out of Rvs, Llg. -/
namespace Go.Proofs.YtfhdgcndiljjcabGreat
open Go.RowKit Go.WideShapes Go.ChangeShapes Go.ChangeAt
theorem SerOkG.lag2 {m u : Int} {d : Nat} {l : List Int} (h : SerOkG m d l) (f : Nat → Int) (n : Nat) : SerOkG m d (Ser.lagG m u f d n).2 :=
  ⟨h.m1, h.m2, h.d1, h.d2, Ser.lagG_len2 _ _ _ _ _, Ser.lagG_red2 (by have := h.m1; omega) _ _ _ _⟩
theorem SerOkG.sca {m : Int} {d : Nat} {l : List Int} (h : SerOkG m d l) (l' : List Int) (k : Int) : SerOkG m d (scaL m d l' k) := by unfold scaL; exact h.cut _
theorem scaled_atG {X : World} {base : Nat} {m : Int} {d : Nat} {A : Option Addr} {c : Nat} {l : List Int} {k : Int} (hs : SerOkG m d l) (ho : OwnI X base (.slice A (d + 1) c) l) (h5 : -100000000 ≤ k) (h6 : k ≤ 100000000) (W0 : World) (h : Below X.heap.size X W0) :
    Calls Tryz.prog 78 #[.agg #[.int .i64 m, .slice A (d + 1) c], .int .i64 k] W0 fun e w' => ∃ A5 c5, e = .returned (.agg #[.int .i64 m, .slice A5 (d + 1) c5]) ∧ RI w' A5 (scaL m d l k) ∧ Below W0.heap.size W0 w' := by
  have := scaled_anyG m d A c l k W0 hs ((ri_len ho).below h) h5 h6
  rw [hs.len] at this
  refine this.mono ?_
  rintro e w' ⟨v, rfl, ho, hb⟩
  obtain ⟨A5, c5, rfl, hr⟩ := ho.form
  exact ⟨A5, c5, by rw [scaL_len], hr, hb⟩
theorem plus_atG {X : World} {base : Nat} {m : Int} {d : Nat} {A : Option Addr} {c : Nat} {l l' : List Int} (hs : SerOkG m d l) (hs' : SerOkG m d l') (ho : OwnI X base (.slice A (d + 1) c) l) (W0 : World) (h : Below X.heap.size X W0) (A' : Option Addr) (c' : Nat) (hr' : RI W0 A' l') :
    Calls Tryz.prog 71 #[.agg #[.int .i64 m, .slice A (d + 1) c], .agg #[.int .i64 m, .slice A' (d + 1) c']] W0 fun e w' => ∃ A6 c6, e = .returned (.agg #[.int .i64 m, .slice A6 (d + 1) c6]) ∧ OwnI w' W0.heap.size (.slice A6 (d + 1) c6) (addL m d l l') ∧ Below W0.heap.size W0 w' := by
  have := plus_anyG m d A c l m A' c' l' W0 hs hs' ((ri_len ho).below h) hr'
  rw [hs.len, hs'.len] at this
  refine this.mono ?_
  rintro e w' ⟨v, rfl, ho, hb⟩
  obtain ⟨A6, c6, rfl, hr⟩ := ho.form
  have e : (Ser.cut m d fun n => Ser.co l n + Ser.co l' n) = addL m d l l' := rfl
  rw [e] at ho ⊢
  rw [addL_len] at ho ⊢
  exact ⟨A6, c6, rfl, ho, hb⟩
set_option maxHeartbeats 16000000 in
set_option maxRecDepth 100000 in
theorem reversed_anyG (m : Int) (d : Nat) (A : Option Addr) (c : Nat) (l : List Int) (u : Int) (w : World) (hs : SerOkG m d l) (hr : RI w A l) (u1 : 0 ≤ u) (u2 : u < m) :
    Calls Tryz.prog 42 #[.agg #[.int .i64 m, .slice A l.length c], .int .i64 u] w fun e w' => ∃ v, e = .returned (.agg #[.int .i64 m, v]) ∧ OwnI w' w.heap.size v (Ser.lagG m u (Ser.co l) d d).1 ∧ Below w.heap.size w w' := by
  obtain ⟨W, hW, b1, v3, hwb⟩ := spro1 w m A l.length c
  have B1 := Lib.hid b1
  have V3 := Lib.hid v3
  have HB := Lib.hid hwb
  have HW := Lib.hid hW
  have HR0 := Lib.hid hr
  have HSZ : w.heap.size + 1 < W.heap.size := v3.lt
  have m1 := hs.m1
  have m2 := hs.m2
  have hd := hs.d2
  have hd1 := hs.d1
  have hm0 : ¬ m = 0 := by omega
  have HDG := Lib.hid (fun W0 => degree_nat m A l.length c d W0 hs.len (by omega))
  have HM1 := Lib.hid (fun W0 => monomial_anyG m d 0 0 W0 (by omega) m2 (by omega) (by omega) (by omega))
  have HM2 := Lib.hid (fun W0 => monomial_anyG m d 1 1 W0 (by omega) m2 (by omega) (by omega) (by omega))
  have HM3 := Lib.hid (fun W0 => monomial_anyG m d 0 1 W0 (by omega) m2 (by omega) (by omega) (by omega))
  have HSO := Lib.hid hs
  obtain ⟨x1, x2, x3⟩ := b1
  clear v3 hwb hW hr hs
  go_enter Tryz.func42, Tryz.ntmps42
  go_wp2
  rw [HW.out]
  go_region_held3 (fun w' => w'.cell? ⟨w.heap.size, 0, none⟩ = some (.int .i64 m) ∧ w'.cell? ⟨w.heap.size, 1, none⟩ = some (.slice A l.length c) ∧ w.heap.size < w'.heap.size) (first | exact ⟨x1, x2, x3⟩ | exact (by assumption) | exact box_call (by assumption) (by assumption)) (first
    | (go_at_call 76; refine (HDG.out _).mono ?_; rintro e1 W1 ⟨rfl, hb1⟩))
  all_goals
    have hb2 := below_step (below_drew0 _) hb1
    have Y1 := Lib.hid (B1.out.keep hb2)
    have V1 := Lib.hid (V3.out.keep hb2)
    have HB1 := Lib.hid (below_step HB.out hb2)
    have HSZ1 : w.heap.size + 1 < W1.heap.size := (V3.out.keep hb2).lt
    clear hb1 hb2 x1 x2 x3 B1 V3 HB HW HDG
    go_wp2_with fail
    refine (HM1.out _).mono ?_
    rintro e w2 ⟨s2, rfl, ho2, hb2⟩
    have hlg := Ser.cut_length m d (Ser.mon 0 0)
    obtain ⟨gG, cG, rfl⟩ := ho2.openv (by intro h; rw [h] at hlg; simp at hlg)
    rw [hlg] at ho2 ⊢
    obtain ⟨Wa, hWa⟩ : ∃ Wa, w2.alloc (.cells #[.int .i64 m, .slice (some ⟨gG, 0, none⟩) (d + 1) cG] 39) = Wa := ⟨_, rfl⟩
    have va : Var2 Wa w2.heap.size (.int .i64 m) (.slice (some ⟨gG, 0, none⟩) (d + 1) cG) := by rw [← hWa]; exact Var2.new _ _ _
    have oa : OwnI Wa W1.heap.size (.slice (some ⟨gG, 0, none⟩) (d + 1) cG) (Ser.lagG m u (Ser.co l) d 0).1 := by rw [← hWa]; exact ho2.keep (below_one _ _)
    have ba : Below W1.heap.size W1 Wa := by rw [← hWa]; exact below_alloc _ hb2
    have hga := (oa.lt gG rfl)
    obtain ⟨g7, hg7⟩ : ∃ g7, w2.heap.size = g7 := ⟨_, rfl⟩
    have hg7l : W1.heap.size ≤ g7 := by rw [← hg7]; exact hb2.size
    have hne7 := own_ne_var va oa
    rw [hg7] at va
    have VA := Lib.hid va
    have OA := Lib.hid oa
    have BA := Lib.hid ba
    have HWA := Lib.hid hWa
    clear hWa va oa ba ho2 hb2 HM1 hlg
    go_wp2_with fail
    rw [HWA.out]
    refine (HM2.out _).mono ?_
    rintro e w3 ⟨s3, rfl, ho3, hb3⟩
    obtain ⟨A8, c8, rfl, -⟩ := ho3.form
    rw [Ser.cut_length] at ho3 ⊢
    obtain ⟨Wb, hWb⟩ : ∃ Wb, w3.alloc (.cells #[.int .i64 m, .slice A8 (d + 1) c8] 39) = Wb := ⟨_, rfl⟩
    have vb : Var2 Wb w3.heap.size (.int .i64 m) (.slice A8 (d + 1) c8) := by rw [← hWb]; exact Var2.new _ _ _
    have ob : OwnI Wb Wa.heap.size (.slice A8 (d + 1) c8) (Ser.lagG m u (Ser.co l) d 0).2 := by rw [← hWb]; exact ho3.keep (below_one _ _)
    have bb : Below Wa.heap.size Wa Wb := by rw [← hWb]; exact below_alloc _ hb3
    obtain ⟨g8, hg8⟩ : ∃ g8, w3.heap.size = g8 := ⟨_, rfl⟩
    have hg8l : Wa.heap.size ≤ g8 := by rw [← hg8]; exact hb3.size
    rw [hg8] at vb
    have VB := Lib.hid vb
    have OB := Lib.hid ob
    have BB := Lib.hid bb
    have HWB := Lib.hid hWb
    clear hWb vb ob bb ho3 hb3 HM2 HWA
    go_wp2_with fail
    rw [HWB.out]
    refine (HM3.out _).mono ?_
    rintro e w4 ⟨s4, rfl, ho4, hb4⟩
    obtain ⟨A9, c9, rfl, -⟩ := ho4.form
    rw [Ser.cut_length] at ho4 ⊢
    obtain ⟨Wc, hWc⟩ : ∃ Wc, w4.alloc (.cells #[.int .i64 m, .slice A9 (d + 1) c9] 39) = Wc := ⟨_, rfl⟩
    have vc : Var2 Wc w4.heap.size (.int .i64 m) (.slice A9 (d + 1) c9) := by rw [← hWc]; exact Var2.new _ _ _
    have oc : OwnI Wc Wb.heap.size (.slice A9 (d + 1) c9) (Ser.cut m d (Ser.pw (Ser.co l) 0)) := by rw [← hWc]; exact ho4.keep (below_one _ _)
    have bc : Below Wb.heap.size Wb Wc := by rw [← hWc]; exact below_alloc _ hb4
    obtain ⟨g9, hg9⟩ : ∃ g9, w4.heap.size = g9 := ⟨_, rfl⟩
    have hg9l : Wb.heap.size ≤ g9 := by rw [← hg9]; exact hb4.size
    rw [hg9] at vc
    have h78 : g7 < g8 := by have := VA.out.lt; omega
    have h89 : g8 < g9 := by have := VB.out.lt; omega
    have VC := Lib.hid vc
    have OC := Lib.hid oc
    have VA2 := Lib.hid ((VA.out.keep BB.out).keep bc)
    have OA2 := Lib.hid ((OA.out.keep BB.out).keep bc)
    have VB2 := Lib.hid (VB.out.keep bc)
    have OB2 := Lib.hid (OB.out.keep bc)
    have BC := Lib.hid (below_step (below_step BA.out BB.out) bc)
    have HWC := Lib.hid hWc
    have hwab := BB.out.size
    have hw1a := BA.out.size
    have hgG : gG < Wa.heap.size := hga.2
    have hgG2 : W1.heap.size ≤ gG := hga.1
    clear hWc vc oc bc ho4 hb4 HM3 HWB VA OA VB OB BA BB hga
    go_wp2_with fail
    rw [HWC.out]
    go_loopw [10, 11] (fun s10 s11 wr => ∃ (N n : Nat) (A8 : Option Addr) (c8 : Nat) (A9 : Option Addr) (c9 : Nat), N = n + 1 ∧ n ≤ d ∧ s10 = .int .i64 (Ser.ipow u n % m) ∧ s11 = .int .i64 N ∧
      Var2 wr g7 (.int .i64 m) (.slice (some ⟨gG, 0, none⟩) (d + 1) cG) ∧ OwnI wr W1.heap.size (.slice (some ⟨gG, 0, none⟩) (d + 1) cG) (Ser.lagG m u (Ser.co l) d n).1 ∧
      Var2 wr g8 (.int .i64 m) (.slice A8 (d + 1) c8) ∧ OwnI wr Wa.heap.size (.slice A8 (d + 1) c8) (Ser.lagG m u (Ser.co l) d n).2 ∧
      Var2 wr g9 (.int .i64 m) (.slice A9 (d + 1) c9) ∧ OwnI wr Wa.heap.size (.slice A9 (d + 1) c9) (Ser.cut m d (Ser.pw (Ser.co l) n)) ∧ Below W1.heap.size W1 wr) (fun _ s11 _ => d + 2 - (intOf s11).toNat)
    case atStart => exact ⟨1, 0, A8, c8, A9, c9, rfl, Nat.zero_le _, by rw [show Ser.ipow u 0 = 1 from rfl, Int.emod_eq_of_lt (by omega) (by omega)], rfl, VA2.out, OA2.out, VB2.out, OB2.out, VC.out, OC.out.more hwab, BC.out⟩
    case round =>
      obtain ⟨N, n, A8, c8, A9, c9, hN, hn, rfl, rfl, v7, oG, v8, oR, v9, oP, hbl⟩ := hrel
      have V7 := Lib.hid v7
      have OG := Lib.hid oG
      have V8 := Lib.hid v8
      have OR := Lib.hid oR
      have V9 := Lib.hid v9
      have OP := Lib.hid oP
      have BL := Lib.hid hbl
      have YA := Lib.hid (Y1.out.keep hbl)
      have VR := Lib.hid (V1.out.keep hbl)
      clear v7 oG v8 oR v9 oP hbl VA2 OA2 VB2 OB2 VC OC BC HWC
      by_cases hlt : N ≤ d
      · have hlt2 : (N : Int) ≤ (d : Int) := by omega
        have hwa : Wa.heap.size ≤ wr.heap.size := by have := V8.out.lt; omega
        have sp : SerOkG m d (Ser.cut m d (Ser.pw (Ser.co l) n)) := HSO.out.cut _
        obtain ⟨A0, c0, he0, hri0⟩ := OP.out.form
        rw [Ser.cut_length] at he0
        injection he0 with he1 _ he2
        subst he1 he2
        have ht := times_anyG m d A9 c9 _ m A c l wr sp HSO.out hri0 (HR0.out.below (below_step HB1.out BL.out))
        rw [Ser.cut_length, pw_step, ← hN] at ht
        obtain ⟨P2, hP2⟩ : ∃ P2, Ser.cut m d (Ser.pw (Ser.co l) N) = P2 := ⟨_, rfl⟩
        have hl2 : P2.length = d + 1 := by rw [← hP2, Ser.cut_length]
        have sp2 : SerOkG m d P2 := by rw [← hP2]; exact HSO.out.cut _
        rw [hP2] at ht
        have HT := Lib.hid ht
        obtain ⟨R, hR⟩ : ∃ R, (Ser.lagG m u (Ser.co l) d n).2 = R := ⟨_, rfl⟩
        obtain ⟨G, hG⟩ : ∃ G, (Ser.lagG m u (Ser.co l) d n).1 = G := ⟨_, rfl⟩
        have sr : SerOkG m d R := by rw [← hR]; exact HSO.out.lag2 _ _
        have hlR : R.length = d + 1 := by rw [← hR, Ser.lagG_len2]
        have hlG : G.length = d + 1 := by rw [← hG, Ser.lagG_len1]
        rw [hR] at OR
        rw [hG] at OG
        obtain ⟨q0, hq0⟩ : ∃ q0, Ser.ipow u n % m = q0 := ⟨_, rfl⟩
        have hqb1 := Int.emod_nonneg (Ser.ipow u n) hm0
        have hqb2 := Int.emod_lt_of_pos (Ser.ipow u n) (show 0 < m by omega)
        rw [hq0] at hqb1 hqb2
        have hq1 : q0 * u % m = Ser.ipow u N % m := by
          rw [← hq0, hN, Ser.ipow]; exact Ser.mul_cong (Int.emod_emod _ _) rfl
        have p1 := Int.mul_nonneg hqb1 u1
        have p2 := (mul_bdG (x := q0) (y := u) hqb1 (by omega) (by omega) (by omega)).2
        obtain ⟨Q, hQ⟩ : ∃ Q, q0 * u % m = Q := ⟨_, rfl⟩
        have hQb1 := Int.emod_nonneg (q0 * u) hm0
        have hQb2 := Int.emod_lt_of_pos (q0 * u) (show 0 < m by omega)
        rw [hQ] at hQb1 hQb2 hq1
        obtain ⟨RN, hRN⟩ : ∃ RN, Ser.co R N = RN := ⟨_, rfl⟩
        obtain ⟨rn1, rn2⟩ := sr.red N
        rw [hRN] at rn1 rn2
        have p3 := Int.mul_nonneg rn1 hQb1
        have p4 := (mul_bdG (x := RN) (y := Q) rn1 (by omega) (by omega) (by omega)).2
        obtain ⟨g, hg⟩ : ∃ g, RN * Q % m = g := ⟨_, rfl⟩
        have hg1 := Int.emod_nonneg (RN * Q) hm0
        have hg2 := Int.emod_lt_of_pos (RN * Q) (show 0 < m by omega)
        rw [hg] at hg1 hg2
        have hG2 : G.set N g = (Ser.lagG m u (Ser.co l) d N).1 := by
          rw [hN, lag_g, hG, hR, ← hN, hRN, ← hq1, hg]
        have hR2 : addL m d R (scaL m d P2 (-g)) = (Ser.lagG m u (Ser.co l) d N).2 := by
          have := lag_r m u (Ser.co l) d n
          rw [hR, ← hN, hRN, ← hq1, hg, hP2] at this
          exact this
        have HG2 := Lib.hid hG2
        have HR2 := Lib.hid hR2
        have HQ1 := Lib.hid hq1
        have HP2 := Lib.hid hP2
        obtain ⟨x1, x2, -⟩ := YA.out
        obtain ⟨x3, x4⟩ := (⟨V9.out.c0, V9.out.c1⟩ : _ ∧ _)
        have HNN := Lib.hid hN
        rw [hq0]
        clear ht sp hri0 hR hG hq1 hq0 hP2 hG2 hR2 hN
        go_wp2_with fail
        refine HT.out.mono ?_
        rintro e w3 ⟨s3, rfl, ho3, hb3⟩
        obtain ⟨A3, c3, rfl, -⟩ := ho3.form
        rw [hl2] at ho3 ⊢
        have v9 := V9.out.keep hb3
        have q5 := v9.c0
        have q6 := v9.c1
        have q7 := v9.fz 0
        have q8 := v9.fz 1
        clear x1 x2 x3 x4
        obtain ⟨X1, hX1⟩ : ∃ X1, set2 w3 g9 (.int .i64 m) (.slice A3 (d + 1) c3) = X1 := ⟨_, rfl⟩
        have v9x : Var2 X1 g9 (.int .i64 m) (.slice A3 (d + 1) c3) := by rw [← hX1]; exact v9.set2 _ _
        have oPx : OwnI X1 Wa.heap.size (.slice A3 (d + 1) c3) P2 := by rw [← hX1]; exact (ho3.set2 v9 _ _).more hwa
        have v7x : Var2 X1 g7 (.int .i64 m) (.slice (some ⟨gG, 0, none⟩) (d + 1) cG) := by rw [← hX1]; exact (V7.out.keep hb3).set2' (by omega) _ _
        have oGx : OwnI X1 W1.heap.size (.slice (some ⟨gG, 0, none⟩) (d + 1) cG) G := by rw [← hX1]; exact (OG.out.keep hb3).set2 v9 _ _
        have v8x : Var2 X1 g8 (.int .i64 m) (.slice A8 (d + 1) c8) := by rw [← hX1]; exact (V8.out.keep hb3).set2' (by omega) _ _
        have oRx : OwnI X1 Wa.heap.size (.slice A8 (d + 1) c8) R := by rw [← hX1]; exact (OR.out.keep hb3).set2 v9 _ _
        have bx : Below W1.heap.size W1 X1 := by rw [← hX1]; exact below_set2 (below_step BL.out hb3) (by omega) _ _
        obtain ⟨A0, c0, he0, hri0⟩ := oRx.form
        rw [hlR] at he0
        injection he0 with he1 _ he2
        subst he1 he2
        obtain ⟨b8, off8, hA8, hb8, hcN⟩ := hri0.at N (by omega)
        subst hA8
        rw [hRN] at hcN
        obtain ⟨-, -, o3, o4⟩ := oGx.cells
        have d1 := o3 N (by omega)
        have f1 := o4 N
        have hset := oGx.set N g
        rw [HG2.out] at hset
        have ne7 : gG ≠ g7 := fun e => own_ne_var v7x oGx (by rw [e]; rfl)
        have ne8 : gG ≠ g8 := by omega
        have ne9 : gG ≠ g9 := by omega
        have neR : (Value.slice (some ⟨b8, off8, none⟩) (d + 1) c8).ownBlock = none ∨ (Value.slice (some ⟨b8, off8, none⟩) (d + 1) c8).ownBlock ≠ some gG := by
          rcases hc : (Value.slice (some ⟨b8, off8, none⟩) (d + 1) c8).ownBlock with _ | b
          · exact .inl rfl
          · refine .inr (fun e => ?_)
            injection e with e
            have := (oRx.lt b hc).1
            omega
        have neP : (Value.slice A3 (d + 1) c3).ownBlock = none ∨ (Value.slice A3 (d + 1) c3).ownBlock ≠ some gG := by
          rcases hc : (Value.slice A3 (d + 1) c3).ownBlock with _ | b
          · exact .inl rfl
          · refine .inr (fun e => ?_)
            injection e with e
            have := (oPx.lt b hc).1
            omega
        obtain ⟨X2, hX2⟩ : ∃ X2, (X1.setCell ⟨gG, N, none⟩ (.int .i64 g)).drew = X2 := ⟨_, rfl⟩
        have v7y : Var2 X2 g7 (.int .i64 m) (.slice (some ⟨gG, 0, none⟩) (d + 1) cG) := by rw [← hX2]; exact v7x.far _ _ _ ne7
        have v8y : Var2 X2 g8 (.int .i64 m) (.slice (some ⟨b8, off8, none⟩) (d + 1) c8) := by rw [← hX2]; exact v8x.far _ _ _ ne8
        have v9y : Var2 X2 g9 (.int .i64 m) (.slice A3 (d + 1) c3) := by rw [← hX2]; exact v9x.far _ _ _ ne9
        have oGy : OwnI X2 W1.heap.size (.slice (some ⟨gG, 0, none⟩) (d + 1) cG) (Ser.lagG m u (Ser.co l) d N).1 := by rw [← hX2]; exact hset
        have oRy : OwnI X2 Wa.heap.size (.slice (some ⟨b8, off8, none⟩) (d + 1) c8) R := by rw [← hX2]; exact OwnI.drew (oRx.other (grown_setCell X1 gG N _) neR)
        have oPy : OwnI X2 Wa.heap.size (.slice A3 (d + 1) c3) P2 := by rw [← hX2]; exact OwnI.drew (oPx.other (grown_setCell X1 gG N _) neP)
        have bxy : Below W1.heap.size W1 X2 := by rw [← hX2]; exact (bx.setCell (p := ⟨gG, N, none⟩) (by show W1.heap.size ≤ gG; omega) (.int .i64 g)).drew
        have hgN : X2.cell? ⟨gG, N, none⟩ = some (.int .i64 g) := by
          obtain ⟨-, -, o5, -⟩ := oGy.cells
          have := o5 N (by rw [Ser.lagG_len1]; omega)
          rw [this, ← HG2.out, List.getElem?_set_self (by omega)]
          rfl
        obtain ⟨y1, y2⟩ := (⟨v7x.c0, v7x.c1⟩ : _ ∧ _)
        obtain ⟨y3, y4⟩ := (⟨v8x.c0, v8x.c1⟩ : _ ∧ _)
        have j0 : (0 : Int) ≤ (N : Int) := by omega
        have j1 : (N : Int) < (d : Int) + 1 := by omega
        have w1 : IntKind.i64.wrap (RN * Q) = RN * Q := by rw [IntKind.wrap_i64]; omega
        unfold set2 at hX1
        have HX1 := Lib.hid hX1
        have HX2 := Lib.hid hX2
        have V7Y := Lib.hid v7y
        have V8Y := Lib.hid v8y
        have V9Y := Lib.hid v9y
        have OGY := Lib.hid oGy
        have ORY := Lib.hid oRy
        have OPY := Lib.hid oPy
        have BXY := Lib.hid bxy
        have HGN := Lib.hid hgN
        clear ho3 hb3 v9 v9x oPx v7x oGx v8x oRx bx hri0 o3 o4 hset hX1 hX2 v7y v8y v9y oGy oRy oPy bxy hgN neR neP
        go_upto_region 11 with fail
        rw [HX1.out]
        clear HX1 q5 q6 q7 q8
        go_still_tail 13, (by kernel_rfl)
        change wpList _ _ _ _ _ X1.drew
        go_upto_region 12 with fail
        rw [hg, HX2.out]
        clear HX2 y1 y2 y3 y4 d1 f1 hcN
        obtain ⟨y1, y2⟩ := (⟨V7Y.out.c0, V7Y.out.c1⟩ : _ ∧ _)
        obtain ⟨y3, y4⟩ := (⟨V8Y.out.c0, V8Y.out.c1⟩ : _ ∧ _)
        obtain ⟨y5, y6⟩ := (⟨V9Y.out.c0, V9Y.out.c1⟩ : _ ∧ _)
        have y7 := HGN.out
        obtain ⟨Ng, hNg⟩ : ∃ Ng, -g = Ng := ⟨_, rfl⟩
        have w2 : IntKind.i64.wrap Ng = Ng := by rw [IntKind.wrap_i64]; omega
        have HSC := Lib.hid (scaled_atG (k := Ng) sp2 OPY.out (by omega) (by omega))
        have ss5 : SerOkG m d (scaL m d P2 Ng) := HSO.out.sca _ _
        have HPL := Lib.hid (plus_atG sr ss5 ORY.out)
        have hR5 := HR2.out
        rw [hNg] at hR5
        rw [hR5] at HPL
        have SP2 := Lib.hid sp2
        clear hR5 HR2 ss5 sr sp2 p1 p2 p3 p4 hQ hg hl2 hlR hlG rn1 rn2 hRN hQb1 hQb2 hqb1 hqb2 w1 hg1 hg2 hb8 j0 hwab hw1a
        go_region_with (first
          | (go_at_call 78; refine (HSC.out _ (below_drew0 _)).mono ?_; rintro e5 w5 ⟨A5, c5, rfl, r5, hb5⟩; have v5 := V8Y.out.keep (below_step (below_drew0 _) hb5); have z1 := v5.c0; have z2 := v5.c1)
          | (go_at_call 71; refine (HPL.out _ (below_step (below_drew0 _) hb5) _ _ r5).mono ?_; rintro e6 w6 ⟨A6, c6, rfl, ho6, hb6⟩; have v6 := v5.keep hb6; have z3 := v6.c0; have z4 := v6.c1; have z5 := v6.fz 0; have z6 := v6.fz 1))
        all_goals
          have hb9 := below_step (below_step (below_drew0 _) hb5) hb6
          have K1 := Lib.hid (v6.set2 (.int .i64 m) (.slice A6 (d + 1) c6))
          have K2 := Lib.hid ((ho6.set2 v6 (.int .i64 m) (.slice A6 (d + 1) c6)).more (show Wa.heap.size ≤ w5.heap.size by have := v5.lt; omega))
          have K3 := Lib.hid ((V7Y.out.keep hb9).set2' (g' := g8) (by omega) (.int .i64 m) (.slice A6 (d + 1) c6))
          have K4 := Lib.hid ((OGY.out.keep hb9).set2 v6 (.int .i64 m) (.slice A6 (d + 1) c6))
          have K5 := Lib.hid ((V9Y.out.keep hb9).set2' (g' := g8) (by omega) (.int .i64 m) (.slice A6 (d + 1) c6))
          have K6 := Lib.hid ((OPY.out.keep hb9).set2 v6 (.int .i64 m) (.slice A6 (d + 1) c6))
          have K7 := Lib.hid (below_set2 (below_step BXY.out hb9) (show W1.heap.size ≤ g8 by omega) (.int .i64 m) (.slice A6 (d + 1) c6))
          clear hb9 hb5 hb6 ho6 v5 v6 r5 y1 y2 y3 y4 y5 y6 y7 z1 z2 z3 z4 z5 z6
          go_wp2
          go_roundw
          case rel => exact ⟨N + 1, N, _, _, _, _, rfl, hlt, by rw [HQ1.out], by first | rfl | go_num, K3.out, K4.out, K1.out, K2.out, K5.out, by rw [HP2.out]; exact K6.out, K7.out⟩
          case measure => simp only [intOf]; omega
      · obtain rfl : n = d := by omega
        have hlt2 : ¬ (N : Int) ≤ (n : Int) := by omega
        have z3 := V7.out.c0
        have z4 := V7.out.c1
        have z5 := VR.out.c0
        have z6 := VR.out.c1
        have z7 := VR.out.fz 0
        have z8 := VR.out.fz 1
        have f2 := (VR.out.set2 (.int .i64 m) (.slice (some ⟨gG, 0, none⟩) (n + 1) cG))
        have F1 := f2.c0
        have F2 := f2.c1
        have F3 := Lib.hid ((OG.out.set2 VR.out (.int .i64 m) (.slice (some ⟨gG, 0, none⟩) (n + 1) cG)).more (show w.heap.size ≤ W1.heap.size by omega))
        have F4 := Lib.hid (below_set2 (below_step HB1.out BL.out) (by omega : w.heap.size ≤ w.heap.size + 1) (.int .i64 m) (.slice (some ⟨gG, 0, none⟩) (n + 1) cG))
        unfold set2 at F1 F2 F3 F4
        clear f2 hN hlt
        go_wp2
        exact bodyPost_ret (v := .agg #[.int .i64 m, .slice (some ⟨gG, 0, none⟩) (n + 1) cG]) (by simp [results, Tryz.results42, go_sem, F1, F2]) rfl ⟨_, rfl, F3.out, F4.out⟩
set_option maxHeartbeats 4000000 in
set_option maxRecDepth 100000 in
theorem reversion_anyG (m : Int) (d : Nat) (A : Option Addr) (c : Nat) (l : List Int) (w : World) (hs : SerOkG m d l) (hr : RI w A l) :
    Calls Tryz.prog 136 #[.agg #[.int .i64 m, .slice A l.length c]] w fun e w' => ∃ v, e = .returned (.agg #[.int .i64 m, v]) ∧ OwnI w' w.heap.size v (Ser.lagG m 1 (Ser.co l) d d).1 ∧ Below w.heap.size w w' := by
  obtain ⟨W, hW, b1, v2, hwb⟩ := pro_serQ 128 130 w m A l.length c
  have B1 := Lib.hid b1
  have V2 := Lib.hid v2
  have HB := Lib.hid hwb
  have HW := Lib.hid hW
  have m1 := hs.m1
  have HI := Lib.hid (reversed_anyG m d A c l 1 W hs (hr.below hwb) (by omega) (by omega))
  obtain ⟨R, hR⟩ : ∃ R, (Ser.lagG m 1 (Ser.co l) d d).1 = R := ⟨_, rfl⟩
  rw [hR] at HI ⊢
  have hsz : w.heap.size + 1 < W.heap.size := v2.lt
  obtain ⟨x1, x2, x3⟩ := b1
  clear v2 hwb hW hr hs hR
  go_enter Tryz.func136, Tryz.ntmps136
  go_wp2_with fail
  rw [HW.out]
  refine HI.out.mono ?_
  rintro e w1 ⟨s, rfl, ho, hb1⟩
  obtain ⟨A2, c2, rfl, -⟩ := ho.form
  have hv := V2.out.keep hb1
  obtain ⟨q0, q1, q2, q3⟩ := hv.tells2
  obtain ⟨f0, f1, f2, f3⟩ := fin_serC (w := w) hv ho hsz (by omega) (below_step HB.out hb1) (.int .i64 m) (.slice A2 R.length c2)
  have F2 := Lib.hid (OwnI.more (b' := w.heap.size) f2 (by omega))
  have F3 := Lib.hid f3
  clear f2 f3 ho hb1 hv x1 x2 x3
  go_wp2
  exact bodyPost_ret (v := .agg #[.int .i64 m, .slice A2 R.length c2]) (by simp [results, Tryz.results136, go_sem, f0, f1]) rfl ⟨_, rfl, F2.out, F3.out⟩
end Go.Proofs.YtfhdgcndiljjcabGreat

