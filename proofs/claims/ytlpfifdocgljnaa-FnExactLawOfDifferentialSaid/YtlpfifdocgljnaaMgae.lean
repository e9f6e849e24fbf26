/- Texts of contracts, joined. -/
import Derived.Test.YtlpfifdocgljnaaMgad
import Derived.Test.YtlpfifdocgljnaaMgac
import Derived.StillTailTactics
import Derived.Test.YtlpfifdocgljnaaMgab
/- Contracts of MultiplyPlanes, of the program and of the model. -/
namespace Go.Proofs.Ytlpfifdocgljnaa
open Go.RowKit Go.WideShapes Go.ChangeShapes Go.ChangeAt

set_option maxHeartbeats 16000000 in
set_option maxRecDepth 100000 in
theorem l03Times_any (m : Int) (d : Nat) (A : Option Addr) (c : Nat) (t : List (List Int)) (A' : Option Addr) (c' : Nat) (t' : List (List Int)) (w : World) (hs : Pl.Ok m d t) (hs' : Pl.Ok m d t') (hr : RP w A t) (hr' : RP w A' t') :
    Calls Try.prog 62 #[.int .i64 m, .slice A t.length c, .slice A' t'.length c'] w fun e w' => ∃ v, e = .returned v ∧ OwnR w' w.heap.size w'.heap.size v (Pl.tab m d (Pl.mul2 (Pl.pc t) (Pl.pc t'))) ∧ Below w.heap.size w w' := by
  have HR := Lib.hid hr
  have HR' := Lib.hid hr'
  have HS := Lib.hid hs
  have HS' := Lib.hid hs'
  have hd2 := hs.d2
  have m1 := hs.m1
  have m2 := hs.m2
  have hm0 : ¬ m = 0 := by omega
  have HZ := Lib.hid (l03Zero_any m d w (by omega))
  obtain ⟨L, hL⟩ : ∃ L, t.length = L := ⟨_, rfl⟩
  obtain ⟨L', hL'⟩ : ∃ L, t'.length = L := ⟨_, rfl⟩
  have HL := Lib.hid (hL.symm.trans hs.len)
  have HL' := Lib.hid (hL'.symm.trans hs'.len)
  have hLd : (L : Int) - 1 = (d : Int) := by have := hs.len; omega
  have hLb : L ≤ 11 := by have := hs.len; omega
  rw [hL, hL']
  clear hr hr' hs hs' hL hL'
  go_enter Try.func62, Try.ntmps62
  go_wp2_with fail
  refine HZ.out.mono ?_
  rintro e w1 ⟨v, rfl, ho, hb⟩
  rw [← Pl.S2_tab_zero m d (Pl.pc t) (Pl.pc t')] at ho
  obtain ⟨g, cv, rfl⟩ := ho.openv (by rw [Pl.tab_length]; omega)
  rw [Pl.tab_length] at ho ⊢
  have HO1 := Lib.hid ho
  have HB1 := Lib.hid hb
  clear ho hb
  go_wp2
  go_loopw [9] (fun i wr => ∃ i0 : Nat, i0 ≤ L ∧ i = .int .i64 i0 ∧ OwnR wr w.heap.size wr.heap.size (.slice (some ⟨g, 0, none⟩) (d + 1) cv) (Pl.tab m d (Pl.S2 d (Pl.pc t) (Pl.pc t') i0 0)) ∧ Below w.heap.size w wr) (fun i _ => L - (intOf i).toNat)
  case atStart => exact ⟨0, Nat.zero_le _, rfl, HO1.out, HB1.out⟩
  case round =>
    clear HO1 HB1
    obtain ⟨i, hi, rfl, hown, hbel⟩ := hrel
    have HB := Lib.hid hbel
    have HO := Lib.hid hown
    clear hown hbel
    by_cases hlt : i < L
    · have i1 : (i : Int) < (L : Int) := by omega
      go_wp2
      go_loopw [10] (fun j wr => ∃ j0 : Nat, i + j0 ≤ L ∧ j = .int .i64 j0 ∧ OwnR wr w.heap.size wr.heap.size (.slice (some ⟨g, 0, none⟩) (d + 1) cv) (Pl.tab m d (Pl.S2 d (Pl.pc t) (Pl.pc t') i j0)) ∧ Below w.heap.size w wr) (fun j _ => L - (intOf j).toNat)
      case atStart => exact ⟨0, by omega, rfl, HO.out, HB.out⟩
      case round =>
        clear HO HB
        obtain ⟨j, hj, rfl, hown, hbel⟩ := hrel
        have HB := Lib.hid hbel
        have HO := Lib.hid hown
        have hLd' := HL.out
        by_cases hjt : i + j < L
        · obtain ⟨ba, offa, bi, offi, ci, rfl, hba, ka1, hbi, ka2⟩ := HR.out.num i j (by rw [HS.out.len]; omega) (by rw [HS.out.row i (by omega)]; omega)
          rw [HS.out.row i (by omega)] at ka1
          obtain ⟨N, hN⟩ : ∃ N, d - i + 1 = N := ⟨_, rfl⟩
          rw [hN] at ka1
          have r1 := HS.out.pc i j
          have hskip := Pl.S2_skip m d (Pl.pc t) (Pl.pc t') i j
          obtain ⟨X, hX⟩ : ∃ X, Pl.pc t i j = X := ⟨_, rfl⟩
          have HX := Lib.hid hX
          rw [hX] at ka2 r1 hskip
          have KA1 := Lib.hid ka1
          have KA2 := Lib.hid ka2
          have a1 := (hbel.cell (p := ⟨ba, offa + i, none⟩) hba).trans ka1
          have a2 := (hbel.cell (p := ⟨bi, offi + j, none⟩) hbi).trans ka2
          obtain ⟨r1, r2⟩ := r1
          have j0 : (0 : Int) ≤ (i : Int) := by omega
          have j1 : (0 : Int) ≤ (j : Int) := by omega
          have j2 : (i : Int) + (j : Int) < (L : Int) := by omega
          have j3 : (j : Int) < (N : Int) := by omega
          clear hX ka1 ka2 hown hbel hN hLd'
          by_cases hX0 : X = 0
          · have HSK := Lib.hid (hskip hX0)
            subst hX0
            clear hskip
            go_wp2
            go_roundw
            case rel => exact ⟨j + 1, by omega, by go_num, by rw [← HSK.out]; exact HO.out, HB.out⟩
            case measure => simp only [intOf]; omega
          · obtain ⟨n1, n2⟩ := ne_facts hX0
            clear hskip
            have ho := HO.out
            rw [← Pl.T2_tab_zero] at ho
            have HO2 := Lib.hid ho
            clear ho HO
            go_wp2
            go_loopw [11] (fun k wr => ∃ k0 : Nat, i + j + k0 ≤ L ∧ k = .int .i64 k0 ∧ OwnR wr w.heap.size wr.heap.size (.slice (some ⟨g, 0, none⟩) (d + 1) cv) (Pl.tab m d (Pl.T2 d (Pl.pc t) (Pl.pc t') i j k0 0)) ∧ Below w.heap.size w wr) (fun k _ => L - (intOf k).toNat)
            case atStart => exact ⟨0, by omega, rfl, HO2.out, HB.out⟩
            case round =>
              clear HO2 HB a1 a2
              obtain ⟨k, hk, rfl, hown, hbel⟩ := hrel
              have HB := Lib.hid hbel
              have HO := Lib.hid hown
              have hLd' := HL.out
              by_cases hkt : i + j + k < L
              · obtain ⟨bb, offb, A2, ck, rfl, hbb, kb1, -, hri⟩ := HR'.out.at k (by rw [HS'.out.len]; omega)
                obtain ⟨bk, offk, rfl, -⟩ := hri.at 0 (by rw [HS'.out.row k (by omega)]; omega)
                have HRI := Lib.hid hri
                rw [HS'.out.row k (by omega)] at kb1
                obtain ⟨M, hM⟩ : ∃ M, d - k + 1 = M := ⟨_, rfl⟩
                rw [hM] at kb1
                have b1 := (hbel.cell (p := ⟨bb, offb + k, none⟩) hbb).trans kb1
                obtain ⟨br, cr, g1, g2, g3, g4, hcel⟩ := HO.out.numB (i + k) j (d - (i + k) + 1) (by rw [Pl.tab_length]; omega) (by rw [Pl.tab_row m d _ (i + k) (by omega), Ser.cut_length]) (by omega)
                obtain ⟨c4, -⟩ := hcel wr (Below.refl _ _)
                obtain ⟨Q, hQ⟩ : ∃ Q, d - (i + k) + 1 = Q := ⟨_, rfl⟩
                rw [hQ] at c4
                obtain ⟨s, hsik⟩ : ∃ s, i + k = s := ⟨_, rfl⟩
                rw [hsik] at c4
                have q1 : (i : Int) + (k : Int) = (s : Int) := by omega
                have q2 : (s : Int) < (d : Int) + 1 := by omega
                have q3 : (0 : Int) ≤ (s : Int) := by omega
                have q4 : (0 : Int) ≤ (k : Int) := by omega
                have q5 : (k : Int) < (L' : Int) := by have := HL'.out; omega
                have q6 : (i : Int) + (j : Int) + (k : Int) < (L : Int) := by omega
                have HQ := Lib.hid hQ
                have HMM := Lib.hid hM
                have HIK := Lib.hid hsik
                clear hown hbel hcel hQ hM hsik kb1 hLd' hri
                go_wp2
                go_quiet (fail)
                go_wp2
                go_loopw [14] (fun l wr => ∃ l0 : Nat, i + j + k + l0 ≤ L ∧ l = .int .i64 l0 ∧ OwnR wr w.heap.size wr.heap.size (.slice (some ⟨g, 0, none⟩) (d + 1) cv) (Pl.tab m d (Pl.T2 d (Pl.pc t) (Pl.pc t') i j k l0)) ∧ wr.cell? ⟨g, s, none⟩ = some (.slice (some ⟨br, 0, none⟩) Q cr) ∧ Below w.heap.size w wr) (fun l _ => L - (intOf l).toNat)
                case atStart => exact ⟨0, by omega, rfl, HO.out.keep (below_drewN (Below.refl _ _) _), c4, below_drewN HB.out _⟩
                case round =>
                  clear HO HB c4 b1
                  obtain ⟨l, hl, rfl, hown, hc4, hbel⟩ := hrel
                  have HB := Lib.hid hbel
                  have HO := Lib.hid hown
                  have HC4 := Lib.hid hc4
                  have hLd' := HL.out
                  by_cases hlt4 : i + j + k + l < L
                  · obtain ⟨b3, o3, e3, hb3, kc⟩ := HRI.out.at l (by rw [HS'.out.row k (by omega)]; omega)
                    injection e3 with e3
                    injection e3 with e3a e3b
                    subst e3a e3b
                    have a1 := (hbel.cell (p := ⟨ba, offa + i, none⟩) hba).trans KA1.out
                    have a2 := (hbel.cell (p := ⟨bi, offi + j, none⟩) hbi).trans KA2.out
                    have b2 := (hbel.cell (p := ⟨bk, offk + l, none⟩) hb3).trans kc
                    change wr.cell? _ = some (.int .i64 (Pl.pc t' k l)) at b2
                    obtain ⟨b4, c3, h1, h2, h3, h4, hcel⟩ := HO.out.numB (i + k) (j + l) (d - (i + k) + 1) (by rw [Pl.tab_length]; omega) (by rw [Pl.tab_row m d _ (i + k) (by omega), Ser.cut_length]) (by omega)
                    obtain ⟨c4, c5, c6, c7⟩ := hcel wr.drew (below_drew0 wr)
                    have hst := Pl.T2_step m d (Pl.pc t) (Pl.pc t') i j k l (by omega)
                    have hzb := (HS.out.tab (Pl.T2 d (Pl.pc t) (Pl.pc t') i j k l)).pc (i + k) (j + l)
                    have hyb := HS'.out.pc k l
                    obtain ⟨u, hu⟩ : ∃ u, j + l = u := ⟨_, rfl⟩
                    rw [HQ.out, HIK.out] at c4
                    rw [HIK.out] at hst hzb c5 c7
                    rw [hu] at hst hzb c5 c6 c7
                    obtain ⟨Z, hZ⟩ : ∃ Z, Pl.pc (Pl.tab m d (Pl.T2 d (Pl.pc t) (Pl.pc t') i j k l)) s u = Z := ⟨_, rfl⟩
                    obtain ⟨Y, hY⟩ : ∃ Y, Pl.pc t' k l = Y := ⟨_, rfl⟩
                    rw [hZ] at hst hzb c5
                    rw [hY] at hst hyb b2
                    rw [HX.out] at hst
                    have e4 : some (Value.slice (some ⟨br, 0, none⟩) Q cr) = some (Value.slice (some ⟨b4, 0, none⟩) Q c3) := hc4.symm.trans c4
                    injection e4 with e4
                    injection e4 with e4a e4b e4c
                    injection e4a with e4a
                    injection e4a with e4a
                    subst e4a e4c
                    have h8 := c7 ((Z + X * Y) % m)
                    rw [hst] at h8
                    have hpr := Pl.prod_bd r1 (by omega) hyb.1 (by omega)
                    have HO2 := Lib.hid (h8.more (show wr.heap.size ≤ (wr.drew.setCell ⟨br, u, none⟩ (.int .i64 ((Z + X * Y) % m))).heap.size by show wr.heap.size ≤ (wr.heap.modify _ _).size; simp))
                    have HB2 := Lib.hid (hbel.drew.setCell (p := ⟨br, u, none⟩) g2 (.int .i64 ((Z + X * Y) % m)))
                    have HC5 : Hid ((wr.drew.setCell ⟨br, u, none⟩ (.int .i64 ((Z + X * Y) % m))).cell? ⟨g, s, none⟩ = some (.slice (some ⟨br, 0, none⟩) Q cr)) :=
                      Lib.hid ((World.cell?_of_block (w := wr.drew) (Below.heap_setCell wr.drew ⟨br, u, none⟩ _ g (fun e => g4 e.symm))).trans hc4)
                    have p1 : IntKind.i64.wrap (X * Y) = X * Y := by rw [IntKind.wrap_i64]; omega
                    have p2 : IntKind.i64.wrap (Z + X * Y) = Z + X * Y := by rw [IntKind.wrap_i64]; omega
                    have p3 : 0 ≤ Z + X * Y := by omega
                    have p5 : (0 : Int) ≤ (j : Int) + (l : Int) := by omega
                    have p6 : (j : Int) + (l : Int) < (Q : Int) := by have := HQ.out; have := HIK.out; omega
                    have p7 : (0 : Int) ≤ (l : Int) := by omega
                    have p8 : (l : Int) < (M : Int) := by have := HMM.out; omega
                    have p9 : (i : Int) + (j : Int) + (k : Int) + (l : Int) < (L : Int) := by omega
                    have p10 : IntKind.i64.wrap ((j : Int) + (l : Int)) = (j : Int) + (l : Int) := by rw [IntKind.wrap_i64]; omega
                    have p11 : ((j : Int) + (l : Int)).toNat = u := by omega
                    clear hcel c4 c7 h8 hst hzb hyb hZ hY hown hbel hc4 hLd' kc hpr hu e4b h1 h2 h3 h4
                    go_wp2
                    go_still_tail 26, (by kernel_rfl)
                    change wpList _ _ _ _ _ wr.drew
                    go_wp2
                    go_roundw
                    case rel => exact ⟨l + 1, by omega, by go_num, HO2.out, HC5.out, HB2.out⟩
                    case measure => simp only [intOf]; omega
                  · have hlL : i + j + k + l = L := by omega
                    have ho := HO.out
                    rw [Pl.T2_rowend m d _ _ i j k l (by omega)] at ho
                    have HO2 := Lib.hid ho
                    have p9 : ¬ ((i : Int) + (j : Int) + (k : Int) + (l : Int) < (L : Int)) := by omega
                    clear hown hbel hc4 hLd' ho hlL
                    go_wp2
                    go_roundw
                    case rel => exact ⟨k + 1, by omega, by go_num, HO2.out, HB.out⟩
                    case measure => simp only [intOf]; omega
              · have hkL : i + j + k = L := by omega
                have ho := HO.out
                rw [Pl.T2_end m d _ _ i j k (by omega)] at ho
                have HO2 := Lib.hid ho
                have p9 : ¬ ((i : Int) + (j : Int) + (k : Int) < (L : Int)) := by omega
                clear hown hbel hLd' ho hkL
                go_wp2
                go_roundw
                case rel => exact ⟨j + 1, by omega, by go_num, HO2.out, HB.out⟩
                case measure => simp only [intOf]; omega
        · have hjL : i + j = d + 1 := by omega
          have ho := HO.out
          rw [Pl.S2_next m d _ _ i j hjL] at ho
          have HO2 := Lib.hid ho
          have p9 : ¬ ((i : Int) + (j : Int) < (L : Int)) := by omega
          clear hown hbel hLd' ho hjL
          go_wp2
          go_roundw
          case rel => exact ⟨i + 1, by omega, by go_num, HO2.out, HB.out⟩
          case measure => simp only [intOf]; omega
    · obtain rfl : i = d + 1 := by have := HL.out; omega
      have ho := HO.out
      rw [Pl.S2_last] at ho
      have HF := Lib.hid ho
      clear ho
      go_wp2
      go_ret
      exact ⟨_, rfl, HF.out, HB.out⟩
end Go.Proofs.Ytlpfifdocgljnaa

/- Contracts of the codes of a plane and one series, of the program and of the model. -/
namespace Go.Proofs.Ytlpfifdocgljnaa
open Go.RowKit Go.WideShapes Go.ChangeShapes Go.ChangeAt

/-- the code of a plane and one series -/
def codePS (m : Int) (t : List (List Int)) (m' : Int) (l : List Int) : Int := if isP m t = true ∧ isS m' l = true then (if m' = m ∧ l.length = t.length then 0 else 2) else 1
theorem codePS_ok {m : Int} {t : List (List Int)} {m' : Int} {l : List Int} (h : codePS m t m' l = 0) : m' = m ∧ ∃ d, t.length = d + 1 ∧ l.length = d + 1 ∧ Pl.Ok m d t ∧ SerOk m d l := by
  unfold codePS at h
  by_cases h1 : isP m t = true ∧ isS m' l = true
  · rw [if_pos h1] at h
    by_cases h2 : m' = m ∧ l.length = t.length
    · obtain ⟨rfl, h2⟩ := h2
      obtain ⟨d, e, s⟩ := plOk_of h1.1
      obtain ⟨d', e', s'⟩ := serOk_of h1.2
      obtain rfl : d' = d := by omega
      exact ⟨rfl, d', e, e', s, s'⟩
    · rw [if_neg h2] at h; exact absurd h (by decide)
  · rw [if_neg h1] at h; exact absurd h (by decide)
set_option maxHeartbeats 8000000 in
set_option maxRecDepth 100000 in
theorem codePS_any (g : Nat) (m : Int) (A : Option Addr) (c : Nat) (t : List (List Int)) (m' : Int) (A' : Option Addr) (c' : Nat) (l : List Int) (w : World) (hz : szT t ≤ 1048576) (hl : l.length ≤ 1048576)
    (hr : RP w A t) (hr' : RI w A' l) (hx : Box w g m' A' l.length c') :
    Calls Try.prog 115 #[.agg #[.int .i64 m, .slice A t.length c], .slice (some ⟨g, 0, none⟩) 1 1] w fun e w' => e = .returned (.int .i64 (codePS m t m' l)) ∧ Below w.heap.size w w' := by
  obtain ⟨W, hW, b1, hwb⟩ := start1 32 w m A t.length c
  have HX := Lib.hid (hx.keep hwb)
  have B1 := Lib.hid b1
  have HB := Lib.hid hwb
  have HW := Lib.hid hW
  have HIP := Lib.hid (fun W0 (h : Below W.heap.size W W0) => IsPlane_any m A c t W0 hz ((hr.below hwb).below h))
  have HIS := Lib.hid (fun W0 (h : Below W.heap.size W W0) => IsSeries_any m' A' c' l W0 (by omega) ((hr'.below hwb).below h))
  have hfd := field_frame
  have HCC : Hid (codePS m t m' l = if isP m t = true ∧ isS m' l = true then (if m' = m ∧ l.length = t.length then 0 else 2) else 1) := Lib.hid rfl
  obtain ⟨C, hC⟩ : ∃ C, codePS m t m' l = C := ⟨_, rfl⟩
  rw [hC] at HCC ⊢
  clear hC hx hwb hW b1
  by_cases h1 : isP m t = true
  · by_cases h2 : isS m' l = true
    · obtain ⟨d, e1, ok⟩ := plOk_of h1
      obtain ⟨d', e2, ok'⟩ := serOk_of h2
      have HG := Lib.hid (fun W0 => gridOf_nat m A t.length c d W0 e1 (by have := ok.d2; omega))
      have HF := Lib.hid (fun W0 => frameOfSeries_any m' A' l.length c' d' W0 e2 (by have := ok'.d2; omega))
      have hcc := HCC.out
      rw [if_pos ⟨h1, h2⟩, e1, e2] at hcc
      rw [h1] at HIP
      rw [h2] at HIS
      obtain ⟨L, hL⟩ : ∃ L, t.length = L := ⟨_, rfl⟩
      obtain ⟨L', hL'⟩ : ∃ L, l.length = L := ⟨_, rfl⟩
      rw [hL] at HIP HG B1 HW ⊢
      rw [hL'] at HIS HF HX
      have HCD := Lib.hid hcc
      clear hcc HCC h1 h2 hr hr' hz hl e1 e2 ok ok' hL hL'
      go_enter Try.func115, Try.ntmps115
      go_wp2_with fail
      rw [HW.out]
      refine (HIP.out _ (Below.refl _ _)).mono ?_
      rintro e w1 ⟨rfl, hb1⟩
      obtain ⟨y1, y2, y3⟩ := HX.out.keep hb1
      go_wp2
      refine wp_loop_rounds 2 ?_
      rw [rounds_succ]
      go_wp2_with fail
      refine (HIS.out _ (below_alloc _ hb1)).mono ?_
      rintro e w2 ⟨rfl, hb2⟩
      have hb3 := (below_alloc (.cells #[.int .i64 m', .slice A' L' c'] 34) hb1).trans (hb2.mono (by have := hb1.size; simp; omega))
      clear y1 y2 y3
      obtain ⟨y1, y2, y3⟩ := HX.out.keep hb3
      go_wp2
      rw [rounds_succ]
      go_wp2
      refine wp_loop_rounds 2 ?_
      rw [rounds_succ]
      go_wp2
      obtain ⟨W', hW', b1, b2, hwb⟩ := var_inT (T := 34) (m' := m') (A' := A') (n' := L') (c' := c') B1.out hb3
      rw [hW']
      have C1 := Lib.hid b1
      have C2 := Lib.hid b2
      have HB' := Lib.hid (below_step HB.out hwb)
      clear hW' b1 b2 hwb hb1 hb2 hb3 y1 y2 y3
      by_cases hm : m' = m
      · subst hm
        by_cases hd : d' = d
        · subst hd
          have HC2 : Hid (C = 0) := Lib.hid (by rw [HCD.out, if_pos ⟨rfl, rfl⟩])
          clear HCD
          go_region_held3 (fun w' => (w'.cell? ⟨w2.heap.size, 0, none⟩ = some (.int .i64 m') ∧ w'.cell? ⟨w2.heap.size, 1, none⟩ = some (.slice A' L' c')) ∧ (w'.cell? ⟨w.heap.size, 0, none⟩ = some (.int .i64 m') ∧ w'.cell? ⟨w.heap.size, 1, none⟩ = some (.slice A L c)) ∧ Below W'.heap.size W' w') (first | exact box2_in C1.out C2.out (below_drew0 _) | exact box2_next C1.out C2.out (by assumption) (by assumption)) (first
            | (go_at_call 33; with_reducible refine Calls.mono (HG.out _) ?_; rintro e1 w4 ⟨rfl, hb5⟩) | (go_at_call 81; with_reducible refine Calls.mono (HF.out _) ?_; rintro e1 w4 ⟨rfl, hb5⟩))
          all_goals
            go_wp2
            rw [rounds_succ]
            go_wp2
            go_ret
            exact ⟨ret_int HC2.out.symm, HB'.out.trans ((box2_next C1.out C2.out (Below.refl _ _) (by assumption)).2.2.mono HB'.out.size)⟩
        · have HC2 : Hid (C = 2) := Lib.hid (by rw [HCD.out, if_neg (fun h => hd (by omega))])
          have hd2 : ¬ (d' : Int) = (d : Int) := by omega
          have hd3 : ((d' : Int) == (d : Int)) = false := by simpa using hd2
          clear HCD hd
          go_region_held3 (fun w' => (w'.cell? ⟨w2.heap.size, 0, none⟩ = some (.int .i64 m') ∧ w'.cell? ⟨w2.heap.size, 1, none⟩ = some (.slice A' L' c')) ∧ (w'.cell? ⟨w.heap.size, 0, none⟩ = some (.int .i64 m') ∧ w'.cell? ⟨w.heap.size, 1, none⟩ = some (.slice A L c)) ∧ Below W'.heap.size W' w') (first | exact box2_in C1.out C2.out (below_drew0 _) | exact box2_next C1.out C2.out (by assumption) (by assumption)) (first
            | (go_at_call 33; with_reducible refine Calls.mono (HG.out _) ?_; rintro e1 w4 ⟨rfl, hb5⟩) | (go_at_call 81; with_reducible refine Calls.mono (HF.out _) ?_; rintro e1 w4 ⟨rfl, hb5⟩))
          all_goals
            go_wp2
            go_ret
            exact ⟨ret_int HC2.out.symm, HB'.out.trans ((box2_next C1.out C2.out (Below.refl _ _) (by assumption)).2.2.mono HB'.out.size)⟩
      · have HC2 : Hid (C = 2) := Lib.hid (by rw [HCD.out, if_neg (fun h => hm h.1)])
        have hm3 : (m' == m) = false := by simpa using hm
        clear HCD
        go_region_held3 (fun w' => (w'.cell? ⟨w2.heap.size, 0, none⟩ = some (.int .i64 m') ∧ w'.cell? ⟨w2.heap.size, 1, none⟩ = some (.slice A' L' c')) ∧ (w'.cell? ⟨w.heap.size, 0, none⟩ = some (.int .i64 m) ∧ w'.cell? ⟨w.heap.size, 1, none⟩ = some (.slice A L c)) ∧ Below W'.heap.size W' w') (first | exact box2_in C1.out C2.out (below_drew0 _) | exact box2_next C1.out C2.out (by assumption) (by assumption)) (first
          | (go_at_call 33; with_reducible refine Calls.mono (HG.out _) ?_; rintro e1 w4 ⟨rfl, hb5⟩) | (go_at_call 81; with_reducible refine Calls.mono (HF.out _) ?_; rintro e1 w4 ⟨rfl, hb5⟩))
        all_goals
          go_wp2
          go_ret
          exact ⟨ret_int HC2.out.symm, HB'.out.trans ((box2_next C1.out C2.out (Below.refl _ _) (by assumption)).2.2.mono HB'.out.size)⟩
    · have h2' : isS m' l = false := by simpa using h2
      have HNO : Hid (C = 1) := Lib.hid (by rw [HCC.out, if_neg (fun h => h2 h.2)])
      rw [h1] at HIP
      rw [h2'] at HIS
      clear h1 h2 h2' HCC hr hr'
      go_enter Try.func115, Try.ntmps115
      go_wp2_with fail
      rw [HW.out]
      refine (HIP.out _ (Below.refl _ _)).mono ?_
      rintro e w1 ⟨rfl, hb1⟩
      obtain ⟨y1, y2, y3⟩ := HX.out.keep hb1
      go_wp2
      refine wp_loop_rounds 2 ?_
      rw [rounds_succ]
      go_wp2_with fail
      refine (HIS.out _ (below_alloc _ hb1)).mono ?_
      rintro e w2 ⟨rfl, hb2⟩
      have hb3 := (below_alloc (.cells #[.int .i64 m', .slice A' l.length c'] 34) hb1).trans (hb2.mono (by have := hb1.size; simp; omega))
      go_wp2
      go_ret
      exact ⟨ret_int HNO.out.symm, below_step HB.out hb3⟩
  · have h1' : isP m t = false := by simpa using h1
    have HNO : Hid (C = 1) := Lib.hid (by rw [HCC.out, if_neg (fun h => h1 h.1)])
    rw [h1'] at HIP
    clear h1 h1' HCC hr hr'
    go_enter Try.func115, Try.ntmps115
    go_wp2_with fail
    rw [HW.out]
    refine (HIP.out _ (Below.refl _ _)).mono ?_
    rintro e w1 ⟨rfl, hb1⟩
    go_wp2
    go_ret
    exact ⟨ret_int HNO.out.symm, below_step HB.out hb1⟩
end Go.Proofs.Ytlpfifdocgljnaa

/- Contracts of a series put upon a plane: Horner's tables, the model's loop. -/
namespace Go.Proofs.Ytlpfifdocgljnaa
open Go.RowKit Go.WideShapes Go.ChangeShapes Go.ChangeAt

namespace Pl
/-- Horner's table when the last k coefficients have been taken in -/
def hor (m : Int) (d : Nat) (l : List Int) (F : Nat → Nat → Int) : Nat → List (List Int)
  | 0 => tab m d fun _ _ => 0
  | k + 1 => tab m d fun p q => mul2 (pc (hor m d l F k)) F p q + (if p = 0 ∧ q = 0 then Ser.co l (d - k) else 0)
theorem hor_length (m : Int) (d : Nat) (l : List Int) (F : Nat → Nat → Int) (k : Nat) : (hor m d l F k).length = d + 1 := by
  cases k <;> (unfold hor; exact tab_length _ _ _)
theorem hor_ok {m : Int} {d : Nat} (m1 : 2 ≤ m) (m2 : m ≤ 10000) (d1 : 1 ≤ d) (d2 : d ≤ 10) (l : List Int) (F : Nat → Nat → Int) (k : Nat) : Ok m d (hor m d l F k) := by
  cases k <;> (unfold hor; exact Ok.of_tab m1 m2 d1 d2 _)
theorem mul2_left0 (a b : Nat → Nat → Int) (ha : ∀ i j, a i j = 0) (p q : Nat) : mul2 a b p q = 0 := by
  unfold mul2
  have h1 : ∀ n, Ser.psum (fun _ => (0 : Int)) n = 0 := fun n => by induction n with
    | zero => rfl
    | succ n ih => rw [Ser.psum, ih]; rfl
  rw [Ser.psum_ext (g := fun _ => 0) _ (fun k _ => ?_), h1]
  rw [Ser.psum_ext (g := fun _ => 0) _ (fun l _ => by rw [ha, Int.zero_mul]), h1]
theorem pc_zero (m : Int) (d : Nat) (i j : Nat) : pc (tab m d fun _ _ => 0) i j = 0 := by
  by_cases h : i + j ≤ d
  · rw [pc_tab h, Int.zero_emod]
  · rw [pc_over (by omega)]
/-- the model's step -/
theorem hor_step {m : Int} {d : Nat} (l : List Int) (F : Nat → Nat → Int) (k : Nat) :
    (tab m d (mul2 (pc (hor m d l F k)) F)).set 0 ((rw' (tab m d (mul2 (pc (hor m d l F k)) F)) 0).set 0 ((pc (tab m d (mul2 (pc (hor m d l F k)) F)) 0 0 + Ser.co l (d - k)) % m)) = hor m d l F (k + 1) := by
  rw [pc_tab (Nat.zero_le _)]
  refine tab_put (Nat.zero_le _) ?_ (fun p q _ hne => ?_)
  · rw [if_pos ⟨rfl, rfl⟩, Int.emod_add_emod]
  · rw [if_neg hne, Int.add_zero]
/-- the program's step, for a plane with the constant 0 -/
theorem hor_stepP {m : Int} {d : Nat} {l : List Int} {F : Nat → Nat → Int} (k : Nat) (hF : F 0 0 = 0) (h1 : 0 ≤ Ser.co l (d - k)) (h2 : Ser.co l (d - k) < m) :
    (tab m d (mul2 (pc (hor m d l F k)) F)).set 0 ((rw' (tab m d (mul2 (pc (hor m d l F k)) F)) 0).set 0 (Ser.co l (d - k))) = hor m d l F (k + 1) := by
  refine tab_put (Nat.zero_le _) ?_ (fun p q _ hne => ?_)
  · rw [if_pos ⟨rfl, rfl⟩]
    have : mul2 (pc (hor m d l F k)) F 0 0 = 0 := by
      unfold mul2
      simp [Ser.psum, hF]
    rw [this, Int.zero_add, Int.emod_eq_of_lt h1 h2]
  · rw [if_neg hne, Int.add_zero]
/-- where the program begins -/
theorem hor_one {m : Int} {d : Nat} {l : List Int} (F : Nat → Nat → Int) (h1 : 0 ≤ Ser.co l d) (h2 : Ser.co l d < m) : tab m d (gosF (Ser.cut m d (Ser.mon 0 (Ser.co l d))) 0) = hor m d l F 1 := by
  show _ = tab m d _
  refine tab_congr (Eq.of m d (fun p q hpq => ?_))
  rw [mul2_left0 (pc (hor m d l F 0)) F (pc_zero m d), Int.zero_add]
  unfold gosF
  rw [if_pos rfl, Nat.sub_zero]
  by_cases hq : q = 0
  · rw [if_pos hq, Ser.co_cut (by omega)]
    unfold Ser.mon
    by_cases hp : p = 0
    · rw [if_pos hp, if_pos ⟨hp, hq⟩, Int.emod_eq_of_lt h1 h2]
    · rw [if_neg hp, if_neg (fun h => hp h.1), Int.zero_emod]
  · rw [if_neg hq, if_neg (fun h => hq h.2)]
end Pl

set_option maxHeartbeats 8000000 in
set_option maxRecDepth 100000 in
theorem l03After_any (m : Int) (d : Nat) (A : Option Addr) (c : Nat) (l : List Int) (A' : Option Addr) (c' : Nat) (t : List (List Int)) (w : World) (hs : SerOk m d l) (hs' : Pl.Ok m d t) (hr : RI w A l) (hr' : RP w A' t) :
    Calls Try.prog 28 #[.int .i64 m, .slice A l.length c, .slice A' t.length c'] w fun e w' => ∃ v, e = .returned v ∧ OwnR w' w.heap.size w'.heap.size v (Pl.hor m d l (Pl.pc t) (d + 1)) ∧ Below w.heap.size w w' := by
  have HR := Lib.hid hr
  have HR' := Lib.hid hr'
  have HS := Lib.hid hs
  have HS' := Lib.hid hs'
  have hd2 := hs.d2
  have m1 := hs.m1
  have m2 := hs.m2
  have hm0 : ¬ m = 0 := by omega
  have HZ := Lib.hid (l03Zero_any m d w (by omega))
  have HT := Lib.hid (fun (k : Nat) (A1 : Option Addr) (c1 : Nat) (W0 : World) (h : RP W0 A1 (Pl.hor m d l (Pl.pc t) k)) (h' : RP W0 A' t) => by
    have := l03Times_any m d A1 c1 (Pl.hor m d l (Pl.pc t) k) A' c' t W0 (Pl.hor_ok m1 m2 hs.d1 hd2 l _ k) hs' h h'
    rw [Pl.hor_length] at this
    exact this)
  obtain ⟨L, hL⟩ : ∃ L, l.length = L := ⟨_, rfl⟩
  obtain ⟨L', hL'⟩ : ∃ L, t.length = L := ⟨_, rfl⟩
  have hLd : (L : Int) - 1 = (d : Int) := by have := hs.len; omega
  have hLd' : (L' : Int) - 1 = (d : Int) := by have := hs'.len; omega
  have hLb : L ≤ 11 := by have := hs.len; omega
  rw [hL'] at HT
  rw [hL, hL']
  have HL := Lib.hid (hL.symm.trans hs.len)
  clear hr hr' hs hs' hL hL'
  go_enter Try.func28, Try.ntmps28
  go_wp2_with fail
  refine HZ.out.mono ?_
  rintro e w1 ⟨v, rfl, ho, hb⟩
  obtain ⟨A0, c0, rfl, -⟩ := ho.len
  rw [Pl.tab_length] at ho ⊢
  have HO1 := Lib.hid (show OwnR w1 w.heap.size w1.heap.size (.slice A0 (d + 1) c0) (Pl.hor m d l (Pl.pc t) 0) from ho)
  have HB1 := Lib.hid hb
  clear ho hb
  go_wp2
  go_loopw [7, 8] (fun s7 s8 wr => ∃ (k t0 : Nat) (I : Int) (A1 : Option Addr) (c1 : Nat), k + t0 = d + 1 ∧ I = (t0 : Int) - 1 ∧ s8 = .int .i64 I ∧ s7 = .slice A1 (d + 1) c1 ∧ OwnR wr w.heap.size wr.heap.size (.slice A1 (d + 1) c1) (Pl.hor m d l (Pl.pc t) k) ∧ Below w.heap.size w wr) (fun _ s8 _ => (intOf s8 + 1).toNat)
  case atStart => exact ⟨0, d + 1, _, A0, c0, by omega, rfl, by first | rfl | go_num, rfl, HO1.out, HB1.out⟩
  case round =>
    clear HO1 HB1
    obtain ⟨k, t0, I, A1, c1, hkt, hI, rfl, rfl, hown, hbel⟩ := hrel
    have HB := Lib.hid hbel
    have HO := Lib.hid hown
    clear hown hbel
    rcases t0 with _ | i
    · obtain rfl : k = d + 1 := by omega
      obtain rfl : I = -1 := by omega
      clear hI hkt
      go_wp2
      go_ret
      exact ⟨_, rfl, HO.out, HB.out⟩
    · obtain rfl : I = (i : Int) := by omega
      have hid : i ≤ d := by omega
      have hik : d - k = i := by omega
      have HTK := Lib.hid (HT.out k A1 c1 wr (by obtain ⟨_, _, e, h⟩ := HO.out.len; injection e with e1 e2 e3; subst e1; exact h) (HR'.out.below HB.out))
      have hst := Pl.hor_step (m := m) (d := d) l (Pl.pc t) k
      rw [hik] at hst
      obtain ⟨F, hF⟩ : ∃ F, Pl.mul2 (Pl.pc (Pl.hor m d l (Pl.pc t) k)) (Pl.pc t) = F := ⟨_, rfl⟩
      rw [hF] at HTK hst
      have HST := Lib.hid hst
      have HKT := Lib.hid hkt
      clear hI hst hF hik hkt
      go_wp2_with fail
      refine HTK.out.mono ?_
      rintro e w3 ⟨v3, rfl, ho3, hb3⟩
      obtain ⟨g, cv, rfl⟩ := ho3.openv (by rw [Pl.tab_length]; omega)
      rw [Pl.tab_length] at ho3 ⊢
      obtain ⟨b4, c4, h1, h2, h3, h4, hcel⟩ := ho3.numB 0 0 (d + 1) (by rw [Pl.tab_length]; omega) (by rw [Pl.tab_row m d _ 0 (by omega), Ser.cut_length]; omega) (by omega)
      obtain ⟨a4, -, -, -⟩ := hcel w3 (Below.refl _ _)
      obtain ⟨k4, k5, k6, k7⟩ := hcel w3.drew (below_drew0 w3)
      obtain ⟨b', off', rfl, hbb', hci⟩ := HR.out.at i (by have := HS.out.len; omega)
      have hc := ((below_step HB.out hb3).cell (p := ⟨b', off' + i, none⟩) hbb').trans hci
      have hst := HST.out
      obtain ⟨Z, hZ⟩ : ∃ Z, Ser.co l i = Z := ⟨_, rfl⟩
      have hzb := HS.out.red i
      have hyb := (HS'.out.tab F).pc 0 0
      obtain ⟨Y, hY⟩ : ∃ Y, Pl.pc (Pl.tab m d F) 0 0 = Y := ⟨_, rfl⟩
      rw [hZ] at hc hst hzb
      rw [hY] at hst hyb k5
      have h8 := k7 ((Y + Z) % m)
      rw [hst] at h8
      have hwr := HB.out.size
      have HO2 := Lib.hid ((h8.low hwr).more (show w3.heap.size ≤ (w3.drew.setCell ⟨b4, 0, none⟩ (.int .i64 ((Y + Z) % m))).heap.size by show w3.heap.size ≤ (w3.heap.modify _ _).size; simp))
      have HB2 := Lib.hid ((below_step HB.out hb3).drew.setCell (p := ⟨b4, 0, none⟩) (Nat.le_trans hwr h2) (.int .i64 ((Y + Z) % m)))
      have p2 : IntKind.i64.wrap (Y + Z) = Y + Z := by rw [IntKind.wrap_i64]; omega
      have p3 : 0 ≤ Y + Z := by omega
      have p4 : (0 : Int) < (d : Int) + 1 := by omega
      have p5 : (0 : Int) ≤ (i : Int) := by omega
      have p6 : (i : Int) < (L : Int) := by omega
      clear hcel k4 k7 h8 hst hzb hyb hZ hY hbb' hci ho3 hb3 h1 h2 h3 h4 hwr
      go_wp2
      go_still_tail 12, (by kernel_rfl)
      change wpList _ _ _ _ _ w3.drew
      go_wp2
      go_roundw
      case rel => exact ⟨k + 1, i, _, _, cv, by have := HKT.out; omega, rfl, by first | rfl | go_num, rfl, HO2.out, HB2.out⟩
      case measure => simp only [intOf]; omega
end Go.Proofs.Ytlpfifdocgljnaa

/- Contracts of the model's tables of a law: a list shorter than its degree put upon a plane; columns; the code of a law. -/
namespace Go.Proofs.Ytlpfifdocgljnaa
open Go.RowKit Go.WideShapes Go.ChangeShapes Go.ChangeAt

set_option maxHeartbeats 8000000 in
set_option maxRecDepth 100000 in
theorem l03AfterQ_any (m : Int) (d : Nat) (A : Option Addr) (c : Nat) (l : List Int) (A' : Option Addr) (c' : Nat) (t : List (List Int)) (w : World) (hn : l.length ≤ d + 1) (hred : Ser.Red m l) (hs' : Pl.Ok m d t) (hr : RI w A l) (hr' : RP w A' t) :
    Calls Try.prog 28 #[.int .i64 m, .slice A l.length c, .slice A' t.length c'] w fun e w' => ∃ v, e = .returned v ∧ OwnR w' w.heap.size w'.heap.size v (Pl.horq m d l (Pl.pc t) l.length) ∧ Below w.heap.size w w' := by
  have HR := Lib.hid hr
  have HR' := Lib.hid hr'
  have HRED := Lib.hid hred
  have HS' := Lib.hid hs'
  have hd2 := hs'.d2
  have m1 := hs'.m1
  have m2 := hs'.m2
  have hm0 : ¬ m = 0 := by omega
  have HZ := Lib.hid (l03Zero_any m d w (by omega))
  have HT := Lib.hid (fun (k : Nat) (A1 : Option Addr) (c1 : Nat) (W0 : World) (h : RP W0 A1 (Pl.horq m d l (Pl.pc t) k)) (h' : RP W0 A' t) => by
    have := l03Times_any m d A1 c1 (Pl.horq m d l (Pl.pc t) k) A' c' t W0 (Pl.horq_ok m1 m2 hs'.d1 hd2 l _ k) hs' h h'
    rw [Pl.horq_length] at this
    exact this)
  have hst0 := fun k => Pl.horq_step (m := m) (d := d) l (Pl.pc t) k
  obtain ⟨L, hL⟩ : ∃ L, l.length = L := ⟨_, rfl⟩
  rw [hL] at hst0 hn
  have HST0 := Lib.hid hst0
  obtain ⟨L', hL'⟩ : ∃ L, t.length = L := ⟨_, rfl⟩
  have hLd' : (L' : Int) - 1 = (d : Int) := by have := hs'.len; omega
  have hLb : L ≤ 11 := by omega
  rw [hL'] at HT
  rw [hL, hL']
  have HL := Lib.hid hL
  clear hr hr' hs' hL hL' hred hst0
  go_enter Try.func28, Try.ntmps28
  go_wp2_with fail
  refine HZ.out.mono ?_
  rintro e w1 ⟨v, rfl, ho, hb⟩
  obtain ⟨A0, c0, rfl, -⟩ := ho.len
  rw [Pl.tab_length] at ho ⊢
  have HO1 := Lib.hid (show OwnR w1 w.heap.size w1.heap.size (.slice A0 (d + 1) c0) (Pl.horq m d l (Pl.pc t) 0) from ho)
  have HB1 := Lib.hid hb
  clear ho hb
  go_wp2
  go_loopw [7, 8] (fun s7 s8 wr => ∃ (k t0 : Nat) (I : Int) (A1 : Option Addr) (c1 : Nat), k + t0 = L ∧ I = (t0 : Int) - 1 ∧ s8 = .int .i64 I ∧ s7 = .slice A1 (d + 1) c1 ∧ OwnR wr w.heap.size wr.heap.size (.slice A1 (d + 1) c1) (Pl.horq m d l (Pl.pc t) k) ∧ Below w.heap.size w wr) (fun _ s8 _ => (intOf s8 + 1).toNat)
  case atStart => exact ⟨0, L, _, A0, c0, by omega, rfl, by first | rfl | go_num, rfl, HO1.out, HB1.out⟩
  case round =>
    clear HO1 HB1
    obtain ⟨k, t0, I, A1, c1, hkt, hI, rfl, rfl, hown, hbel⟩ := hrel
    have HB := Lib.hid hbel
    have HO := Lib.hid hown
    clear hown hbel
    rcases t0 with _ | i
    · obtain rfl : k = L := by omega
      obtain rfl : I = -1 := by omega
      clear hI hkt
      go_wp2
      go_ret
      exact ⟨_, rfl, HO.out, HB.out⟩
    · obtain rfl : I = (i : Int) := by omega
      have hik : L - 1 - k = i := by omega
      have hiL : i < L := by omega
      have HTK := Lib.hid (HT.out k A1 c1 wr (by obtain ⟨_, _, e, h⟩ := HO.out.len; injection e with e1 e2 e3; subst e1; exact h) (HR'.out.below HB.out))
      have hst := HST0.out k
      rw [hik] at hst
      obtain ⟨F, hF⟩ : ∃ F, Pl.mul2 (Pl.pc (Pl.horq m d l (Pl.pc t) k)) (Pl.pc t) = F := ⟨_, rfl⟩
      rw [hF] at HTK hst
      have HST := Lib.hid hst
      have HKT := Lib.hid hkt
      clear hI hst hF hik hkt
      go_wp2_with fail
      refine HTK.out.mono ?_
      rintro e w3 ⟨v3, rfl, ho3, hb3⟩
      obtain ⟨g, cv, rfl⟩ := ho3.openv (by rw [Pl.tab_length]; omega)
      rw [Pl.tab_length] at ho3 ⊢
      obtain ⟨b4, c4, h1, h2, h3, h4, hcel⟩ := ho3.numB 0 0 (d + 1) (by rw [Pl.tab_length]; omega) (by rw [Pl.tab_row m d _ 0 (by omega), Ser.cut_length]; omega) (by omega)
      obtain ⟨a4, -, -, -⟩ := hcel w3 (Below.refl _ _)
      obtain ⟨k4, k5, k6, k7⟩ := hcel w3.drew (below_drew0 w3)
      obtain ⟨b', off', rfl, hbb', hci⟩ := HR.out.at i (by have := HL.out; omega)
      have hc := ((below_step HB.out hb3).cell (p := ⟨b', off' + i, none⟩) hbb').trans hci
      have hst := HST.out
      obtain ⟨Z, hZ⟩ : ∃ Z, Ser.co l i = Z := ⟨_, rfl⟩
      have hzb := HRED.out i
      have hyb := (HS'.out.tab F).pc 0 0
      obtain ⟨Y, hY⟩ : ∃ Y, Pl.pc (Pl.tab m d F) 0 0 = Y := ⟨_, rfl⟩
      rw [hZ] at hc hst hzb
      rw [hY] at hst hyb k5
      have h8 := k7 ((Y + Z) % m)
      rw [hst] at h8
      have hwr := HB.out.size
      have HO2 := Lib.hid ((h8.low hwr).more (show w3.heap.size ≤ (w3.drew.setCell ⟨b4, 0, none⟩ (.int .i64 ((Y + Z) % m))).heap.size by show w3.heap.size ≤ (w3.heap.modify _ _).size; simp))
      have HB2 := Lib.hid ((below_step HB.out hb3).drew.setCell (p := ⟨b4, 0, none⟩) (Nat.le_trans hwr h2) (.int .i64 ((Y + Z) % m)))
      have p2 : IntKind.i64.wrap (Y + Z) = Y + Z := by rw [IntKind.wrap_i64]; omega
      have p3 : 0 ≤ Y + Z := by omega
      have p4 : (0 : Int) < (d : Int) + 1 := by omega
      have p5 : (0 : Int) ≤ (i : Int) := by omega
      have p6 : (i : Int) < (L : Int) := by omega
      clear hiL
      clear hcel k4 k7 h8 hst hzb hyb hZ hY hbb' hci ho3 hb3 h1 h2 h3 h4 hwr
      go_wp2
      go_still_tail 12, (by kernel_rfl)
      change wpList _ _ _ _ _ w3.drew
      go_wp2
      go_roundw
      case rel => exact ⟨k + 1, i, _, _, cv, by have := HKT.out; omega, rfl, by first | rfl | go_num, rfl, HO2.out, HB2.out⟩
      case measure => simp only [intOf]; omega
end Go.Proofs.Ytlpfifdocgljnaa

