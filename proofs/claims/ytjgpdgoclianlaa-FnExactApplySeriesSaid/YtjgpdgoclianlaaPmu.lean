/- Contracts of MultiplyPlanes, of the program and of the model. -/
import Derived.Test.YtjgpdgoclianlaaGmu
import Derived.Test.YtjgpdgoclianlaaPtu
import Derived.StillTailTactics
namespace Go.Proofs.Ytjgpdgoclianlaa
open Go.RowKit Go.WideShapes Go.ChangeShapes Go.ChangeAt

set_option maxHeartbeats 16000000 in
set_option maxRecDepth 100000 in
theorem l03Times_any (m : Int) (d : Nat) (A : Option Addr) (c : Nat) (t : List (List Int)) (A' : Option Addr) (c' : Nat) (t' : List (List Int)) (w : World) (hs : Pl.Ok m d t) (hs' : Pl.Ok m d t') (hr : RP w A t) (hr' : RP w A' t') :
    Calls Try.prog 71 #[.int .i64 m, .slice A t.length c, .slice A' t'.length c'] w fun e w' => ∃ v, e = .returned v ∧ OwnR w' w.heap.size w'.heap.size v (Pl.tab m d (Pl.mul2 (Pl.pc t) (Pl.pc t'))) ∧ Below w.heap.size w w' := by
  have HR := Lib.hid hr
  have HR' := Lib.hid hr'
  have HS := Lib.hid hs
  have HS' := Lib.hid hs'
  have hd2 := hs.d2
  have m1 := hs.m1
  have m2 := hs.m2
  have hm0 : ¬ m = 0 := by omega
  have HZ := Lib.hid (l03Zero_any m d w (by omega))
  obtain ⟨L, hL⟩ : ∃ L, t.length = L := ⟨_, rfl⟩
  obtain ⟨L', hL'⟩ : ∃ L, t'.length = L := ⟨_, rfl⟩
  have HL := Lib.hid (hL.symm.trans hs.len)
  have HL' := Lib.hid (hL'.symm.trans hs'.len)
  have hLd : (L : Int) - 1 = (d : Int) := by have := hs.len; omega
  have hLb : L ≤ 11 := by have := hs.len; omega
  rw [hL, hL']
  clear hr hr' hs hs' hL hL'
  go_enter Try.func71, Try.ntmps71
  go_wp2_with fail
  refine HZ.out.mono ?_
  rintro e w1 ⟨v, rfl, ho, hb⟩
  rw [← Pl.S2_tab_zero m d (Pl.pc t) (Pl.pc t')] at ho
  obtain ⟨g, cv, rfl⟩ := ho.openv (by rw [Pl.tab_length]; omega)
  rw [Pl.tab_length] at ho ⊢
  have HO1 := Lib.hid ho
  have HB1 := Lib.hid hb
  clear ho hb
  go_wp2
  go_loopw [9] (fun i wr => ∃ i0 : Nat, i0 ≤ L ∧ i = .int .i64 i0 ∧ OwnR wr w.heap.size wr.heap.size (.slice (some ⟨g, 0, none⟩) (d + 1) cv) (Pl.tab m d (Pl.S2 d (Pl.pc t) (Pl.pc t') i0 0)) ∧ Below w.heap.size w wr) (fun i _ => L - (intOf i).toNat)
  case atStart => exact ⟨0, Nat.zero_le _, rfl, HO1.out, HB1.out⟩
  case round =>
    clear HO1 HB1
    obtain ⟨i, hi, rfl, hown, hbel⟩ := hrel
    have HB := Lib.hid hbel
    have HO := Lib.hid hown
    clear hown hbel
    by_cases hlt : i < L
    · have i1 : (i : Int) < (L : Int) := by omega
      go_wp2
      go_loopw [10] (fun j wr => ∃ j0 : Nat, i + j0 ≤ L ∧ j = .int .i64 j0 ∧ OwnR wr w.heap.size wr.heap.size (.slice (some ⟨g, 0, none⟩) (d + 1) cv) (Pl.tab m d (Pl.S2 d (Pl.pc t) (Pl.pc t') i j0)) ∧ Below w.heap.size w wr) (fun j _ => L - (intOf j).toNat)
      case atStart => exact ⟨0, by omega, rfl, HO.out, HB.out⟩
      case round =>
        clear HO HB
        obtain ⟨j, hj, rfl, hown, hbel⟩ := hrel
        have HB := Lib.hid hbel
        have HO := Lib.hid hown
        have hLd' := HL.out
        by_cases hjt : i + j < L
        · obtain ⟨ba, offa, bi, offi, ci, rfl, hba, ka1, hbi, ka2⟩ := HR.out.num i j (by rw [HS.out.len]; omega) (by rw [HS.out.row i (by omega)]; omega)
          rw [HS.out.row i (by omega)] at ka1
          obtain ⟨N, hN⟩ : ∃ N, d - i + 1 = N := ⟨_, rfl⟩
          rw [hN] at ka1
          have r1 := HS.out.pc i j
          have hskip := Pl.S2_skip m d (Pl.pc t) (Pl.pc t') i j
          obtain ⟨X, hX⟩ : ∃ X, Pl.pc t i j = X := ⟨_, rfl⟩
          have HX := Lib.hid hX
          rw [hX] at ka2 r1 hskip
          have KA1 := Lib.hid ka1
          have KA2 := Lib.hid ka2
          have a1 := (hbel.cell (p := ⟨ba, offa + i, none⟩) hba).trans ka1
          have a2 := (hbel.cell (p := ⟨bi, offi + j, none⟩) hbi).trans ka2
          obtain ⟨r1, r2⟩ := r1
          have j0 : (0 : Int) ≤ (i : Int) := by omega
          have j1 : (0 : Int) ≤ (j : Int) := by omega
          have j2 : (i : Int) + (j : Int) < (L : Int) := by omega
          have j3 : (j : Int) < (N : Int) := by omega
          clear hX ka1 ka2 hown hbel hN hLd'
          by_cases hX0 : X = 0
          · have HSK := Lib.hid (hskip hX0)
            subst hX0
            clear hskip
            go_wp2
            go_roundw
            case rel => exact ⟨j + 1, by omega, by go_num, by rw [← HSK.out]; exact HO.out, HB.out⟩
            case measure => simp only [intOf]; omega
          · obtain ⟨n1, n2⟩ := ne_facts hX0
            clear hskip
            have ho := HO.out
            rw [← Pl.T2_tab_zero] at ho
            have HO2 := Lib.hid ho
            clear ho HO
            go_wp2
            go_loopw [11] (fun k wr => ∃ k0 : Nat, i + j + k0 ≤ L ∧ k = .int .i64 k0 ∧ OwnR wr w.heap.size wr.heap.size (.slice (some ⟨g, 0, none⟩) (d + 1) cv) (Pl.tab m d (Pl.T2 d (Pl.pc t) (Pl.pc t') i j k0 0)) ∧ Below w.heap.size w wr) (fun k _ => L - (intOf k).toNat)
            case atStart => exact ⟨0, by omega, rfl, HO2.out, HB.out⟩
            case round =>
              clear HO2 HB a1 a2
              obtain ⟨k, hk, rfl, hown, hbel⟩ := hrel
              have HB := Lib.hid hbel
              have HO := Lib.hid hown
              have hLd' := HL.out
              by_cases hkt : i + j + k < L
              · obtain ⟨bb, offb, A2, ck, rfl, hbb, kb1, -, hri⟩ := HR'.out.at k (by rw [HS'.out.len]; omega)
                obtain ⟨bk, offk, rfl, -⟩ := hri.at 0 (by rw [HS'.out.row k (by omega)]; omega)
                have HRI := Lib.hid hri
                rw [HS'.out.row k (by omega)] at kb1
                obtain ⟨M, hM⟩ : ∃ M, d - k + 1 = M := ⟨_, rfl⟩
                rw [hM] at kb1
                have b1 := (hbel.cell (p := ⟨bb, offb + k, none⟩) hbb).trans kb1
                obtain ⟨br, cr, g1, g2, g3, g4, hcel⟩ := HO.out.numB (i + k) j (d - (i + k) + 1) (by rw [Pl.tab_length]; omega) (by rw [Pl.tab_row m d _ (i + k) (by omega), Ser.cut_length]) (by omega)
                obtain ⟨c4, -⟩ := hcel wr (Below.refl _ _)
                obtain ⟨Q, hQ⟩ : ∃ Q, d - (i + k) + 1 = Q := ⟨_, rfl⟩
                rw [hQ] at c4
                obtain ⟨s, hsik⟩ : ∃ s, i + k = s := ⟨_, rfl⟩
                rw [hsik] at c4
                have q1 : (i : Int) + (k : Int) = (s : Int) := by omega
                have q2 : (s : Int) < (d : Int) + 1 := by omega
                have q3 : (0 : Int) ≤ (s : Int) := by omega
                have q4 : (0 : Int) ≤ (k : Int) := by omega
                have q5 : (k : Int) < (L' : Int) := by have := HL'.out; omega
                have q6 : (i : Int) + (j : Int) + (k : Int) < (L : Int) := by omega
                have HQ := Lib.hid hQ
                have HMM := Lib.hid hM
                have HIK := Lib.hid hsik
                clear hown hbel hcel hQ hM hsik kb1 hLd' hri
                go_wp2
                go_quiet (fail)
                go_wp2
                go_loopw [14] (fun l wr => ∃ l0 : Nat, i + j + k + l0 ≤ L ∧ l = .int .i64 l0 ∧ OwnR wr w.heap.size wr.heap.size (.slice (some ⟨g, 0, none⟩) (d + 1) cv) (Pl.tab m d (Pl.T2 d (Pl.pc t) (Pl.pc t') i j k l0)) ∧ wr.cell? ⟨g, s, none⟩ = some (.slice (some ⟨br, 0, none⟩) Q cr) ∧ Below w.heap.size w wr) (fun l _ => L - (intOf l).toNat)
                case atStart => exact ⟨0, by omega, rfl, HO.out.keep (below_drewN (Below.refl _ _) _), c4, below_drewN HB.out _⟩
                case round =>
                  clear HO HB c4 b1
                  obtain ⟨l, hl, rfl, hown, hc4, hbel⟩ := hrel
                  have HB := Lib.hid hbel
                  have HO := Lib.hid hown
                  have HC4 := Lib.hid hc4
                  have hLd' := HL.out
                  by_cases hlt4 : i + j + k + l < L
                  · obtain ⟨b3, o3, e3, hb3, kc⟩ := HRI.out.at l (by rw [HS'.out.row k (by omega)]; omega)
                    injection e3 with e3
                    injection e3 with e3a e3b
                    subst e3a e3b
                    have a1 := (hbel.cell (p := ⟨ba, offa + i, none⟩) hba).trans KA1.out
                    have a2 := (hbel.cell (p := ⟨bi, offi + j, none⟩) hbi).trans KA2.out
                    have b2 := (hbel.cell (p := ⟨bk, offk + l, none⟩) hb3).trans kc
                    change wr.cell? _ = some (.int .i64 (Pl.pc t' k l)) at b2
                    obtain ⟨b4, c3, h1, h2, h3, h4, hcel⟩ := HO.out.numB (i + k) (j + l) (d - (i + k) + 1) (by rw [Pl.tab_length]; omega) (by rw [Pl.tab_row m d _ (i + k) (by omega), Ser.cut_length]) (by omega)
                    obtain ⟨c4, c5, c6, c7⟩ := hcel wr.drew (below_drew0 wr)
                    have hst := Pl.T2_step m d (Pl.pc t) (Pl.pc t') i j k l (by omega)
                    have hzb := (HS.out.tab (Pl.T2 d (Pl.pc t) (Pl.pc t') i j k l)).pc (i + k) (j + l)
                    have hyb := HS'.out.pc k l
                    obtain ⟨u, hu⟩ : ∃ u, j + l = u := ⟨_, rfl⟩
                    rw [HQ.out, HIK.out] at c4
                    rw [HIK.out] at hst hzb c5 c7
                    rw [hu] at hst hzb c5 c6 c7
                    obtain ⟨Z, hZ⟩ : ∃ Z, Pl.pc (Pl.tab m d (Pl.T2 d (Pl.pc t) (Pl.pc t') i j k l)) s u = Z := ⟨_, rfl⟩
                    obtain ⟨Y, hY⟩ : ∃ Y, Pl.pc t' k l = Y := ⟨_, rfl⟩
                    rw [hZ] at hst hzb c5
                    rw [hY] at hst hyb b2
                    rw [HX.out] at hst
                    have e4 : some (Value.slice (some ⟨br, 0, none⟩) Q cr) = some (Value.slice (some ⟨b4, 0, none⟩) Q c3) := hc4.symm.trans c4
                    injection e4 with e4
                    injection e4 with e4a e4b e4c
                    injection e4a with e4a
                    injection e4a with e4a
                    subst e4a e4c
                    have h8 := c7 ((Z + X * Y) % m)
                    rw [hst] at h8
                    have hpr := Pl.prod_bd r1 (by omega) hyb.1 (by omega)
                    have HO2 := Lib.hid (h8.more (show wr.heap.size ≤ (wr.drew.setCell ⟨br, u, none⟩ (.int .i64 ((Z + X * Y) % m))).heap.size by show wr.heap.size ≤ (wr.heap.modify _ _).size; simp))
                    have HB2 := Lib.hid (hbel.drew.setCell (p := ⟨br, u, none⟩) g2 (.int .i64 ((Z + X * Y) % m)))
                    have HC5 : Hid ((wr.drew.setCell ⟨br, u, none⟩ (.int .i64 ((Z + X * Y) % m))).cell? ⟨g, s, none⟩ = some (.slice (some ⟨br, 0, none⟩) Q cr)) :=
                      Lib.hid ((World.cell?_of_block (w := wr.drew) (Below.heap_setCell wr.drew ⟨br, u, none⟩ _ g (fun e => g4 e.symm))).trans hc4)
                    have p1 : IntKind.i64.wrap (X * Y) = X * Y := by rw [IntKind.wrap_i64]; omega
                    have p2 : IntKind.i64.wrap (Z + X * Y) = Z + X * Y := by rw [IntKind.wrap_i64]; omega
                    have p3 : 0 ≤ Z + X * Y := by omega
                    have p5 : (0 : Int) ≤ (j : Int) + (l : Int) := by omega
                    have p6 : (j : Int) + (l : Int) < (Q : Int) := by have := HQ.out; have := HIK.out; omega
                    have p7 : (0 : Int) ≤ (l : Int) := by omega
                    have p8 : (l : Int) < (M : Int) := by have := HMM.out; omega
                    have p9 : (i : Int) + (j : Int) + (k : Int) + (l : Int) < (L : Int) := by omega
                    have p10 : IntKind.i64.wrap ((j : Int) + (l : Int)) = (j : Int) + (l : Int) := by rw [IntKind.wrap_i64]; omega
                    have p11 : ((j : Int) + (l : Int)).toNat = u := by omega
                    clear hcel c4 c7 h8 hst hzb hyb hZ hY hown hbel hc4 hLd' kc hpr hu e4b h1 h2 h3 h4
                    go_wp2
                    go_still_tail 26, (by kernel_rfl)
                    change wpList _ _ _ _ _ wr.drew
                    go_wp2
                    go_roundw
                    case rel => exact ⟨l + 1, by omega, by go_num, HO2.out, HC5.out, HB2.out⟩
                    case measure => simp only [intOf]; omega
                  · have hlL : i + j + k + l = L := by omega
                    have ho := HO.out
                    rw [Pl.T2_rowend m d _ _ i j k l (by omega)] at ho
                    have HO2 := Lib.hid ho
                    have p9 : ¬ ((i : Int) + (j : Int) + (k : Int) + (l : Int) < (L : Int)) := by omega
                    clear hown hbel hc4 hLd' ho hlL
                    go_wp2
                    go_roundw
                    case rel => exact ⟨k + 1, by omega, by go_num, HO2.out, HB.out⟩
                    case measure => simp only [intOf]; omega
              · have hkL : i + j + k = L := by omega
                have ho := HO.out
                rw [Pl.T2_end m d _ _ i j k (by omega)] at ho
                have HO2 := Lib.hid ho
                have p9 : ¬ ((i : Int) + (j : Int) + (k : Int) < (L : Int)) := by omega
                clear hown hbel hLd' ho hkL
                go_wp2
                go_roundw
                case rel => exact ⟨j + 1, by omega, by go_num, HO2.out, HB.out⟩
                case measure => simp only [intOf]; omega
        · have hjL : i + j = d + 1 := by omega
          have ho := HO.out
          rw [Pl.S2_next m d _ _ i j hjL] at ho
          have HO2 := Lib.hid ho
          have p9 : ¬ ((i : Int) + (j : Int) < (L : Int)) := by omega
          clear hown hbel hLd' ho hjL
          go_wp2
          go_roundw
          case rel => exact ⟨i + 1, by omega, by go_num, HO2.out, HB.out⟩
          case measure => simp only [intOf]; omega
    · obtain rfl : i = d + 1 := by have := HL.out; omega
      have ho := HO.out
      rw [Pl.S2_last] at ho
      have HF := Lib.hid ho
      clear ho
      go_wp2
      go_ret
      exact ⟨_, rfl, HF.out, HB.out⟩
end Go.Proofs.Ytjgpdgoclianlaa
