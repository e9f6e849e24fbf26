/- Texts of contracts, joined. -/
import Derived.Test.YtfhdgcndiljjcabMgac
import Derived.StillTailTactics
import Derived.Test.YtfhdgcndiljjcabMgaa
import Derived.Laws.CopyOwn
/- Contracts of MultiplyPlanes, of the program and of the model. -/
namespace Go.Proofs.Ytfhdgcndiljjcab
open Go.RowKit Go.WideShapes Go.ChangeShapes Go.ChangeAt

set_option maxHeartbeats 16000000 in
set_option maxRecDepth 100000 in
theorem l03Times_any (m : Int) (d : Nat) (A : Option Addr) (c : Nat) (t : List (List Int)) (A' : Option Addr) (c' : Nat) (t' : List (List Int)) (w : World) (hs : Pl.Ok m d t) (hs' : Pl.Ok m d t') (hr : RP w A t) (hr' : RP w A' t') :
    Calls Try.prog 68 #[.int .i64 m, .slice A t.length c, .slice A' t'.length c'] w fun e w' => ∃ v, e = .returned v ∧ OwnR w' w.heap.size w'.heap.size v (Pl.tab m d (Pl.mul2 (Pl.pc t) (Pl.pc t'))) ∧ Below w.heap.size w w' := by
  have HR := Lib.hid hr
  have HR' := Lib.hid hr'
  have HS := Lib.hid hs
  have HS' := Lib.hid hs'
  have hd2 := hs.d2
  have m1 := hs.m1
  have m2 := hs.m2
  have hm0 : ¬ m = 0 := by omega
  have HZ := Lib.hid (l03Zero_any m d w (by omega))
  obtain ⟨L, hL⟩ : ∃ L, t.length = L := ⟨_, rfl⟩
  obtain ⟨L', hL'⟩ : ∃ L, t'.length = L := ⟨_, rfl⟩
  have HL := Lib.hid (hL.symm.trans hs.len)
  have HL' := Lib.hid (hL'.symm.trans hs'.len)
  have hLd : (L : Int) - 1 = (d : Int) := by have := hs.len; omega
  have hLb : L ≤ 11 := by have := hs.len; omega
  rw [hL, hL']
  clear hr hr' hs hs' hL hL'
  go_enter Try.func68, Try.ntmps68
  go_wp2_with fail
  refine HZ.out.mono ?_
  rintro e w1 ⟨v, rfl, ho, hb⟩
  rw [← Pl.S2_tab_zero m d (Pl.pc t) (Pl.pc t')] at ho
  obtain ⟨g, cv, rfl⟩ := ho.openv (by rw [Pl.tab_length]; omega)
  rw [Pl.tab_length] at ho ⊢
  have HO1 := Lib.hid ho
  have HB1 := Lib.hid hb
  clear ho hb
  go_wp2
  go_loopw [9] (fun i wr => ∃ i0 : Nat, i0 ≤ L ∧ i = .int .i64 i0 ∧ OwnR wr w.heap.size wr.heap.size (.slice (some ⟨g, 0, none⟩) (d + 1) cv) (Pl.tab m d (Pl.S2 d (Pl.pc t) (Pl.pc t') i0 0)) ∧ Below w.heap.size w wr) (fun i _ => L - (intOf i).toNat)
  case atStart => exact ⟨0, Nat.zero_le _, rfl, HO1.out, HB1.out⟩
  case round =>
    clear HO1 HB1
    obtain ⟨i, hi, rfl, hown, hbel⟩ := hrel
    have HB := Lib.hid hbel
    have HO := Lib.hid hown
    clear hown hbel
    by_cases hlt : i < L
    · have i1 : (i : Int) < (L : Int) := by omega
      go_wp2
      go_loopw [10] (fun j wr => ∃ j0 : Nat, i + j0 ≤ L ∧ j = .int .i64 j0 ∧ OwnR wr w.heap.size wr.heap.size (.slice (some ⟨g, 0, none⟩) (d + 1) cv) (Pl.tab m d (Pl.S2 d (Pl.pc t) (Pl.pc t') i j0)) ∧ Below w.heap.size w wr) (fun j _ => L - (intOf j).toNat)
      case atStart => exact ⟨0, by omega, rfl, HO.out, HB.out⟩
      case round =>
        clear HO HB
        obtain ⟨j, hj, rfl, hown, hbel⟩ := hrel
        have HB := Lib.hid hbel
        have HO := Lib.hid hown
        have hLd' := HL.out
        by_cases hjt : i + j < L
        · obtain ⟨ba, offa, bi, offi, ci, rfl, hba, ka1, hbi, ka2⟩ := HR.out.num i j (by rw [HS.out.len]; omega) (by rw [HS.out.row i (by omega)]; omega)
          rw [HS.out.row i (by omega)] at ka1
          obtain ⟨N, hN⟩ : ∃ N, d - i + 1 = N := ⟨_, rfl⟩
          rw [hN] at ka1
          have r1 := HS.out.pc i j
          have hskip := Pl.S2_skip m d (Pl.pc t) (Pl.pc t') i j
          obtain ⟨X, hX⟩ : ∃ X, Pl.pc t i j = X := ⟨_, rfl⟩
          have HX := Lib.hid hX
          rw [hX] at ka2 r1 hskip
          have KA1 := Lib.hid ka1
          have KA2 := Lib.hid ka2
          have a1 := (hbel.cell (p := ⟨ba, offa + i, none⟩) hba).trans ka1
          have a2 := (hbel.cell (p := ⟨bi, offi + j, none⟩) hbi).trans ka2
          obtain ⟨r1, r2⟩ := r1
          have j0 : (0 : Int) ≤ (i : Int) := by omega
          have j1 : (0 : Int) ≤ (j : Int) := by omega
          have j2 : (i : Int) + (j : Int) < (L : Int) := by omega
          have j3 : (j : Int) < (N : Int) := by omega
          clear hX ka1 ka2 hown hbel hN hLd'
          by_cases hX0 : X = 0
          · have HSK := Lib.hid (hskip hX0)
            subst hX0
            clear hskip
            go_wp2
            go_roundw
            case rel => exact ⟨j + 1, by omega, by go_num, by rw [← HSK.out]; exact HO.out, HB.out⟩
            case measure => simp only [intOf]; omega
          · obtain ⟨n1, n2⟩ := ne_facts hX0
            clear hskip
            have ho := HO.out
            rw [← Pl.T2_tab_zero] at ho
            have HO2 := Lib.hid ho
            clear ho HO
            go_wp2
            go_loopw [11] (fun k wr => ∃ k0 : Nat, i + j + k0 ≤ L ∧ k = .int .i64 k0 ∧ OwnR wr w.heap.size wr.heap.size (.slice (some ⟨g, 0, none⟩) (d + 1) cv) (Pl.tab m d (Pl.T2 d (Pl.pc t) (Pl.pc t') i j k0 0)) ∧ Below w.heap.size w wr) (fun k _ => L - (intOf k).toNat)
            case atStart => exact ⟨0, by omega, rfl, HO2.out, HB.out⟩
            case round =>
              clear HO2 HB a1 a2
              obtain ⟨k, hk, rfl, hown, hbel⟩ := hrel
              have HB := Lib.hid hbel
              have HO := Lib.hid hown
              have hLd' := HL.out
              by_cases hkt : i + j + k < L
              · obtain ⟨bb, offb, A2, ck, rfl, hbb, kb1, -, hri⟩ := HR'.out.at k (by rw [HS'.out.len]; omega)
                obtain ⟨bk, offk, rfl, -⟩ := hri.at 0 (by rw [HS'.out.row k (by omega)]; omega)
                have HRI := Lib.hid hri
                rw [HS'.out.row k (by omega)] at kb1
                obtain ⟨M, hM⟩ : ∃ M, d - k + 1 = M := ⟨_, rfl⟩
                rw [hM] at kb1
                have b1 := (hbel.cell (p := ⟨bb, offb + k, none⟩) hbb).trans kb1
                obtain ⟨br, cr, g1, g2, g3, g4, hcel⟩ := HO.out.numB (i + k) j (d - (i + k) + 1) (by rw [Pl.tab_length]; omega) (by rw [Pl.tab_row m d _ (i + k) (by omega), Ser.cut_length]) (by omega)
                obtain ⟨c4, -⟩ := hcel wr (Below.refl _ _)
                obtain ⟨Q, hQ⟩ : ∃ Q, d - (i + k) + 1 = Q := ⟨_, rfl⟩
                rw [hQ] at c4
                obtain ⟨s, hsik⟩ : ∃ s, i + k = s := ⟨_, rfl⟩
                rw [hsik] at c4
                have q1 : (i : Int) + (k : Int) = (s : Int) := by omega
                have q2 : (s : Int) < (d : Int) + 1 := by omega
                have q3 : (0 : Int) ≤ (s : Int) := by omega
                have q4 : (0 : Int) ≤ (k : Int) := by omega
                have q5 : (k : Int) < (L' : Int) := by have := HL'.out; omega
                have q6 : (i : Int) + (j : Int) + (k : Int) < (L : Int) := by omega
                have HQ := Lib.hid hQ
                have HMM := Lib.hid hM
                have HIK := Lib.hid hsik
                clear hown hbel hcel hQ hM hsik kb1 hLd' hri
                go_wp2
                go_quiet (fail)
                go_wp2
                go_loopw [14] (fun l wr => ∃ l0 : Nat, i + j + k + l0 ≤ L ∧ l = .int .i64 l0 ∧ OwnR wr w.heap.size wr.heap.size (.slice (some ⟨g, 0, none⟩) (d + 1) cv) (Pl.tab m d (Pl.T2 d (Pl.pc t) (Pl.pc t') i j k l0)) ∧ wr.cell? ⟨g, s, none⟩ = some (.slice (some ⟨br, 0, none⟩) Q cr) ∧ Below w.heap.size w wr) (fun l _ => L - (intOf l).toNat)
                case atStart => exact ⟨0, by omega, rfl, HO.out.keep (below_drewN (Below.refl _ _) _), c4, below_drewN HB.out _⟩
                case round =>
                  clear HO HB c4 b1
                  obtain ⟨l, hl, rfl, hown, hc4, hbel⟩ := hrel
                  have HB := Lib.hid hbel
                  have HO := Lib.hid hown
                  have HC4 := Lib.hid hc4
                  have hLd' := HL.out
                  by_cases hlt4 : i + j + k + l < L
                  · obtain ⟨b3, o3, e3, hb3, kc⟩ := HRI.out.at l (by rw [HS'.out.row k (by omega)]; omega)
                    injection e3 with e3
                    injection e3 with e3a e3b
                    subst e3a e3b
                    have a1 := (hbel.cell (p := ⟨ba, offa + i, none⟩) hba).trans KA1.out
                    have a2 := (hbel.cell (p := ⟨bi, offi + j, none⟩) hbi).trans KA2.out
                    have b2 := (hbel.cell (p := ⟨bk, offk + l, none⟩) hb3).trans kc
                    change wr.cell? _ = some (.int .i64 (Pl.pc t' k l)) at b2
                    obtain ⟨b4, c3, h1, h2, h3, h4, hcel⟩ := HO.out.numB (i + k) (j + l) (d - (i + k) + 1) (by rw [Pl.tab_length]; omega) (by rw [Pl.tab_row m d _ (i + k) (by omega), Ser.cut_length]) (by omega)
                    obtain ⟨c4, c5, c6, c7⟩ := hcel wr.drew (below_drew0 wr)
                    have hst := Pl.T2_step m d (Pl.pc t) (Pl.pc t') i j k l (by omega)
                    have hzb := (HS.out.tab (Pl.T2 d (Pl.pc t) (Pl.pc t') i j k l)).pc (i + k) (j + l)
                    have hyb := HS'.out.pc k l
                    obtain ⟨u, hu⟩ : ∃ u, j + l = u := ⟨_, rfl⟩
                    rw [HQ.out, HIK.out] at c4
                    rw [HIK.out] at hst hzb c5 c7
                    rw [hu] at hst hzb c5 c6 c7
                    obtain ⟨Z, hZ⟩ : ∃ Z, Pl.pc (Pl.tab m d (Pl.T2 d (Pl.pc t) (Pl.pc t') i j k l)) s u = Z := ⟨_, rfl⟩
                    obtain ⟨Y, hY⟩ : ∃ Y, Pl.pc t' k l = Y := ⟨_, rfl⟩
                    rw [hZ] at hst hzb c5
                    rw [hY] at hst hyb b2
                    rw [HX.out] at hst
                    have e4 : some (Value.slice (some ⟨br, 0, none⟩) Q cr) = some (Value.slice (some ⟨b4, 0, none⟩) Q c3) := hc4.symm.trans c4
                    injection e4 with e4
                    injection e4 with e4a e4b e4c
                    injection e4a with e4a
                    injection e4a with e4a
                    subst e4a e4c
                    have h8 := c7 ((Z + X * Y) % m)
                    rw [hst] at h8
                    have hpr := Pl.prod_bd r1 (by omega) hyb.1 (by omega)
                    have HO2 := Lib.hid (h8.more (show wr.heap.size ≤ (wr.drew.setCell ⟨br, u, none⟩ (.int .i64 ((Z + X * Y) % m))).heap.size by show wr.heap.size ≤ (wr.heap.modify _ _).size; simp))
                    have HB2 := Lib.hid (hbel.drew.setCell (p := ⟨br, u, none⟩) g2 (.int .i64 ((Z + X * Y) % m)))
                    have HC5 : Hid ((wr.drew.setCell ⟨br, u, none⟩ (.int .i64 ((Z + X * Y) % m))).cell? ⟨g, s, none⟩ = some (.slice (some ⟨br, 0, none⟩) Q cr)) :=
                      Lib.hid ((World.cell?_of_block (w := wr.drew) (Below.heap_setCell wr.drew ⟨br, u, none⟩ _ g (fun e => g4 e.symm))).trans hc4)
                    have p1 : IntKind.i64.wrap (X * Y) = X * Y := by rw [IntKind.wrap_i64]; omega
                    have p2 : IntKind.i64.wrap (Z + X * Y) = Z + X * Y := by rw [IntKind.wrap_i64]; omega
                    have p3 : 0 ≤ Z + X * Y := by omega
                    have p5 : (0 : Int) ≤ (j : Int) + (l : Int) := by omega
                    have p6 : (j : Int) + (l : Int) < (Q : Int) := by have := HQ.out; have := HIK.out; omega
                    have p7 : (0 : Int) ≤ (l : Int) := by omega
                    have p8 : (l : Int) < (M : Int) := by have := HMM.out; omega
                    have p9 : (i : Int) + (j : Int) + (k : Int) + (l : Int) < (L : Int) := by omega
                    have p10 : IntKind.i64.wrap ((j : Int) + (l : Int)) = (j : Int) + (l : Int) := by rw [IntKind.wrap_i64]; omega
                    have p11 : ((j : Int) + (l : Int)).toNat = u := by omega
                    clear hcel c4 c7 h8 hst hzb hyb hZ hY hown hbel hc4 hLd' kc hpr hu e4b h1 h2 h3 h4
                    go_wp2
                    go_still_tail 26, (by kernel_rfl)
                    change wpList _ _ _ _ _ wr.drew
                    go_wp2
                    go_roundw
                    case rel => exact ⟨l + 1, by omega, by go_num, HO2.out, HC5.out, HB2.out⟩
                    case measure => simp only [intOf]; omega
                  · have hlL : i + j + k + l = L := by omega
                    have ho := HO.out
                    rw [Pl.T2_rowend m d _ _ i j k l (by omega)] at ho
                    have HO2 := Lib.hid ho
                    have p9 : ¬ ((i : Int) + (j : Int) + (k : Int) + (l : Int) < (L : Int)) := by omega
                    clear hown hbel hc4 hLd' ho hlL
                    go_wp2
                    go_roundw
                    case rel => exact ⟨k + 1, by omega, by go_num, HO2.out, HB.out⟩
                    case measure => simp only [intOf]; omega
              · have hkL : i + j + k = L := by omega
                have ho := HO.out
                rw [Pl.T2_end m d _ _ i j k (by omega)] at ho
                have HO2 := Lib.hid ho
                have p9 : ¬ ((i : Int) + (j : Int) + (k : Int) < (L : Int)) := by omega
                clear hown hbel hLd' ho hkL
                go_wp2
                go_roundw
                case rel => exact ⟨j + 1, by omega, by go_num, HO2.out, HB.out⟩
                case measure => simp only [intOf]; omega
        · have hjL : i + j = d + 1 := by omega
          have ho := HO.out
          rw [Pl.S2_next m d _ _ i j hjL] at ho
          have HO2 := Lib.hid ho
          have p9 : ¬ ((i : Int) + (j : Int) < (L : Int)) := by omega
          clear hown hbel hLd' ho hjL
          go_wp2
          go_roundw
          case rel => exact ⟨i + 1, by omega, by go_num, HO2.out, HB.out⟩
          case measure => simp only [intOf]; omega
    · obtain rfl : i = d + 1 := by have := HL.out; omega
      have ho := HO.out
      rw [Pl.S2_last] at ho
      have HF := Lib.hid ho
      clear ho
      go_wp2
      go_ret
      exact ⟨_, rfl, HF.out, HB.out⟩
end Go.Proofs.Ytfhdgcndiljjcab

/- Contracts of CutSeries, of the program and of the model. -/
namespace Go.Proofs.Ytfhdgcndiljjcab
open Go.RowKit Go.WideShapes Go.ChangeShapes Go.ChangeAt

def cutM (m : Int) (l : List Int) (k : Int) : Int × List Int × Int :=
  if isS m l = true then (if inB k 1 ((l.length : Int) - 1) = true then (m, l.take (k.toNat + 1), 0) else (0, [], 2)) else (0, [], 1)
theorem cutM_len (m : Int) (l : List Int) (k : Int) : (cutM m l k).2.1.length ≤ 1048576 := by
  unfold cutM
  split
  · rename_i h
    obtain ⟨d, e, s⟩ := serOk_of h
    have := s.d2
    split
    · dsimp only; rw [List.length_take]; omega
    · simp
  · simp
theorem RI.take {w : World} {A : Option Addr} {l : List Int} (h : RI w A l) (n : Nat) : RI w A (l.take n) := by
  intro hl
  have hl2 : l ≠ [] := by rintro rfl; simp at hl
  obtain ⟨b, off, e, hlt, hc⟩ := h hl2
  refine ⟨b, off, e, hlt, fun k hk => ?_⟩
  rw [List.length_take] at hk
  rw [hc k (by omega), List.getElem?_take_of_lt (by omega)]

theorem OwnI.cap {w : World} {base : Nat} {A : Option Addr} {n c : Nat} {l : List Int} (h : OwnI w base (.slice A n c) l) : l.length ≤ c := by
  unfold OwnI at h
  rcases h.2 with ⟨hv, h0⟩ | ⟨g, cap, cur, hv, _, _, h1, _⟩
  · omega
  · injection hv with _ _ e
    subst e
    exact h1
theorem RI.news {w : World} {A : Option Addr} {l : List Int} (h : RI w A l) (hl : l ≠ []) : ∃ b off, A = some ⟨b, off, none⟩ ∧ ∀ j u, (l.map (Value.int .i64))[j]? = some u → w.cell? ((⟨b, off, none⟩ : Addr).add j) = some u := by
  obtain ⟨b, off, e, hlt, hc⟩ := h hl
  refine ⟨b, off, e, fun j u hj => ?_⟩
  rw [List.getElem?_map] at hj
  by_cases hjl : j < l.length
  · rw [List.getElem?_eq_getElem hjl] at hj
    simp only [Option.map_some, Option.some.injEq] at hj
    subst hj
    rw [add_plain, hc j hjl, List.getElem?_eq_getElem hjl]; rfl
  · rw [List.getElem?_eq_none (by omega)] at hj
    simp at hj
theorem cells1 (l : List Int) : ∀ v ∈ l.map (Value.int .i64), v.oneCell' = true := by
  intro v hv
  obtain ⟨x, _, rfl⟩ := List.mem_map.1 hv
  rfl
theorem OwnI.empty' (w : World) : World.ownsRow (w.alloc (.cells #[] 2)) w.heap.size 2 1 (.slice (some ⟨w.heap.size, 0, none⟩) 0 0) 0 [] := OwnI.empty w
set_option maxHeartbeats 2000000 in
theorem l01Own_any (A : Option Addr) (c : Nat) (l : List Int) (w : World) (hne : l ≠ []) (hl : l.length ≤ 1000) (hr : RI w A l) :
    Calls Try.prog 49 #[.slice A l.length c] w fun e w' => ∃ v, e = .returned v ∧ OwnI w' w.heap.size v l ∧ Below w.heap.size w w' := by
  obtain ⟨Z, hZ⟩ : ∃ Z, l.map (Value.int .i64) = Z := ⟨_, rfl⟩
  have hZl : Z.length = l.length := by rw [← hZ, List.length_map]
  have hZ1 : ∀ v ∈ Z, v.oneCell' = true := by rw [← hZ]; exact cells1 l
  obtain ⟨b, off, rfl, hn⟩ := (hr.below (below_one w (.cells #[] 2))).news hne
  rw [hZ] at hn
  obtain ⟨i0, hi, hz0, hz1, hz2⟩ := info_parts info64
  have HZ := Lib.hid hZ
  have HZL := Lib.hid hZl
  have HN := Lib.hid hn
  have HO := Lib.hid (OwnI.empty' w)
  clear hZ hZl hn hr
  go_enter Try.func49, Try.ntmps49
  go_wp2_with (at_builtin; refine wpList_append_own _ (by rfl) _ _ _ (by rfl) w.heap.size 2 i0 (.int .i64 0) 1 8 Try.underlying22 hi hz0 hz1 hz2 rfl (by decide) _ 0 [] (by rfl) HO.out _ l.length _ Z (by rfl) (by rw [HZL.out]; omega) HN.out hZ1 (by unfold maxLen; omega) (by omega) (by simp) ?_; intro v' w2 h2 h3 _)
  have HF : Hid (OwnI w2 w.heap.size v' l) := by
    refine Lib.hid ?_
    unfold OwnI
    rw [HZ.out]
    simpa using h2
  have HB := Lib.hid ((below_one w (.cells #[] 2)).grown h3 (by simp) (fun k hk => by simp [Value.ownBlock] at hk; omega))
  clear h2 h3
  go_wp2
  go_ret
  exact ⟨_, rfl, HF.out, HB.out⟩

end Go.Proofs.Ytfhdgcndiljjcab

/- Plain number theory: no program in sight. Euclid with a factor; orders by the pigeonhole principle. -/
namespace Go.Proofs.Ytfhdgcndiljjcab
namespace Num

/-! Euclid's algorithm with a factor -/
def eg (g ng : Nat) (x nx : Int) : Nat × Int :=
  if _h : ng = 0 then (g, x) else eg ng (g % ng) nx (x - ((g / ng : Nat) : Int) * nx)
termination_by ng
decreasing_by exact Nat.mod_lt _ (by omega)

theorem eg_zero (g : Nat) (x nx : Int) : eg g 0 x nx = (g, x) := by rw [eg]; simp
theorem eg_step (g ng : Nat) (x nx : Int) (h : ng ≠ 0) : eg g ng x nx = eg ng (g % ng) nx (x - ((g / ng : Nat) : Int) * nx) := by rw [eg]; simp [h]

structure EInv (m a g ng : Nat) (x nx : Int) : Prop where
  lt : ng < g
  le : g ≤ m
  dx : (m : Int) ∣ a * x - g
  dn : (m : Int) ∣ a * nx - ng
  det : (0 ≤ x ∧ nx ≤ 0 ∧ x * ng - nx * g = m) ∨ (x ≤ 0 ∧ 0 ≤ nx ∧ nx * g - x * ng = m)
  gcd : Nat.gcd g ng = Nat.gcd m a
  sm : -(m : Int) ≤ x ∧ x ≤ m

theorem EInv.start {m a : Nat} (h : a < m) : EInv m a m a 0 1 :=
  ⟨h, Nat.le_refl _, ⟨-1, by omega⟩, ⟨0, by omega⟩, .inr ⟨by omega, by omega, by omega⟩, rfl, by omega⟩

theorem le_mul_pos {a b c : Int} (ha : 0 ≤ a) (hb : 1 ≤ b) (h : a * b ≤ c) : a ≤ c := by
  have : a * 1 ≤ a * b := Int.mul_le_mul_of_nonneg_left hb ha
  omega

theorem EInv.bn {m a g ng : Nat} {x nx : Int} (h : EInv m a g ng x nx) : -(m : Int) ≤ nx ∧ nx ≤ m := by
  have hg : 1 ≤ (g : Int) := by have := h.lt; omega
  rcases h.det with ⟨a1, a2, a3⟩ | ⟨a1, a2, a3⟩
  · have h1 : 0 ≤ x * ng := Int.mul_nonneg a1 (by omega)
    have := le_mul_pos (a := -nx) (b := g) (c := m) (by omega) hg (by rw [Int.neg_mul]; omega)
    omega
  · have h1 : 0 ≤ (-x) * ng := Int.mul_nonneg (by omega) (by omega)
    rw [Int.neg_mul] at h1
    have := le_mul_pos (a := nx) (b := g) (c := m) (by omega) hg (by omega)
    omega

theorem EInv.step {m a g ng : Nat} {x nx : Int} (h : EInv m a g ng x nx) (h0 : ng ≠ 0) : EInv m a ng (g % ng) nx (x - ((g / ng : Nat) : Int) * nx) := by
  have hd : g = ng * (g / ng) + g % ng := (Nat.div_add_mod g ng).symm
  have hdi : (g : Int) = (ng : Int) * ((g / ng : Nat) : Int) + ((g % ng : Nat) : Int) := by
    rw [← Int.natCast_mul, ← Int.natCast_add, ← hd]
  refine ⟨Nat.mod_lt _ (by omega), Nat.le_trans (Nat.le_of_lt h.lt) h.le, h.dn, ?_, ?_, ?_, h.bn⟩
  · obtain ⟨u, hu⟩ := h.dx
    obtain ⟨v, hv⟩ := h.dn
    refine ⟨u - v * ((g / ng : Nat) : Int), ?_⟩
    generalize ((g / ng : Nat) : Int) = q at *
    generalize ((g % ng : Nat) : Int) = r at *
    grind
  · have hq : 0 ≤ ((g / ng : Nat) : Int) := Int.natCast_nonneg _
    generalize ((g / ng : Nat) : Int) = q at *
    generalize ((g % ng : Nat) : Int) = r at *
    rcases h.det with ⟨a1, a2, a3⟩ | ⟨a1, a2, a3⟩
    · right
      have : q * nx ≤ 0 := Int.mul_nonpos_of_nonneg_of_nonpos hq a2
      refine ⟨a2, by omega, ?_⟩
      grind
    · left
      have : 0 ≤ q * nx := Int.mul_nonneg hq a2
      refine ⟨a2, by omega, ?_⟩
      grind
  · rw [← h.gcd]
    rw [Nat.gcd_comm g ng, Nat.gcd_comm ng (g % ng), ← Nat.gcd_rec]

/-- what the walk asks of a round: the product is small -/
theorem EInv.bq {m a g ng : Nat} {x nx : Int} (h : EInv m a g ng x nx) (h0 : ng ≠ 0) : -2 * (m : Int) ≤ ((g / ng : Nat) : Int) * nx ∧ ((g / ng : Nat) : Int) * nx ≤ 2 * m := by
  have h1 := (h.step h0).bn
  have h2 := h.sm
  omega

/-- the end -/
theorem EInv.stop {m a g : Nat} {x nx : Int} (h : EInv m a g 0 x nx) : g = Nat.gcd m a := by have := h.gcd; simpa using this

theorem eg_spec {m a : Nat} : ∀ (ng g : Nat) (x nx : Int), EInv m a g ng x nx → (eg g ng x nx).1 = Nat.gcd m a ∧ (m : Int) ∣ a * (eg g ng x nx).2 - (eg g ng x nx).1 := by
  intro ng
  induction ng using Nat.strongRecOn with
  | ind ng ih =>
    intro g x nx h
    by_cases h0 : ng = 0
    · subst h0; rw [eg_zero]; exact ⟨h.stop, h.dx⟩
    · rw [eg_step _ _ _ _ h0]
      exact ih _ (Nat.mod_lt _ (by omega)) _ _ _ (h.step h0)

/-! Orders -/
theorem pigeon (n : Nat) : ∀ f : Nat → Nat, (∀ i, i ≤ n → f i < n) → ∃ i j, i < j ∧ j ≤ n ∧ f i = f j := by
  induction n with
  | zero => intro f h; exact absurd (h 0 (Nat.le_refl _)) (by omega)
  | succ n ih =>
    intro f h
    by_cases hc : ∃ i, i ≤ n ∧ f i = f (n + 1)
    · obtain ⟨i, hi, e⟩ := hc
      exact ⟨i, n + 1, by omega, Nat.le_refl _, e⟩
    · have hne : ∀ i, i ≤ n → f i ≠ f (n + 1) := fun i hi e => hc ⟨i, hi, e⟩
      obtain ⟨i, j, h1, h2, h3⟩ := ih (fun i => if f i = n then f (n + 1) else f i) (by
        intro i hi
        have a1 := h i (by omega)
        have a2 := h (n + 1) (by omega)
        have a3 := hne i hi
        split <;> omega)
      refine ⟨i, j, h1, by omega, ?_⟩
      have a1 := hne i (by omega)
      have a2 := hne j h2
      split at h3 <;> split at h3 <;> omega

/-- the powers of a modulo m -/
def pwr (m a k : Nat) : Nat := a ^ k % m
theorem pwr_succ (m a k : Nat) : pwr m a (k + 1) = pwr m a k * a % m := by
  unfold pwr; rw [Nat.pow_succ, Nat.mod_mul_mod]
theorem pwr_lt (m a k : Nat) (h : 0 < m) : pwr m a k < m := Nat.mod_lt _ h
theorem pwr_one (m a : Nat) (h : a < m) : pwr m a 1 = a := by unfold pwr; rw [Nat.pow_one, Nat.mod_eq_of_lt h]

theorem ord_exists (m a : Nat) (hm : 1 < m) (hc : Nat.gcd m a = 1) : ∃ k, 1 ≤ k ∧ k ≤ m ∧ pwr m a k = 1 := by
  obtain ⟨i, j, h1, h2, h3⟩ := pigeon m (pwr m a) (fun i _ => pwr_lt m a i (by omega))
  refine ⟨j - i, by omega, by omega, ?_⟩
  unfold pwr at *
  have hle : a ^ i ≤ a ^ j := by
    by_cases h0 : a = 0
    · subst h0; rw [Nat.gcd_zero_right] at hc; omega
    · exact Nat.pow_le_pow_right (by omega) (by omega)
  have hd : m ∣ a ^ j - a ^ i := by
    refine ⟨a ^ j / m - a ^ i / m, ?_⟩
    have e1 := Nat.div_add_mod (a ^ i) m
    have e2 := Nat.div_add_mod (a ^ j) m
    rw [Nat.mul_sub]; omega
  have he : a ^ j - a ^ i = a ^ i * (a ^ (j - i) - 1) := by
    rw [Nat.mul_sub, ← Nat.pow_add, Nat.mul_one]; congr 2; omega
  rw [he] at hd
  have hcop : Nat.Coprime m (a ^ i) := Nat.Coprime.pow_right i hc
  have hd2 : m ∣ a ^ (j - i) - 1 := hcop.dvd_of_dvd_mul_left hd
  have hp : 1 ≤ a ^ (j - i) := by
    have : a ≠ 0 := by rintro rfl; rw [Nat.gcd_zero_right] at hc; omega
    exact Nat.pos_of_ne_zero (by simp [this])
  obtain ⟨q, hq⟩ := hd2
  have : a ^ (j - i) = 1 + m * q := by omega
  rw [this, Nat.add_mul_mod_self_left, Nat.mod_eq_of_lt hm]

/-- what the loop finds -/
def IsOrd (m a k : Nat) : Prop := 1 ≤ k ∧ pwr m a k = 1 ∧ ∀ j, 1 ≤ j → j < k → pwr m a j ≠ 1
theorem IsOrd.unique {m a k l : Nat} (h : IsOrd m a k) (h' : IsOrd m a l) : k = l := by
  rcases Nat.lt_trichotomy k l with c | c | c
  · exact absurd h.2.1 (h'.2.2 k h.1 c)
  · exact c
  · exact absurd h'.2.1 (h.2.2 l h'.1 c)

/-- the order, looked for from k on -/
def ordF (m a : Nat) : Nat → Nat → Nat
  | 0, k => k
  | f + 1, k => if pwr m a k = 1 then k else ordF m a f (k + 1)
def ordN (m a : Nat) : Nat := ordF m a m 1
theorem ordF_eq (m a k : Nat) (h : IsOrd m a k) : ∀ f j, 1 ≤ j → j ≤ k → k < j + f → ordF m a f j = k
  | 0, j, _, h2, h3 => by omega
  | f + 1, j, h1, h2, h3 => by
    rw [ordF]
    by_cases e : pwr m a j = 1
    · rw [if_pos e]
      apply Classical.byContradiction
      intro hne
      exact h.2.2 j h1 (by omega) e
    · rw [if_neg e]
      have : j ≠ k := by rintro rfl; exact e h.2.1
      exact ordF_eq m a k h f (j + 1) (by omega) (by omega) (by omega)
theorem ordN_eq (m a k : Nat) (h : IsOrd m a k) (hk : k ≤ m) : ordN m a = k := ordF_eq m a k h m 1 (Nat.le_refl _) h.1 (by omega)

/-! Powers by squaring -/
theorem pw_odd (m o s k : Nat) (h : k % 2 = 1) : (o * s % m) * (s * s % m) ^ (k / 2) % m = o * s ^ k % m := by
  have hk : k = 2 * (k / 2) + 1 := by omega
  have e : s ^ k = s * (s * s) ^ (k / 2) := by
    conv => lhs; rw [hk]
    rw [Nat.pow_succ, Nat.pow_mul, Nat.pow_two, Nat.mul_comm]
  rw [e, ← Nat.mul_assoc, Nat.mul_mod (o * s), Nat.pow_mod (s * s), Nat.mul_mod (o * s % m), Nat.mod_mod]
theorem pw_even (m o s k : Nat) (h : k % 2 = 0) : o * (s * s % m) ^ (k / 2) % m = o * s ^ k % m := by
  have hk : k = 2 * (k / 2) := by omega
  have e : s ^ k = (s * s) ^ (k / 2) := by
    conv => lhs; rw [hk]
    rw [Nat.pow_mul, Nat.pow_two]
  rw [e, Nat.mul_mod o ((s * s) ^ _), Nat.pow_mod (s * s), Nat.mul_mod o]

end Num
end Go.Proofs.Ytfhdgcndiljjcab

/- Remainders and powers by great moduli, of the program and of the model. -/
namespace Go.Proofs.Ytfhdgcndiljjcab
open Go.RowKit Go.WideShapes Go.ChangeShapes Go.ChangeAt

theorem remB_any (m n : Int) (w : World) (h1 : 1 ≤ m) (h2 : m ≤ 100000000) (h3 : -4000000000000000000 ≤ n) (h4 : n ≤ 4000000000000000000) :
    Calls Try.prog 67 #[.int .i64 m, .int .i64 n] w fun e w' => e = .returned (.int .i64 (n % m)) ∧ w = w' := by
  by_cases hn : 0 ≤ n
  · have h5 := Int.emod_nonneg n (show m ≠ 0 by omega)
    have h6 := Int.emod_lt_of_pos n (show 0 < m by omega)
    go_enter Try.func67, Try.ntmps67
    go_wp2
    go_ret
    exact ⟨rfl, rfl⟩
  · obtain ⟨r, a1, a2, a3, a4, a5⟩ := rem_neg m n (by omega) (by omega)
    have H4 := Lib.hid a4
    clear a4 a5
    by_cases hr : r = 0
    · subst hr
      go_enter Try.func67, Try.ntmps67
      go_wp2
      go_ret
      exact ⟨ret_int (by rw [H4.out]; simp), rfl⟩
    · have hr' : 0 < r := by omega
      clear hr
      go_enter Try.func67, Try.ntmps67
      go_wp2
      go_ret
      exact ⟨ret_int (by rw [H4.out, if_neg (by omega)]; omega), rfl⟩
theorem l01ModB_any (m n : Int) (w : World) (h1 : 1 ≤ m) (h2 : m ≤ 100000000) (h3 : -4000000000000000000 ≤ n) (h4 : n ≤ 4000000000000000000) :
    Calls Try.prog 36 #[.int .i64 m, .int .i64 n] w fun e w' => e = .returned (.int .i64 (n % m)) ∧ w = w' := by
  by_cases hn : 0 ≤ n
  · have h5 := Int.emod_nonneg n (show m ≠ 0 by omega)
    have h6 := Int.emod_lt_of_pos n (show 0 < m by omega)
    have H7 := Lib.hid (show (n % m + m) % m = n % m by rw [Int.add_emod_right, Int.emod_emod])
    go_enter Try.func36, Try.ntmps36
    go_wp2
    go_ret
    exact ⟨ret_int H7.out, rfl⟩
  · obtain ⟨r, a1, a2, a3, a4, a5⟩ := rem_neg m n (by omega) (by omega)
    have H5 := Lib.hid a5
    clear a4 a5
    go_enter Try.func36, Try.ntmps36
    go_wp2
    go_ret
    exact ⟨ret_int H5.out, rfl⟩

theorem mulGr {x y m : Int} (h1 : 0 ≤ x) (h2 : x < m) (h3 : 0 ≤ y) (h4 : y < m) (hm : m ≤ 100000000) : 0 ≤ x * y ∧ x * y ≤ 10000000000000000 := by
  refine ⟨Int.mul_nonneg h1 h3, ?_⟩
  have a := Int.mul_le_mul (show x ≤ 100000000 by omega) (show y ≤ 100000000 by omega) h3 (by omega)
  omega
theorem mulGr_nat {a b m : Nat} (h1 : a < m) (h2 : b < m) (hm : m ≤ 100000000) : 0 ≤ (a : Int) * (b : Int) ∧ (a : Int) * (b : Int) ≤ 10000000000000000 :=
  mulGr (m := (m : Int)) (by omega) (by omega) (by omega) (by omega) (by omega)
theorem modB_cast (a b m : Nat) : (a : Int) * (b : Int) % (m : Int) = ((a * b % m : Nat) : Int) := by
  rw [Int.natCast_emod, Int.natCast_mul]
theorem pwr_pow (M A K : Nat) : ((Num.pwr M (A % M) K : Nat) : Int) = (A : Int) ^ K % (M : Int) := by
  unfold Num.pwr
  rw [Int.natCast_emod, Int.natCast_pow, Int.natCast_emod, Nmr.emod_pow]

set_option maxHeartbeats 1000000 in
theorem l01PowB_any (m a : Int) (k : Nat) (w : World) (h0 : 0 ≤ a) (h1 : a ≤ 100000000) (h2 : 2 ≤ m) (h3 : m ≤ 100000000) (h5 : k ≤ 1000000000000) :
    Calls Try.prog 48 #[.int .i64 m, .int .i64 a, .int .i64 k] w fun e w' => e = .returned (.int .i64 (a ^ k % m)) ∧ w = w' := by
  obtain ⟨A0, rfl⟩ := Int.eq_ofNat_of_zero_le h0
  obtain ⟨M, rfl⟩ := Int.eq_ofNat_of_zero_le (show 0 ≤ m by omega)
  have HP := Lib.hid (pwr_pow M A0 k)
  obtain ⟨A, hA⟩ : ∃ A, A0 % M = A := ⟨_, rfl⟩
  have hAM : A < M := by rw [← hA]; exact Nat.mod_lt _ (by omega)
  rw [hA] at HP
  have HA := Lib.hid (show (A0 : Int) % (M : Int) = (A : Int) by rw [← hA]; exact (Int.natCast_emod _ _).symm)
  clear hA
  have h11 : (1 : Int) % M = 1 := Int.emod_eq_of_lt (by omega) (by omega)
  go_enter Try.func48, Try.ntmps48
  go_wp2_with (go_at_call 36; refine (l01ModB_any _ _ _ (by omega) (by omega) (by omega) (by omega)).mono ?_; rintro e w' ⟨rfl, rfl⟩; rw [HA.out])
  go_loop [7, 1, 2] (fun out s k' => ∃ (O S J : Nat), out = .int .i64 O ∧ s = .int .i64 S ∧ k' = .int .i64 J ∧ O < M ∧ S < M ∧ J ≤ k ∧ O * S ^ J % M = Num.pwr M A k) (fun _ _ k => (intOf k).toNat)
  case atStart => exact ⟨1, A, k, rfl, rfl, rfl, by omega, by omega, Nat.le_refl _, by rw [Nat.one_mul]; rfl⟩
  case round =>
    obtain ⟨O, S, J, rfl, rfl, rfl, hO, hS, hJ, heq⟩ := hrel
    have HE := Lib.hid heq
    clear heq
    by_cases hJ0 : J = 0
    · subst hJ0
      go_wp2
      go_ret
      exact ⟨ret_int (by rw [← HP.out, ← HE.out, Nat.pow_zero, Nat.mul_one, Nat.mod_eq_of_lt hO]), rfl⟩
    · have hpos : 0 < J := by omega
      clear hJ0
      obtain ⟨p1, p2⟩ := mulGr_nat hS hS (show M ≤ 100000000 by omega)
      have hSS : S * S % M < M := Nat.mod_lt _ (by omega)
      by_cases hodd : J % 2 = 1
      · obtain ⟨p3, p4⟩ := mulGr_nat hO hS (show M ≤ 100000000 by omega)
        have hOS : O * S % M < M := Nat.mod_lt _ (by omega)
        have HP := Lib.hid (Num.pw_odd M O S J hodd)
        have hod : (J : Int) % 2 = 1 := by omega
        clear hodd
        go_wp2
        go_round
        case rel => exact ⟨O * S % M, S * S % M, J / 2, by rw [modB_cast], by rw [modB_cast], by go_num, hOS, hSS, by omega, HP.out.trans HE.out⟩
        case measure => simp only [intOf]; omega
      · have HP := Lib.hid (Num.pw_even M O S J (by omega))
        have hod : (J : Int) % 2 = 0 := by omega
        clear hodd
        go_wp2
        go_round
        case rel => exact ⟨O, S * S % M, J / 2, rfl, by rw [modB_cast], by go_num, hO, hSS, by omega, HP.out.trans HE.out⟩
        case measure => simp only [intOf]; omega

end Go.Proofs.Ytfhdgcndiljjcab

