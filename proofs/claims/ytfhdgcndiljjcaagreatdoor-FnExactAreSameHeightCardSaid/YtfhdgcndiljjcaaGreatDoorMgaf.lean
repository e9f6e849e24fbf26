/- Texts of contracts, joined. -/
import Derived.Test.YtfhdgcndiljjcaaGreatDoorMgac
import Derived.Test.YtfhdgcndiljjcaaGreatDoorMgae
import Derived.StillTailTactics
import Derived.Test.YtfhdgcndiljjcaaGreatDoorMgad
import Derived.Test.YtfhdgcndiljjcaaGreatDoorMgaa
import Derived.OrdersHeld
import Derived.Deep.RegionHeld3
import Derived.Deep.DrawnRows
/- Contracts of MultiplyPlanes, of the program and of the model. -/
namespace Go.Proofs.YtfhdgcndiljjcaaGreatDoor
open Go.RowKit Go.WideShapes Go.ChangeShapes Go.ChangeAt

set_option maxHeartbeats 16000000 in
set_option maxRecDepth 100000 in
theorem l03Times_any (m : Int) (d : Nat) (A : Option Addr) (c : Nat) (t : List (List Int)) (A' : Option Addr) (c' : Nat) (t' : List (List Int)) (w : World) (hs : Pl.Ok m d t) (hs' : Pl.Ok m d t') (hr : RP w A t) (hr' : RP w A' t') :
    Calls Tryz.prog 102 #[.int .i64 m, .slice A t.length c, .slice A' t'.length c'] w fun e w' => ∃ v, e = .returned v ∧ OwnR w' w.heap.size w'.heap.size v (Pl.tab m d (Pl.mul2 (Pl.pc t) (Pl.pc t'))) ∧ Below w.heap.size w w' := by
  have HR := Lib.hid hr
  have HR' := Lib.hid hr'
  have HS := Lib.hid hs
  have HS' := Lib.hid hs'
  have hd2 := hs.d2
  have m1 := hs.m1
  have m2 := hs.m2
  have hm0 : ¬ m = 0 := by omega
  have HZ := Lib.hid (l03Zero_any m d w (by omega))
  obtain ⟨L, hL⟩ : ∃ L, t.length = L := ⟨_, rfl⟩
  obtain ⟨L', hL'⟩ : ∃ L, t'.length = L := ⟨_, rfl⟩
  have HL := Lib.hid (hL.symm.trans hs.len)
  have HL' := Lib.hid (hL'.symm.trans hs'.len)
  have hLd : (L : Int) - 1 = (d : Int) := by have := hs.len; omega
  have hLb : L ≤ 11 := by have := hs.len; omega
  rw [hL, hL']
  clear hr hr' hs hs' hL hL'
  go_enter Tryz.func102, Tryz.ntmps102
  go_wp2_with fail
  refine HZ.out.mono ?_
  rintro e w1 ⟨v, rfl, ho, hb⟩
  rw [← Pl.S2_tab_zero m d (Pl.pc t) (Pl.pc t')] at ho
  obtain ⟨g, cv, rfl⟩ := ho.openv (by rw [Pl.tab_length]; omega)
  rw [Pl.tab_length] at ho ⊢
  have HO1 := Lib.hid ho
  have HB1 := Lib.hid hb
  clear ho hb
  go_wp2
  go_loopw [9] (fun i wr => ∃ i0 : Nat, i0 ≤ L ∧ i = .int .i64 i0 ∧ OwnR wr w.heap.size wr.heap.size (.slice (some ⟨g, 0, none⟩) (d + 1) cv) (Pl.tab m d (Pl.S2 d (Pl.pc t) (Pl.pc t') i0 0)) ∧ Below w.heap.size w wr) (fun i _ => L - (intOf i).toNat)
  case atStart => exact ⟨0, Nat.zero_le _, rfl, HO1.out, HB1.out⟩
  case round =>
    clear HO1 HB1
    obtain ⟨i, hi, rfl, hown, hbel⟩ := hrel
    have HB := Lib.hid hbel
    have HO := Lib.hid hown
    clear hown hbel
    by_cases hlt : i < L
    · have i1 : (i : Int) < (L : Int) := by omega
      go_wp2
      go_loopw [10] (fun j wr => ∃ j0 : Nat, i + j0 ≤ L ∧ j = .int .i64 j0 ∧ OwnR wr w.heap.size wr.heap.size (.slice (some ⟨g, 0, none⟩) (d + 1) cv) (Pl.tab m d (Pl.S2 d (Pl.pc t) (Pl.pc t') i j0)) ∧ Below w.heap.size w wr) (fun j _ => L - (intOf j).toNat)
      case atStart => exact ⟨0, by omega, rfl, HO.out, HB.out⟩
      case round =>
        clear HO HB
        obtain ⟨j, hj, rfl, hown, hbel⟩ := hrel
        have HB := Lib.hid hbel
        have HO := Lib.hid hown
        have hLd' := HL.out
        by_cases hjt : i + j < L
        · obtain ⟨ba, offa, bi, offi, ci, rfl, hba, ka1, hbi, ka2⟩ := HR.out.num i j (by rw [HS.out.len]; omega) (by rw [HS.out.row i (by omega)]; omega)
          rw [HS.out.row i (by omega)] at ka1
          obtain ⟨N, hN⟩ : ∃ N, d - i + 1 = N := ⟨_, rfl⟩
          rw [hN] at ka1
          have r1 := HS.out.pc i j
          have hskip := Pl.S2_skip m d (Pl.pc t) (Pl.pc t') i j
          obtain ⟨X, hX⟩ : ∃ X, Pl.pc t i j = X := ⟨_, rfl⟩
          have HX := Lib.hid hX
          rw [hX] at ka2 r1 hskip
          have KA1 := Lib.hid ka1
          have KA2 := Lib.hid ka2
          have a1 := (hbel.cell (p := ⟨ba, offa + i, none⟩) hba).trans ka1
          have a2 := (hbel.cell (p := ⟨bi, offi + j, none⟩) hbi).trans ka2
          obtain ⟨r1, r2⟩ := r1
          have j0 : (0 : Int) ≤ (i : Int) := by omega
          have j1 : (0 : Int) ≤ (j : Int) := by omega
          have j2 : (i : Int) + (j : Int) < (L : Int) := by omega
          have j3 : (j : Int) < (N : Int) := by omega
          clear hX ka1 ka2 hown hbel hN hLd'
          by_cases hX0 : X = 0
          · have HSK := Lib.hid (hskip hX0)
            subst hX0
            clear hskip
            go_wp2
            go_roundw
            case rel => exact ⟨j + 1, by omega, by go_num, by rw [← HSK.out]; exact HO.out, HB.out⟩
            case measure => simp only [intOf]; omega
          · obtain ⟨n1, n2⟩ := ne_facts hX0
            clear hskip
            have ho := HO.out
            rw [← Pl.T2_tab_zero] at ho
            have HO2 := Lib.hid ho
            clear ho HO
            go_wp2
            go_loopw [11] (fun k wr => ∃ k0 : Nat, i + j + k0 ≤ L ∧ k = .int .i64 k0 ∧ OwnR wr w.heap.size wr.heap.size (.slice (some ⟨g, 0, none⟩) (d + 1) cv) (Pl.tab m d (Pl.T2 d (Pl.pc t) (Pl.pc t') i j k0 0)) ∧ Below w.heap.size w wr) (fun k _ => L - (intOf k).toNat)
            case atStart => exact ⟨0, by omega, rfl, HO2.out, HB.out⟩
            case round =>
              clear HO2 HB a1 a2
              obtain ⟨k, hk, rfl, hown, hbel⟩ := hrel
              have HB := Lib.hid hbel
              have HO := Lib.hid hown
              have hLd' := HL.out
              by_cases hkt : i + j + k < L
              · obtain ⟨bb, offb, A2, ck, rfl, hbb, kb1, -, hri⟩ := HR'.out.at k (by rw [HS'.out.len]; omega)
                obtain ⟨bk, offk, rfl, -⟩ := hri.at 0 (by rw [HS'.out.row k (by omega)]; omega)
                have HRI := Lib.hid hri
                rw [HS'.out.row k (by omega)] at kb1
                obtain ⟨M, hM⟩ : ∃ M, d - k + 1 = M := ⟨_, rfl⟩
                rw [hM] at kb1
                have b1 := (hbel.cell (p := ⟨bb, offb + k, none⟩) hbb).trans kb1
                obtain ⟨br, cr, g1, g2, g3, g4, hcel⟩ := HO.out.numB (i + k) j (d - (i + k) + 1) (by rw [Pl.tab_length]; omega) (by rw [Pl.tab_row m d _ (i + k) (by omega), Ser.cut_length]) (by omega)
                obtain ⟨c4, -⟩ := hcel wr (Below.refl _ _)
                obtain ⟨Q, hQ⟩ : ∃ Q, d - (i + k) + 1 = Q := ⟨_, rfl⟩
                rw [hQ] at c4
                obtain ⟨s, hsik⟩ : ∃ s, i + k = s := ⟨_, rfl⟩
                rw [hsik] at c4
                have q1 : (i : Int) + (k : Int) = (s : Int) := by omega
                have q2 : (s : Int) < (d : Int) + 1 := by omega
                have q3 : (0 : Int) ≤ (s : Int) := by omega
                have q4 : (0 : Int) ≤ (k : Int) := by omega
                have q5 : (k : Int) < (L' : Int) := by have := HL'.out; omega
                have q6 : (i : Int) + (j : Int) + (k : Int) < (L : Int) := by omega
                have HQ := Lib.hid hQ
                have HMM := Lib.hid hM
                have HIK := Lib.hid hsik
                clear hown hbel hcel hQ hM hsik kb1 hLd' hri
                go_wp2
                go_quiet (fail)
                go_wp2
                go_loopw [14] (fun l wr => ∃ l0 : Nat, i + j + k + l0 ≤ L ∧ l = .int .i64 l0 ∧ OwnR wr w.heap.size wr.heap.size (.slice (some ⟨g, 0, none⟩) (d + 1) cv) (Pl.tab m d (Pl.T2 d (Pl.pc t) (Pl.pc t') i j k l0)) ∧ wr.cell? ⟨g, s, none⟩ = some (.slice (some ⟨br, 0, none⟩) Q cr) ∧ Below w.heap.size w wr) (fun l _ => L - (intOf l).toNat)
                case atStart => exact ⟨0, by omega, rfl, HO.out.keep (below_drewN (Below.refl _ _) _), c4, below_drewN HB.out _⟩
                case round =>
                  clear HO HB c4 b1
                  obtain ⟨l, hl, rfl, hown, hc4, hbel⟩ := hrel
                  have HB := Lib.hid hbel
                  have HO := Lib.hid hown
                  have HC4 := Lib.hid hc4
                  have hLd' := HL.out
                  by_cases hlt4 : i + j + k + l < L
                  · obtain ⟨b3, o3, e3, hb3, kc⟩ := HRI.out.at l (by rw [HS'.out.row k (by omega)]; omega)
                    injection e3 with e3
                    injection e3 with e3a e3b
                    subst e3a e3b
                    have a1 := (hbel.cell (p := ⟨ba, offa + i, none⟩) hba).trans KA1.out
                    have a2 := (hbel.cell (p := ⟨bi, offi + j, none⟩) hbi).trans KA2.out
                    have b2 := (hbel.cell (p := ⟨bk, offk + l, none⟩) hb3).trans kc
                    change wr.cell? _ = some (.int .i64 (Pl.pc t' k l)) at b2
                    obtain ⟨b4, c3, h1, h2, h3, h4, hcel⟩ := HO.out.numB (i + k) (j + l) (d - (i + k) + 1) (by rw [Pl.tab_length]; omega) (by rw [Pl.tab_row m d _ (i + k) (by omega), Ser.cut_length]) (by omega)
                    obtain ⟨c4, c5, c6, c7⟩ := hcel wr.drew (below_drew0 wr)
                    have hst := Pl.T2_step m d (Pl.pc t) (Pl.pc t') i j k l (by omega)
                    have hzb := (HS.out.tab (Pl.T2 d (Pl.pc t) (Pl.pc t') i j k l)).pc (i + k) (j + l)
                    have hyb := HS'.out.pc k l
                    obtain ⟨u, hu⟩ : ∃ u, j + l = u := ⟨_, rfl⟩
                    rw [HQ.out, HIK.out] at c4
                    rw [HIK.out] at hst hzb c5 c7
                    rw [hu] at hst hzb c5 c6 c7
                    obtain ⟨Z, hZ⟩ : ∃ Z, Pl.pc (Pl.tab m d (Pl.T2 d (Pl.pc t) (Pl.pc t') i j k l)) s u = Z := ⟨_, rfl⟩
                    obtain ⟨Y, hY⟩ : ∃ Y, Pl.pc t' k l = Y := ⟨_, rfl⟩
                    rw [hZ] at hst hzb c5
                    rw [hY] at hst hyb b2
                    rw [HX.out] at hst
                    have e4 : some (Value.slice (some ⟨br, 0, none⟩) Q cr) = some (Value.slice (some ⟨b4, 0, none⟩) Q c3) := hc4.symm.trans c4
                    injection e4 with e4
                    injection e4 with e4a e4b e4c
                    injection e4a with e4a
                    injection e4a with e4a
                    subst e4a e4c
                    have h8 := c7 ((Z + X * Y) % m)
                    rw [hst] at h8
                    have hpr := Pl.prod_bd r1 (by omega) hyb.1 (by omega)
                    have HO2 := Lib.hid (h8.more (show wr.heap.size ≤ (wr.drew.setCell ⟨br, u, none⟩ (.int .i64 ((Z + X * Y) % m))).heap.size by show wr.heap.size ≤ (wr.heap.modify _ _).size; simp))
                    have HB2 := Lib.hid (hbel.drew.setCell (p := ⟨br, u, none⟩) g2 (.int .i64 ((Z + X * Y) % m)))
                    have HC5 : Hid ((wr.drew.setCell ⟨br, u, none⟩ (.int .i64 ((Z + X * Y) % m))).cell? ⟨g, s, none⟩ = some (.slice (some ⟨br, 0, none⟩) Q cr)) :=
                      Lib.hid ((World.cell?_of_block (w := wr.drew) (Below.heap_setCell wr.drew ⟨br, u, none⟩ _ g (fun e => g4 e.symm))).trans hc4)
                    have p1 : IntKind.i64.wrap (X * Y) = X * Y := by rw [IntKind.wrap_i64]; omega
                    have p2 : IntKind.i64.wrap (Z + X * Y) = Z + X * Y := by rw [IntKind.wrap_i64]; omega
                    have p3 : 0 ≤ Z + X * Y := by omega
                    have p5 : (0 : Int) ≤ (j : Int) + (l : Int) := by omega
                    have p6 : (j : Int) + (l : Int) < (Q : Int) := by have := HQ.out; have := HIK.out; omega
                    have p7 : (0 : Int) ≤ (l : Int) := by omega
                    have p8 : (l : Int) < (M : Int) := by have := HMM.out; omega
                    have p9 : (i : Int) + (j : Int) + (k : Int) + (l : Int) < (L : Int) := by omega
                    have p10 : IntKind.i64.wrap ((j : Int) + (l : Int)) = (j : Int) + (l : Int) := by rw [IntKind.wrap_i64]; omega
                    have p11 : ((j : Int) + (l : Int)).toNat = u := by omega
                    clear hcel c4 c7 h8 hst hzb hyb hZ hY hown hbel hc4 hLd' kc hpr hu e4b h1 h2 h3 h4
                    go_wp2
                    go_still_tail 26, (by kernel_rfl)
                    change wpList _ _ _ _ _ wr.drew
                    go_wp2
                    go_roundw
                    case rel => exact ⟨l + 1, by omega, by go_num, HO2.out, HC5.out, HB2.out⟩
                    case measure => simp only [intOf]; omega
                  · have hlL : i + j + k + l = L := by omega
                    have ho := HO.out
                    rw [Pl.T2_rowend m d _ _ i j k l (by omega)] at ho
                    have HO2 := Lib.hid ho
                    have p9 : ¬ ((i : Int) + (j : Int) + (k : Int) + (l : Int) < (L : Int)) := by omega
                    clear hown hbel hc4 hLd' ho hlL
                    go_wp2
                    go_roundw
                    case rel => exact ⟨k + 1, by omega, by go_num, HO2.out, HB.out⟩
                    case measure => simp only [intOf]; omega
              · have hkL : i + j + k = L := by omega
                have ho := HO.out
                rw [Pl.T2_end m d _ _ i j k (by omega)] at ho
                have HO2 := Lib.hid ho
                have p9 : ¬ ((i : Int) + (j : Int) + (k : Int) < (L : Int)) := by omega
                clear hown hbel hLd' ho hkL
                go_wp2
                go_roundw
                case rel => exact ⟨j + 1, by omega, by go_num, HO2.out, HB.out⟩
                case measure => simp only [intOf]; omega
        · have hjL : i + j = d + 1 := by omega
          have ho := HO.out
          rw [Pl.S2_next m d _ _ i j hjL] at ho
          have HO2 := Lib.hid ho
          have p9 : ¬ ((i : Int) + (j : Int) < (L : Int)) := by omega
          clear hown hbel hLd' ho hjL
          go_wp2
          go_roundw
          case rel => exact ⟨i + 1, by omega, by go_num, HO2.out, HB.out⟩
          case measure => simp only [intOf]; omega
    · obtain rfl : i = d + 1 := by have := HL.out; omega
      have ho := HO.out
      rw [Pl.S2_last] at ho
      have HF := Lib.hid ho
      clear ho
      go_wp2
      go_ret
      exact ⟨_, rfl, HF.out, HB.out⟩
end Go.Proofs.YtfhdgcndiljjcaaGreatDoor

/- Contracts of a series put upon a plane: Horner's tables, the model's loop. -/
namespace Go.Proofs.YtfhdgcndiljjcaaGreatDoor
open Go.RowKit Go.WideShapes Go.ChangeShapes Go.ChangeAt

namespace Pl
/-- Horner's table when the last k coefficients have been taken in -/
def hor (m : Int) (d : Nat) (l : List Int) (F : Nat → Nat → Int) : Nat → List (List Int)
  | 0 => tab m d fun _ _ => 0
  | k + 1 => tab m d fun p q => mul2 (pc (hor m d l F k)) F p q + (if p = 0 ∧ q = 0 then Ser.co l (d - k) else 0)
theorem hor_length (m : Int) (d : Nat) (l : List Int) (F : Nat → Nat → Int) (k : Nat) : (hor m d l F k).length = d + 1 := by
  cases k <;> (unfold hor; exact tab_length _ _ _)
theorem hor_ok {m : Int} {d : Nat} (m1 : 2 ≤ m) (m2 : m ≤ 10000) (d1 : 1 ≤ d) (d2 : d ≤ 10) (l : List Int) (F : Nat → Nat → Int) (k : Nat) : Ok m d (hor m d l F k) := by
  cases k <;> (unfold hor; exact Ok.of_tab m1 m2 d1 d2 _)
theorem mul2_left0 (a b : Nat → Nat → Int) (ha : ∀ i j, a i j = 0) (p q : Nat) : mul2 a b p q = 0 := by
  unfold mul2
  have h1 : ∀ n, Ser.psum (fun _ => (0 : Int)) n = 0 := fun n => by induction n with
    | zero => rfl
    | succ n ih => rw [Ser.psum, ih]; rfl
  rw [Ser.psum_ext (g := fun _ => 0) _ (fun k _ => ?_), h1]
  rw [Ser.psum_ext (g := fun _ => 0) _ (fun l _ => by rw [ha, Int.zero_mul]), h1]
theorem pc_zero (m : Int) (d : Nat) (i j : Nat) : pc (tab m d fun _ _ => 0) i j = 0 := by
  by_cases h : i + j ≤ d
  · rw [pc_tab h, Int.zero_emod]
  · rw [pc_over (by omega)]
/-- the model's step -/
theorem hor_step {m : Int} {d : Nat} (l : List Int) (F : Nat → Nat → Int) (k : Nat) :
    (tab m d (mul2 (pc (hor m d l F k)) F)).set 0 ((rw' (tab m d (mul2 (pc (hor m d l F k)) F)) 0).set 0 ((pc (tab m d (mul2 (pc (hor m d l F k)) F)) 0 0 + Ser.co l (d - k)) % m)) = hor m d l F (k + 1) := by
  rw [pc_tab (Nat.zero_le _)]
  refine tab_put (Nat.zero_le _) ?_ (fun p q _ hne => ?_)
  · rw [if_pos ⟨rfl, rfl⟩, Int.emod_add_emod]
  · rw [if_neg hne, Int.add_zero]
/-- the program's step, for a plane with the constant 0 -/
theorem hor_stepP {m : Int} {d : Nat} {l : List Int} {F : Nat → Nat → Int} (k : Nat) (hF : F 0 0 = 0) (h1 : 0 ≤ Ser.co l (d - k)) (h2 : Ser.co l (d - k) < m) :
    (tab m d (mul2 (pc (hor m d l F k)) F)).set 0 ((rw' (tab m d (mul2 (pc (hor m d l F k)) F)) 0).set 0 (Ser.co l (d - k))) = hor m d l F (k + 1) := by
  refine tab_put (Nat.zero_le _) ?_ (fun p q _ hne => ?_)
  · rw [if_pos ⟨rfl, rfl⟩]
    have : mul2 (pc (hor m d l F k)) F 0 0 = 0 := by
      unfold mul2
      simp [Ser.psum, hF]
    rw [this, Int.zero_add, Int.emod_eq_of_lt h1 h2]
  · rw [if_neg hne, Int.add_zero]
/-- where the program begins -/
theorem hor_one {m : Int} {d : Nat} {l : List Int} (F : Nat → Nat → Int) (h1 : 0 ≤ Ser.co l d) (h2 : Ser.co l d < m) : tab m d (gosF (Ser.cut m d (Ser.mon 0 (Ser.co l d))) 0) = hor m d l F 1 := by
  show _ = tab m d _
  refine tab_congr (Eq.of m d (fun p q hpq => ?_))
  rw [mul2_left0 (pc (hor m d l F 0)) F (pc_zero m d), Int.zero_add]
  unfold gosF
  rw [if_pos rfl, Nat.sub_zero]
  by_cases hq : q = 0
  · rw [if_pos hq, Ser.co_cut (by omega)]
    unfold Ser.mon
    by_cases hp : p = 0
    · rw [if_pos hp, if_pos ⟨hp, hq⟩, Int.emod_eq_of_lt h1 h2]
    · rw [if_neg hp, if_neg (fun h => hp h.1), Int.zero_emod]
  · rw [if_neg hq, if_neg (fun h => hq h.2)]
end Pl

set_option maxHeartbeats 8000000 in
set_option maxRecDepth 100000 in
theorem l03After_any (m : Int) (d : Nat) (A : Option Addr) (c : Nat) (l : List Int) (A' : Option Addr) (c' : Nat) (t : List (List Int)) (w : World) (hs : SerOk m d l) (hs' : Pl.Ok m d t) (hr : RI w A l) (hr' : RP w A' t) :
    Calls Tryz.prog 78 #[.int .i64 m, .slice A l.length c, .slice A' t.length c'] w fun e w' => ∃ v, e = .returned v ∧ OwnR w' w.heap.size w'.heap.size v (Pl.hor m d l (Pl.pc t) (d + 1)) ∧ Below w.heap.size w w' := by
  have HR := Lib.hid hr
  have HR' := Lib.hid hr'
  have HS := Lib.hid hs
  have HS' := Lib.hid hs'
  have hd2 := hs.d2
  have m1 := hs.m1
  have m2 := hs.m2
  have hm0 : ¬ m = 0 := by omega
  have HZ := Lib.hid (l03Zero_any m d w (by omega))
  have HT := Lib.hid (fun (k : Nat) (A1 : Option Addr) (c1 : Nat) (W0 : World) (h : RP W0 A1 (Pl.hor m d l (Pl.pc t) k)) (h' : RP W0 A' t) => by
    have := l03Times_any m d A1 c1 (Pl.hor m d l (Pl.pc t) k) A' c' t W0 (Pl.hor_ok m1 m2 hs.d1 hd2 l _ k) hs' h h'
    rw [Pl.hor_length] at this
    exact this)
  obtain ⟨L, hL⟩ : ∃ L, l.length = L := ⟨_, rfl⟩
  obtain ⟨L', hL'⟩ : ∃ L, t.length = L := ⟨_, rfl⟩
  have hLd : (L : Int) - 1 = (d : Int) := by have := hs.len; omega
  have hLd' : (L' : Int) - 1 = (d : Int) := by have := hs'.len; omega
  have hLb : L ≤ 11 := by have := hs.len; omega
  rw [hL'] at HT
  rw [hL, hL']
  have HL := Lib.hid (hL.symm.trans hs.len)
  clear hr hr' hs hs' hL hL'
  go_enter Tryz.func78, Tryz.ntmps78
  go_wp2_with fail
  refine HZ.out.mono ?_
  rintro e w1 ⟨v, rfl, ho, hb⟩
  obtain ⟨A0, c0, rfl, -⟩ := ho.len
  rw [Pl.tab_length] at ho ⊢
  have HO1 := Lib.hid (show OwnR w1 w.heap.size w1.heap.size (.slice A0 (d + 1) c0) (Pl.hor m d l (Pl.pc t) 0) from ho)
  have HB1 := Lib.hid hb
  clear ho hb
  go_wp2
  go_loopw [7, 8] (fun s7 s8 wr => ∃ (k t0 : Nat) (I : Int) (A1 : Option Addr) (c1 : Nat), k + t0 = d + 1 ∧ I = (t0 : Int) - 1 ∧ s8 = .int .i64 I ∧ s7 = .slice A1 (d + 1) c1 ∧ OwnR wr w.heap.size wr.heap.size (.slice A1 (d + 1) c1) (Pl.hor m d l (Pl.pc t) k) ∧ Below w.heap.size w wr) (fun _ s8 _ => (intOf s8 + 1).toNat)
  case atStart => exact ⟨0, d + 1, _, A0, c0, by omega, rfl, by first | rfl | go_num, rfl, HO1.out, HB1.out⟩
  case round =>
    clear HO1 HB1
    obtain ⟨k, t0, I, A1, c1, hkt, hI, rfl, rfl, hown, hbel⟩ := hrel
    have HB := Lib.hid hbel
    have HO := Lib.hid hown
    clear hown hbel
    rcases t0 with _ | i
    · obtain rfl : k = d + 1 := by omega
      obtain rfl : I = -1 := by omega
      clear hI hkt
      go_wp2
      go_ret
      exact ⟨_, rfl, HO.out, HB.out⟩
    · obtain rfl : I = (i : Int) := by omega
      have hid : i ≤ d := by omega
      have hik : d - k = i := by omega
      have HTK := Lib.hid (HT.out k A1 c1 wr (by obtain ⟨_, _, e, h⟩ := HO.out.len; injection e with e1 e2 e3; subst e1; exact h) (HR'.out.below HB.out))
      have hst := Pl.hor_step (m := m) (d := d) l (Pl.pc t) k
      rw [hik] at hst
      obtain ⟨F, hF⟩ : ∃ F, Pl.mul2 (Pl.pc (Pl.hor m d l (Pl.pc t) k)) (Pl.pc t) = F := ⟨_, rfl⟩
      rw [hF] at HTK hst
      have HST := Lib.hid hst
      have HKT := Lib.hid hkt
      clear hI hst hF hik hkt
      go_wp2_with fail
      refine HTK.out.mono ?_
      rintro e w3 ⟨v3, rfl, ho3, hb3⟩
      obtain ⟨g, cv, rfl⟩ := ho3.openv (by rw [Pl.tab_length]; omega)
      rw [Pl.tab_length] at ho3 ⊢
      obtain ⟨b4, c4, h1, h2, h3, h4, hcel⟩ := ho3.numB 0 0 (d + 1) (by rw [Pl.tab_length]; omega) (by rw [Pl.tab_row m d _ 0 (by omega), Ser.cut_length]; omega) (by omega)
      obtain ⟨a4, -, -, -⟩ := hcel w3 (Below.refl _ _)
      obtain ⟨k4, k5, k6, k7⟩ := hcel w3.drew (below_drew0 w3)
      obtain ⟨b', off', rfl, hbb', hci⟩ := HR.out.at i (by have := HS.out.len; omega)
      have hc := ((below_step HB.out hb3).cell (p := ⟨b', off' + i, none⟩) hbb').trans hci
      have hst := HST.out
      obtain ⟨Z, hZ⟩ : ∃ Z, Ser.co l i = Z := ⟨_, rfl⟩
      have hzb := HS.out.red i
      have hyb := (HS'.out.tab F).pc 0 0
      obtain ⟨Y, hY⟩ : ∃ Y, Pl.pc (Pl.tab m d F) 0 0 = Y := ⟨_, rfl⟩
      rw [hZ] at hc hst hzb
      rw [hY] at hst hyb k5
      have h8 := k7 ((Y + Z) % m)
      rw [hst] at h8
      have hwr := HB.out.size
      have HO2 := Lib.hid ((h8.low hwr).more (show w3.heap.size ≤ (w3.drew.setCell ⟨b4, 0, none⟩ (.int .i64 ((Y + Z) % m))).heap.size by show w3.heap.size ≤ (w3.heap.modify _ _).size; simp))
      have HB2 := Lib.hid ((below_step HB.out hb3).drew.setCell (p := ⟨b4, 0, none⟩) (Nat.le_trans hwr h2) (.int .i64 ((Y + Z) % m)))
      have p2 : IntKind.i64.wrap (Y + Z) = Y + Z := by rw [IntKind.wrap_i64]; omega
      have p3 : 0 ≤ Y + Z := by omega
      have p4 : (0 : Int) < (d : Int) + 1 := by omega
      have p5 : (0 : Int) ≤ (i : Int) := by omega
      have p6 : (i : Int) < (L : Int) := by omega
      clear hcel k4 k7 h8 hst hzb hyb hZ hY hbb' hci ho3 hb3 h1 h2 h3 h4 hwr
      go_wp2
      go_still_tail 12, (by kernel_rfl)
      change wpList _ _ _ _ _ w3.drew
      go_wp2
      go_roundw
      case rel => exact ⟨k + 1, i, _, _, cv, by have := HKT.out; omega, rfl, by first | rfl | go_num, rfl, HO2.out, HB2.out⟩
      case measure => simp only [intOf]; omega
end Go.Proofs.YtfhdgcndiljjcaaGreatDoor

/- Contract of a series put upon a grid, of the program. -/
namespace Go.Proofs.YtfhdgcndiljjcaaGreatDoor
open Go.RowKit Go.WideShapes Go.ChangeShapes Go.ChangeAt

/-- a grid has been stored into a new variable -/
theorem reg_newG {wk cur wd : World} {A : Option Addr} {n c : Nat} {T : List (List Int)} (hk : wk.heap.size ≤ cur.heap.size) (ho : OwnR wd cur.heap.size wd.heap.size (.slice A n c) T) (hb : Below wk.heap.size wk wd) (m d : Int) (t : TypeId) :
    VarC t (wd.alloc (.cells #[.int .i64 m, .int .i64 d, .slice A n c] t)) wd.heap.size #[.int .i64 m, .int .i64 d, .slice A n c] ∧ OwnR (wd.alloc (.cells #[.int .i64 m, .int .i64 d, .slice A n c] t)) cur.heap.size wd.heap.size (.slice A n c) T ∧
    (wd.heap.size < cur.heap.size ∨ wd.heap.size ≤ wd.heap.size) ∧ wk.heap.size ≤ cur.heap.size ∧ wd.heap.size ≤ (wd.alloc (.cells #[.int .i64 m, .int .i64 d, .slice A n c] t)).heap.size ∧ Below wk.heap.size wk (wd.alloc (.cells #[.int .i64 m, .int .i64 d, .slice A n c] t)) ∧ wk.heap.size ≤ wd.heap.size :=
  ⟨VarC.new _ _ _, ho.keep (below_one _ _), .inr (Nat.le_refl _), hk, (below_one wd _).size, below_alloc _ hb, hb.size⟩
/-- a grid has been stored into a variable that lay there before the call -/
theorem reg_finG {t : TypeId} {wk cur wd : World} {g : Nat} {A : Option Addr} {n c : Nat} {T : List (List Int)} {x y z : Value} (hk : wk.heap.size ≤ g) (hgc : g < cur.heap.size) (hle : wk.heap.size ≤ cur.heap.size) (hv : VarC t wd g #[x, y, z]) (ho : OwnR wd cur.heap.size wd.heap.size (.slice A n c) T) (hb : Below wk.heap.size wk wd) (m d : Int) :
    VarC t (((wd.setCell ⟨g, 0, none⟩ (.int .i64 m)).setCell ⟨g, 1, none⟩ (.int .i64 d)).setCell ⟨g, 2, none⟩ (.slice A n c)) g #[.int .i64 m, .int .i64 d, .slice A n c] ∧
    OwnR (((wd.setCell ⟨g, 0, none⟩ (.int .i64 m)).setCell ⟨g, 1, none⟩ (.int .i64 d)).setCell ⟨g, 2, none⟩ (.slice A n c)) cur.heap.size wd.heap.size (.slice A n c) T ∧
    (g < cur.heap.size ∨ wd.heap.size ≤ g) ∧ wk.heap.size ≤ cur.heap.size ∧ wd.heap.size ≤ (((wd.setCell ⟨g, 0, none⟩ (.int .i64 m)).setCell ⟨g, 1, none⟩ (.int .i64 d)).setCell ⟨g, 2, none⟩ (.slice A n c)).heap.size ∧
    Below wk.heap.size wk (((wd.setCell ⟨g, 0, none⟩ (.int .i64 m)).setCell ⟨g, 1, none⟩ (.int .i64 d)).setCell ⟨g, 2, none⟩ (.slice A n c)) ∧ wk.heap.size ≤ g :=
  ⟨hv.set3 _ _ _, ho.far (Span.of_grown (lo := g) (hi := g + 1) (grown_set3 wd g _ _ _) (fun b hb => by injection hb with hb; omega)) (.inr (by omega)), .inl hgc, hle, (grown_set3 wd g _ _ _).size, below_set3 hb hk _ _ _, hk⟩
/-- a series' box, a grid's box, the result's variable -/
theorem gproA (w : World) (m : Int) (A : Option Addr) (n c : Nat) (m' : Int) (d' : Nat) (A' : Option Addr) (n' c' : Nat) : ∃ W, ((w.alloc (.cells #[.int .i64 m, .slice A n c] 71)).alloc (.cells #[.int .i64 m', .int .i64 d', .slice A' n' c'] 63)).alloc (.cells #[.int .i64 0, .int .i64 0, .slice none 0 0] 63) = W ∧
    Box W w.heap.size m A n c ∧ GBox W (w.heap.size + 1) m' d' A' n' c' ∧ VarC 63 W (w.heap.size + 1 + 1) #[.int .i64 0, .int .i64 0, .slice none 0 0] ∧ Below w.heap.size w W := by
  refine ⟨_, rfl, ((Box.newT _ _ _ _ _ _).keep (below_one _ _)).keep (below_one _ _), ?_, ?_, below_alloc _ (below_alloc _ (below_one _ _))⟩
  · have := (GBox.new 63 (w.alloc (.cells #[.int .i64 m, .slice A n c] 71)) m' d' A' n' c').keep (below_one _ (.cells #[.int .i64 0, .int .i64 0, .slice none 0 0] 63))
    simpa using this
  · have := VarC.new 63 ((w.alloc (.cells #[.int .i64 m, .slice A n c] 71)).alloc (.cells #[.int .i64 m', .int .i64 d', .slice A' n' c'] 63)) #[.int .i64 0, .int .i64 0, .slice none 0 0]
    simpa using this
theorem bcb2 {W w' : World} {g b o : Nat} {m x : Int} {A : Option Addr} {n c : Nat} (h : Box W g m A n c) (hc : W.cell? ⟨b, o, none⟩ = some (.int .i64 x)) (hlt : b < W.heap.size) (hb : Below W.heap.size W w') :
    (w'.cell? ⟨g, 0, none⟩ = some (.int .i64 m) ∧ w'.cell? ⟨g, 1, none⟩ = some (.slice A n c)) ∧ (w'.cell? ⟨b, o, none⟩ = some (.int .i64 x)) ∧ Below W.heap.size W w' := ⟨box_in h hb, (hb.cell (p := ⟨b, o, none⟩) hlt).trans hc, hb⟩

end Go.Proofs.YtfhdgcndiljjcaaGreatDoor

/- Contracts of CoefficientOf, of the program and of the model. -/
namespace Go.Proofs.YtfhdgcndiljjcaaGreatDoor
open Go.RowKit Go.WideShapes Go.ChangeShapes Go.ChangeAt

/-- the model of CoefficientOf -/
def coeP (m : Int) (t : List (List Int)) (i j : Int) : Int × Int :=
  if isP m t = true then (if inB i 0 ((t.length : Int) - 1) = true ∧ inB j 0 ((t.length : Int) - 1 - i) = true then (Pl.pc t i.toNat j.toNat, 0) else (0, 2)) else (0, 1)
/-- what the load of one number of a plane reads -/
theorem Box.num {W : World} {g : Nat} {m : Int} {d b off c : Nat} {t : List (List Int)} (hb : Box W g m (some ⟨b, off, none⟩) t.length c) (hs : Pl.Ok m d t) (hr : RP W (some ⟨b, off, none⟩) t) (i j : Nat) (hij : i + j ≤ d) :
    ∃ b' off' c' L N, L = d + 1 ∧ N = d - i + 1 ∧ W.cell? ⟨g, 1, none⟩ = some (.slice (some ⟨b, off, none⟩) L c) ∧ W.cell? ⟨b, off + i, none⟩ = some (.slice (some ⟨b', off', none⟩) N c') ∧ W.cell? ⟨b', off' + j, none⟩ = some (.int .i64 (Pl.pc t i j)) := by
  obtain ⟨_, x2, _⟩ := hb
  obtain ⟨b0, off0, b', off', c', e, -, k1, -, k2⟩ := hr.num i j (by rw [hs.len]; omega) (by rw [hs.row i (by omega)]; omega)
  injection e with e
  injection e with e1 e2
  subst e1 e2
  exact ⟨b', off', c', t.length, _, hs.len, hs.row i (by omega), x2, k1, k2⟩
theorem pro0P (w : World) (m : Int) (A : Option Addr) (n c : Nat) : ∃ W, (w.alloc (.cells #[.int .i64 m, .slice A n c] 28)).alloc (.cells #[.int .i64 m, .slice A n c] 28) = W ∧
    Box W w.heap.size m A n c ∧ Box W (w.heap.size + 1) m A n c ∧ Below w.heap.size w W := startB2 _ _ w m A n c m A n c
end Go.Proofs.YtfhdgcndiljjcaaGreatDoor

/- Contracts of ApplySeries, of the program and of the model. -/
namespace Go.Proofs.YtfhdgcndiljjcaaGreatDoor
open Go.RowKit Go.WideShapes Go.ChangeShapes Go.ChangeAt

/-- the model of ApplySeries -/
def appP (m : Int) (l : List Int) (m' : Int) (t : List (List Int)) : Int × List (List Int) × Int :=
  if codePS m' t m l = 0 then (if Pl.pc t 0 0 = 0 then (m', Pl.hor m' (t.length - 1) l (Pl.pc t) t.length, 0) else (0, [], 5)) else (0, [], codePS m' t m l)
theorem appP_len (m : Int) (l : List Int) (m' : Int) (t : List (List Int)) : szT (appP m l m' t).2.1 ≤ 1048576 := by
  unfold appP
  split
  · rename_i h
    obtain ⟨_, d, e, _, s, _⟩ := codePS_ok h
    split
    · exact szT_ok (Pl.hor_ok s.m1 s.m2 (by have := s.d1; omega) (by have := s.d2; omega) l _ _ : Pl.Ok m' (t.length - 1) _)
    · show szT [] ≤ 1048576
      decide
  · show szT [] ≤ 1048576
    decide
/-- a series' box, a plane's box, the result's variable, the list of the one series -/
theorem proA (w : World) (m : Int) (A : Option Addr) (n c : Nat) (m' : Int) (A' : Option Addr) (n' c' : Nat) : ∃ W, (((w.alloc (.cells #[.int .i64 m, .slice A n c] 71)).alloc (.cells #[.int .i64 m', .slice A' n' c'] 28)).alloc (.cells #[.int .i64 0, .slice none 0 0] 28)).alloc (.cells #[.int .i64 m, .slice A n c] 71) = W ∧
    Box W w.heap.size m A n c ∧ Box W (w.heap.size + 1) m' A' n' c' ∧ VarC 28 W (w.heap.size + 1 + 1) #[.int .i64 0, .slice none 0 0] ∧ Box W (w.heap.size + 1 + 1 + 1) m A n c ∧ Below w.heap.size w W := by
  refine ⟨_, rfl, (((Box.newT _ _ _ _ _ _).keep (below_one _ _)).keep (below_one _ _)).keep (below_one _ _), ?_, ?_, ?_, below_alloc _ (below_alloc _ (below_alloc _ (below_one _ _)))⟩
  · have := ((Box.newT 28 (w.alloc (.cells #[.int .i64 m, .slice A n c] 71)) m' A' n' c').keep (below_one _ (.cells #[.int .i64 0, .slice none 0 0] 28))).keep (below_one _ (.cells #[.int .i64 m, .slice A n c] 71))
    simpa using this
  · have := (VarC.new 28 ((w.alloc (.cells #[.int .i64 m, .slice A n c] 71)).alloc (.cells #[.int .i64 m', .slice A' n' c'] 28)) #[.int .i64 0, .slice none 0 0]).keep (below_one _ (.cells #[.int .i64 m, .slice A n c] 71))
    simpa using this
  · have := Box.newT 71 (((w.alloc (.cells #[.int .i64 m, .slice A n c] 71)).alloc (.cells #[.int .i64 m', .slice A' n' c'] 28)).alloc (.cells #[.int .i64 0, .slice none 0 0] 28)) m A n c
    simpa using this
theorem kp2_call {w w' : World} {a1 a2 a3 a4 : Addr} {x y z u : Value} (hb : Below w.heap.size w w') (hs : (w.cell? a1 = some x ∧ w.cell? a2 = some y) ∧ (w.cell? a3 = some z ∧ w.cell? a4 = some u)) : (w'.cell? a1 = some x ∧ w'.cell? a2 = some y) ∧ (w'.cell? a3 = some z ∧ w'.cell? a4 = some u) :=
  ⟨kp_call hb hs.1, kp_call hb hs.2⟩
theorem kp2_store {w : World} {a1 a2 a3 a4 b : Addr} {x y z u v : Value} (h1 : b.block ≠ a1.block) (h2 : b.block ≠ a2.block) (h3 : b.block ≠ a3.block) (h4 : b.block ≠ a4.block) (hs : (w.cell? a1 = some x ∧ w.cell? a2 = some y) ∧ (w.cell? a3 = some z ∧ w.cell? a4 = some u)) : ((w.setCell b v).cell? a1 = some x ∧ (w.setCell b v).cell? a2 = some y) ∧ ((w.setCell b v).cell? a3 = some z ∧ (w.setCell b v).cell? a4 = some u) :=
  ⟨kp_store h1 h2 hs.1, kp_store h3 h4 hs.2⟩
theorem kp2_store2 {w : World} {g g1 g2 i1 i2 i3 i4 : Nat} {x y z u v v' : Value} (h1 : g ≠ g1) (h2 : g ≠ g2) (hs : (w.cell? ⟨g1, i1, none⟩ = some x ∧ w.cell? ⟨g1, i2, none⟩ = some y) ∧ (w.cell? ⟨g2, i3, none⟩ = some z ∧ w.cell? ⟨g2, i4, none⟩ = some u)) :
    (((w.setCell ⟨g, 0, none⟩ v).setCell ⟨g, 1, none⟩ v').cell? ⟨g1, i1, none⟩ = some x ∧ ((w.setCell ⟨g, 0, none⟩ v).setCell ⟨g, 1, none⟩ v').cell? ⟨g1, i2, none⟩ = some y) ∧ (((w.setCell ⟨g, 0, none⟩ v).setCell ⟨g, 1, none⟩ v').cell? ⟨g2, i3, none⟩ = some z ∧ ((w.setCell ⟨g, 0, none⟩ v).setCell ⟨g, 1, none⟩ v').cell? ⟨g2, i4, none⟩ = some u) :=
  kp2_store h1 h1 h2 h2 (kp2_store h1 h1 h2 h2 hs)
end Go.Proofs.YtfhdgcndiljjcaaGreatDoor

/- Contracts of the model's IsSeries and IsCurve. -/
namespace Go.Proofs.YtfhdgcndiljjcaaGreatDoor
open Go.RowKit Go.WideShapes Go.ChangeShapes Go.ChangeAt

end Go.Proofs.YtfhdgcndiljjcaaGreatDoor

/- Contracts of SubstituteCurves and SubstituteBoth, of the program and of the model. -/
namespace Go.Proofs.YtfhdgcndiljjcaaGreatDoor
open Go.RowKit Go.WideShapes Go.ChangeShapes Go.ChangeAt

/-- the code of a plane and two curves -/
def codePC2 (m : Int) (t : List (List Int)) (m1 : Int) (l1 : List Int) (m2 : Int) (l2 : List Int) : Int := codeLC (isP m t) m t.length [(m1, none, 0, l1), (m2, none, 0, l2)]
theorem codePC2_eq (m : Int) (t : List (List Int)) (m1 : Int) (A1 : Option Addr) (c1 : Nat) (l1 : List Int) (m2 : Int) (A2 : Option Addr) (c2 : Nat) (l2 : List Int) : codeLC (isP m t) m t.length [(m1, A1, c1, l1), (m2, A2, c2, l2)] = codePC2 m t m1 l1 m2 l2 := rfl
theorem isC_two {m : Int} {l : List Int} (h : isC m l = true) : isS m l = true ∧ Ser.co l 0 = 0 := by
  unfold isC at h
  rw [Bool.and_eq_true] at h
  exact ⟨h.1, by simpa [Ser.co] using h.2⟩
theorem codeL_zero {ok : Bool} {m : Int} {n : Nat} {xs : List (Int × Option Addr × Nat × List Int)} (h : codeL ok m n xs = 0) : ok = true ∧ allS xs = true ∧ alkS m n xs = true := by
  unfold codeL at h
  by_cases h1 : ok = true ∧ allS xs = true
  · rw [if_pos h1] at h
    by_cases h2 : alkS m n xs = true
    · exact ⟨h1.1, h1.2, h2⟩
    · rw [if_neg h2] at h; exact absurd h (by decide)
  · rw [if_neg h1] at h; exact absurd h (by decide)
theorem codeLC_zero {ok : Bool} {m : Int} {n : Nat} {xs : List (Int × Option Addr × Nat × List Int)} (h : codeLC ok m n xs = 0) : ok = true ∧ allS xs = true ∧ alkS m n xs = true ∧ curS xs = true := by
  unfold codeLC at h
  by_cases h1 : codeL ok m n xs = 0
  · rw [if_pos h1] at h
    obtain ⟨a, b, c⟩ := codeL_zero h1
    by_cases h2 : curS xs = true
    · exact ⟨a, b, c, h2⟩
    · rw [if_neg h2] at h; exact absurd h (by decide)
  · rw [if_neg h1] at h; exact absurd h h1
theorem codePC2_ok {m : Int} {t : List (List Int)} {m1 : Int} {l1 : List Int} {m2 : Int} {l2 : List Int} (h : codePC2 m t m1 l1 m2 l2 = 0) :
    m1 = m ∧ m2 = m ∧ ∃ d, t.length = d + 1 ∧ l1.length = d + 1 ∧ l2.length = d + 1 ∧ Pl.Ok m d t ∧ SerOk m d l1 ∧ SerOk m d l2 ∧ Ser.co l1 0 = 0 ∧ Ser.co l2 0 = 0 := by
  obtain ⟨h0, h1, h2, h3⟩ := codeLC_zero h
  obtain ⟨d, e, ok⟩ := plOk_of h0
  unfold allS at h1
  unfold alkS at h2
  unfold curS at h3
  simp only [List.all_cons, List.all_nil, Bool.and_true, Bool.and_eq_true, decide_eq_true_iff] at h1 h2 h3
  obtain ⟨⟨rfl, e1⟩, rfl, e2⟩ := h2
  obtain ⟨d1, f1, s1⟩ := serOk_of h1.1
  obtain ⟨d2, f2, s2⟩ := serOk_of h1.2
  obtain rfl : d1 = d := by omega
  obtain rfl : d2 = d1 := by omega
  exact ⟨rfl, rfl, d2, e, f1, f2, ok, s1, s2, (isC_two h3.1).2, (isC_two h3.2).2⟩
/-- a plane's box, two series' boxes, the result's variable, the list of both series -/
theorem proS (R : TypeId) (w : World) (m : Int) (A : Option Addr) (n c : Nat) (m1 : Int) (A1 : Option Addr) (n1 c1 : Nat) (m2 : Int) (A2 : Option Addr) (n2 c2 : Nat) :
    ∃ W, ((((w.alloc (.cells #[.int .i64 m, .slice A n c] 28)).alloc (.cells #[.int .i64 m1, .slice A1 n1 c1] 71)).alloc (.cells #[.int .i64 m2, .slice A2 n2 c2] 71)).alloc (.cells #[.int .i64 0, .slice none 0 0] R)).alloc (.cells #[.int .i64 m1, .slice A1 n1 c1, .int .i64 m2, .slice A2 n2 c2] 71) = W ∧
    Box W w.heap.size m A n c ∧ Box W (w.heap.size + 1) m1 A1 n1 c1 ∧ Box W (w.heap.size + 1 + 1) m2 A2 n2 c2 ∧ VarC R W (w.heap.size + 1 + 1 + 1) #[.int .i64 0, .slice none 0 0] ∧ Box4 W (w.heap.size + 1 + 1 + 1 + 1) m1 A1 n1 c1 m2 A2 n2 c2 ∧ Below w.heap.size w W := by
  obtain ⟨W0, h0, h1, h2, h3, h4⟩ := startB3 28 71 71 w m A n c m1 A1 n1 c1 m2 A2 n2 c2
  have hs : W0.heap.size = w.heap.size + 1 + 1 + 1 := by rw [← h0]; simp
  rw [h0]
  refine ⟨_, rfl, (h1.keep (below_one _ _)).keep (below_one _ _), (h2.keep (below_one _ _)).keep (below_one _ _), (h3.keep (below_one _ _)).keep (below_one _ _), ?_, ?_, below_alloc _ (below_alloc _ h4)⟩
  · have := (VarC.new R W0 #[.int .i64 0, .slice none 0 0]).keep (below_one _ (.cells #[.int .i64 m1, .slice A1 n1 c1, .int .i64 m2, .slice A2 n2 c2] 71))
    rwa [hs] at this
  · have hv := VarC.new 71 (W0.alloc (.cells #[.int .i64 0, .slice none 0 0] R)) #[.int .i64 m1, .slice A1 n1 c1, .int .i64 m2, .slice A2 n2 c2]
    have e : (W0.alloc (.cells #[.int .i64 0, .slice none 0 0] R)).heap.size = w.heap.size + 1 + 1 + 1 + 1 := by simp [hs]
    rw [e] at hv
    exact ⟨⟨hv.cell 0 _ rfl, hv.cell 1 _ rfl, hv.lt⟩, hv.cell 2 _ rfl, hv.cell 3 _ rfl⟩
/-- .. without the list -/
theorem sproS (R : TypeId) (w : World) (m : Int) (A : Option Addr) (n c : Nat) (m1 : Int) (A1 : Option Addr) (n1 c1 : Nat) (m2 : Int) (A2 : Option Addr) (n2 c2 : Nat) :
    ∃ W, (((w.alloc (.cells #[.int .i64 m, .slice A n c] 28)).alloc (.cells #[.int .i64 m1, .slice A1 n1 c1] 71)).alloc (.cells #[.int .i64 m2, .slice A2 n2 c2] 71)).alloc (.cells #[.int .i64 0, .slice none 0 0] R) = W ∧
    Box W w.heap.size m A n c ∧ Box W (w.heap.size + 1) m1 A1 n1 c1 ∧ Box W (w.heap.size + 1 + 1) m2 A2 n2 c2 ∧ VarC R W (w.heap.size + 1 + 1 + 1) #[.int .i64 0, .slice none 0 0] ∧ Below w.heap.size w W := by
  obtain ⟨W0, h0, h1, h2, h3, h4⟩ := startB3 28 71 71 w m A n c m1 A1 n1 c1 m2 A2 n2 c2
  have hs : W0.heap.size = w.heap.size + 1 + 1 + 1 := by rw [← h0]; simp
  rw [h0]
  refine ⟨_, rfl, h1.keep (below_one _ _), h2.keep (below_one _ _), h3.keep (below_one _ _), ?_, below_alloc _ h4⟩
  have := VarC.new R W0 #[.int .i64 0, .slice none 0 0]
  rwa [hs] at this
/-- what the three boxes hold is kept -/
theorem box3_call {w w' : World} {g g1 g2 : Nat} {m m1 m2 : Int} {A A1 A2 : Option Addr} {n c n1 c1 n2 c2 : Nat} (hb : Below w.heap.size w w') (h : Box w g m A n c ∧ Box w g1 m1 A1 n1 c1 ∧ Box w g2 m2 A2 n2 c2) : Box w' g m A n c ∧ Box w' g1 m1 A1 n1 c1 ∧ Box w' g2 m2 A2 n2 c2 :=
  ⟨h.1.keep hb, h.2.1.keep hb, h.2.2.keep hb⟩
/-- the models -/
def subP (m : Int) (t : List (List Int)) (m1 : Int) (l1 : List Int) (m2 : Int) (l2 : List Int) : Int × List Int × Int :=
  if codePC2 m t m1 l1 m2 l2 = 0 then (m, Pl.putL m (t.length - 1) (Pl.pc t) l1 l2, 0) else (0, [], codePC2 m t m1 l1 m2 l2)
theorem subP_len (m : Int) (t : List (List Int)) (m1 : Int) (l1 : List Int) (m2 : Int) (l2 : List Int) : (subP m t m1 l1 m2 l2).2.1.length ≤ 1048576 := by
  unfold subP
  split
  · rename_i h
    obtain ⟨_, _, d, e, _, _, ok, _⟩ := codePC2_ok h
    have := ok.d2
    dsimp only
    rw [Pl.putL_length]; omega
  · simp
def botP (m : Int) (t : List (List Int)) (m1 : Int) (l1 : List Int) (m2 : Int) (l2 : List Int) : Int × List (List Int) × Int :=
  if codePC2 m t m1 l1 m2 l2 = 0 then (m, Pl.botT m (t.length - 1) (Pl.pc t) l1 l2, 0) else (0, [], codePC2 m t m1 l1 m2 l2)
theorem botP_len (m : Int) (t : List (List Int)) (m1 : Int) (l1 : List Int) (m2 : Int) (l2 : List Int) : szT (botP m t m1 l1 m2 l2).2.1 ≤ 1048576 := by
  unfold botP
  split
  · rename_i h
    obtain ⟨_, _, d, e, _, _, ok, _⟩ := codePC2_ok h
    refine szT_ok (m := m) (d := d) ?_
    rw [e]
    exact ok.tab _
  · show szT [] ≤ 1048576
    decide
/-- in the walk's form: three boxes are kept by a call and by a store elsewhere -/
theorem kb3_call {w w' : World} {g g1 g2 : Nat} {m m1 m2 : Int} {A A1 A2 : Option Addr} {n c n1 c1 n2 c2 : Nat} (hb : Below w.heap.size w w')
    (h : (w.cell? ⟨g, 0, none⟩ = some (.int .i64 m) ∧ w.cell? ⟨g, 1, none⟩ = some (.slice A n c) ∧ g < w.heap.size) ∧ (w.cell? ⟨g1, 0, none⟩ = some (.int .i64 m1) ∧ w.cell? ⟨g1, 1, none⟩ = some (.slice A1 n1 c1) ∧ g1 < w.heap.size) ∧ (w.cell? ⟨g2, 0, none⟩ = some (.int .i64 m2) ∧ w.cell? ⟨g2, 1, none⟩ = some (.slice A2 n2 c2) ∧ g2 < w.heap.size)) :
    (w'.cell? ⟨g, 0, none⟩ = some (.int .i64 m) ∧ w'.cell? ⟨g, 1, none⟩ = some (.slice A n c) ∧ g < w'.heap.size) ∧ (w'.cell? ⟨g1, 0, none⟩ = some (.int .i64 m1) ∧ w'.cell? ⟨g1, 1, none⟩ = some (.slice A1 n1 c1) ∧ g1 < w'.heap.size) ∧ (w'.cell? ⟨g2, 0, none⟩ = some (.int .i64 m2) ∧ w'.cell? ⟨g2, 1, none⟩ = some (.slice A2 n2 c2) ∧ g2 < w'.heap.size) :=
  box3_call hb h
theorem kb3_store {w : World} {b g g1 g2 : Nat} {m m1 m2 : Int} {A A1 A2 : Option Addr} {n c n1 c1 n2 c2 : Nat} {x y : Value} (e0 : b ≠ g) (e1 : b ≠ g1) (e2 : b ≠ g2)
    (h : (w.cell? ⟨g, 0, none⟩ = some (.int .i64 m) ∧ w.cell? ⟨g, 1, none⟩ = some (.slice A n c) ∧ g < w.heap.size) ∧ (w.cell? ⟨g1, 0, none⟩ = some (.int .i64 m1) ∧ w.cell? ⟨g1, 1, none⟩ = some (.slice A1 n1 c1) ∧ g1 < w.heap.size) ∧ (w.cell? ⟨g2, 0, none⟩ = some (.int .i64 m2) ∧ w.cell? ⟨g2, 1, none⟩ = some (.slice A2 n2 c2) ∧ g2 < w.heap.size)) :
    let w' := (w.setCell ⟨b, 0, none⟩ x).setCell ⟨b, 1, none⟩ y
    (w'.cell? ⟨g, 0, none⟩ = some (.int .i64 m) ∧ w'.cell? ⟨g, 1, none⟩ = some (.slice A n c) ∧ g < w'.heap.size) ∧ (w'.cell? ⟨g1, 0, none⟩ = some (.int .i64 m1) ∧ w'.cell? ⟨g1, 1, none⟩ = some (.slice A1 n1 c1) ∧ g1 < w'.heap.size) ∧ (w'.cell? ⟨g2, 0, none⟩ = some (.int .i64 m2) ∧ w'.cell? ⟨g2, 1, none⟩ = some (.slice A2 n2 c2) ∧ g2 < w'.heap.size) :=
  ⟨((show Box w g m A n c from h.1).far b 0 x e0).far b 1 y e0, ((show Box w g1 m1 A1 n1 c1 from h.2.1).far b 0 x e1).far b 1 y e1, ((show Box w g2 m2 A2 n2 c2 from h.2.2).far b 0 x e2).far b 1 y e2⟩
/-! the model -/
/-- three boxes and the list of both series -/
theorem proL (w : World) (m : Int) (A : Option Addr) (n c : Nat) (m1 : Int) (A1 : Option Addr) (n1 c1 : Nat) (m2 : Int) (A2 : Option Addr) (n2 c2 : Nat) :
    ∃ W, (((w.alloc (.cells #[.int .i64 m, .slice A n c] 28)).alloc (.cells #[.int .i64 m1, .slice A1 n1 c1] 71)).alloc (.cells #[.int .i64 m2, .slice A2 n2 c2] 71)).alloc (.cells #[.int .i64 m1, .slice A1 n1 c1, .int .i64 m2, .slice A2 n2 c2] 71) = W ∧
    Box W w.heap.size m A n c ∧ Box W (w.heap.size + 1) m1 A1 n1 c1 ∧ Box W (w.heap.size + 1 + 1) m2 A2 n2 c2 ∧ Box4 W (w.heap.size + 1 + 1 + 1) m1 A1 n1 c1 m2 A2 n2 c2 ∧ Below w.heap.size w W := by
  obtain ⟨W0, h0, h1, h2, h3, h4⟩ := startB3 28 71 71 w m A n c m1 A1 n1 c1 m2 A2 n2 c2
  have hs : W0.heap.size = w.heap.size + 1 + 1 + 1 := by rw [← h0]; simp
  rw [h0]
  refine ⟨_, rfl, h1.keep (below_one _ _), h2.keep (below_one _ _), h3.keep (below_one _ _), ?_, below_alloc _ h4⟩
  have hv := VarC.new 71 W0 #[.int .i64 m1, .slice A1 n1 c1, .int .i64 m2, .slice A2 n2 c2]
  rw [hs] at hv
  exact ⟨⟨hv.cell 0 _ rfl, hv.cell 1 _ rfl, hv.lt⟩, hv.cell 2 _ rfl, hv.cell 3 _ rfl⟩
theorem codePC2_if (m : Int) (t : List (List Int)) (m1 : Int) (l1 : List Int) (m2 : Int) (l2 : List Int) : codePC2 m t m1 l1 m2 l2 = if codeL (isP m t) m t.length [(m1, none, 0, l1), (m2, none, 0, l2)] = 0 then (if isC m1 l1 = true ∧ isC m2 l2 = true then 0 else 5) else codeL (isP m t) m t.length [(m1, none, 0, l1), (m2, none, 0, l2)] := by
  unfold codePC2 codeLC curS
  simp only [List.all_cons, List.all_nil, Bool.and_true, Bool.and_eq_true]
end Go.Proofs.YtfhdgcndiljjcaaGreatDoor

/- Contracts of the program's codes of laws, of the law of a plane, of lines and of sums under a law. -/
namespace Go.Proofs.YtfhdgcndiljjcaaGreatDoor
open Go.RowKit Go.WideShapes Go.ChangeShapes Go.ChangeAt

/-- block g holds planes, one after the other -/
def PLs (w : World) (g : Nat) (xs : List (Int × Option Addr × Nat × List (List Int))) : Prop :=
  g < w.heap.size ∧ ∀ k m A c t, xs[k]? = some (m, A, c, t) → w.cell? ⟨g, k * 2, none⟩ = some (.int .i64 m) ∧ w.cell? ⟨g, k * 2 + 1, none⟩ = some (.slice A t.length c) ∧ RP w A t ∧ szT t ≤ 1048576
theorem PLs.keep {w w' : World} {g : Nat} {xs : List (Int × Option Addr × Nat × List (List Int))} (h : PLs w g xs) (hb : Below w.heap.size w w') : PLs w' g xs :=
  ⟨Nat.lt_of_lt_of_le h.1 hb.size, fun k m A c t hx => by
    obtain ⟨a, b, r, z⟩ := h.2 k m A c t hx
    exact ⟨(hb.cell (p := ⟨g, k * 2, none⟩) h.1).trans a, (hb.cell (p := ⟨g, k * 2 + 1, none⟩) h.1).trans b, r.below hb, z⟩⟩
theorem PLs.one {w : World} {g : Nat} {m : Int} {A : Option Addr} {c : Nat} {t : List (List Int)} (hx : Box w g m A t.length c) (hr : RP w A t) (hz : szT t ≤ 1048576) : PLs w g [(m, A, c, t)] :=
  ⟨hx.2.2, fun k m' A' c' t' h => by
    match k, h with
    | 0, h =>
      simp at h
      obtain ⟨rfl, rfl, rfl, rfl⟩ := h
      exact ⟨hx.1, hx.2.1, hr, hz⟩⟩
theorem PLs.two {w : World} {g : Nat} {m : Int} {A : Option Addr} {c : Nat} {t : List (List Int)} {m' : Int} {A' : Option Addr} {c' : Nat} {t' : List (List Int)} (hx : Box4 w g m A t.length c m' A' t'.length c') (hr : RP w A t) (hr' : RP w A' t') (hz : szT t ≤ 1048576) (hz' : szT t' ≤ 1048576) :
    PLs w g [(m, A, c, t), (m', A', c', t')] :=
  ⟨hx.1.2.2, fun k m0 A0 c0 t0 h => by
    match k, h with
    | 0, h =>
      simp at h
      obtain ⟨rfl, rfl, rfl, rfl⟩ := h
      exact ⟨hx.1.1, hx.1.2.1, hr, hz⟩
    | 1, h =>
      simp at h
      obtain ⟨rfl, rfl, rfl, rfl⟩ := h
      exact ⟨hx.2.1, hx.2.2, hr', hz'⟩⟩
def lawS (xs : List (Int × Option Addr × Nat × List (List Int))) : Bool := xs.all fun x => isL x.1 x.2.2.2
set_option maxHeartbeats 8000000 in
set_option maxRecDepth 100000 in
theorem codeOfLaws_any (g : Nat) (xs : List (Int × Option Addr × Nat × List (List Int))) (C : Int) (w : World) (hx : PLs w g xs) (hn : xs.length ≤ 1000)
    (hcp : lawS xs = true → ∀ W0, Below w.heap.size w W0 → Calls Tryz.prog 52 #[.slice (some ⟨g, 0, none⟩) xs.length xs.length] W0 fun e w' => e = .returned (.int .i64 C) ∧ Below W0.heap.size W0 w') :
    Calls Tryz.prog 38 #[.slice (some ⟨g, 0, none⟩) xs.length xs.length] w fun e w' => e = .returned (.int .i64 (if lawS xs = true then C else 1)) ∧ Below w.heap.size w w' := by
  have HX := Lib.hid hx
  have HCP := Lib.hid hcp
  obtain ⟨R, hR⟩ : ∃ R, (if lawS xs = true then C else 1) = R := ⟨_, rfl⟩
  have HRR := Lib.hid hR
  rw [hR]
  obtain ⟨n, hxn⟩ : ∃ n, xs.length = n := ⟨_, rfl⟩
  have HN := Lib.hid hxn
  rw [hxn] at hn HCP ⊢
  have HLT := Lib.hid (fun k (hk : k < n) => (by
    obtain ⟨⟨m', A', c', l'⟩, hx⟩ : ∃ x, xs[k]? = some x := ⟨_, List.getElem?_eq_getElem (by omega)⟩
    exact ⟨m', A', c', l', hx⟩ : ∃ m' A' c' l', xs[k]? = some (m', A', c', l')))
  clear hx hcp hR hxn
  go_enter Tryz.func38, Tryz.ntmps38
  go_wp2
  go_loopw [4, 7] (fun _ i wr => ∃ k : Nat, k ≤ n ∧ i = .int .i64 k ∧ lawS (xs.take k) = true ∧ Below w.heap.size w wr) (fun _ i _ => n - (intOf i).toNat)
  case atStart => exact ⟨0, Nat.zero_le _, rfl, rfl, Below.refl _ _⟩
  case round =>
    obtain ⟨k, hk, rfl, hall, hbel⟩ := hrel
    have HA := Lib.hid hall
    have HBE := Lib.hid hbel
    clear hall
    by_cases hlt : k < n
    · obtain ⟨m', A', c', l', hxk⟩ := HLT.out k hlt
      obtain ⟨x1, x2, x3, x4⟩ := (HX.out.keep hbel).2 k m' A' c' l' hxk
      have HXK := Lib.hid hxk
      have HIS := Lib.hid (fun W0 (h : Below wr.heap.size wr W0) => IsLaw_any m' A' c' l' W0 x4 (x3.below h))
      obtain ⟨L', hL'⟩ : ∃ L, l'.length = L := ⟨_, rfl⟩
      obtain ⟨b', hb'⟩ : ∃ b, isL m' l' = b := ⟨_, rfl⟩
      have HBB := Lib.hid hb'
      rw [hL', hb'] at HIS
      rw [hL'] at x2
      have j0 : (0 : Int) ≤ (k : Int) := by omega
      have j1 : (k : Int) < (n : Int) := by omega
      clear hbel hxk x3 x4 hL' hb'
      cases b' with
      | true =>
        have HOK := Lib.hid (show lawS (xs.take (k + 1)) = true by unfold lawS; rw [all_take _ _ _ _ HXK.out]; exact and_t HA.out HBB.out)
        go_wp2_with fail
        refine (HIS.out _ (below_one _ _)).mono ?_
        rintro e w2 ⟨rfl, hb2⟩
        have HB2 := Lib.hid (below_step (below_alloc (.cells #[.int .i64 m', .slice A' L' c'] 28) HBE.out) hb2)
        clear hb2 x1 x2
        go_wp2
        go_roundw
        case rel => exact ⟨k + 1, by omega, by go_num, HOK.out, HB2.out⟩
        case measure => simp only [intOf]; omega
      | false =>
        have HNO : Hid (R = 1) := Lib.hid (by rw [← HRR.out, if_neg]; unfold lawS; rw [all_bad _ _ _ _ HXK.out HBB.out]; decide)
        go_wp2_with fail
        refine (HIS.out _ (below_one _ _)).mono ?_
        rintro e w2 ⟨rfl, hb2⟩
        have HB2 := Lib.hid (below_step (below_alloc (.cells #[.int .i64 m', .slice A' L' c'] 28) HBE.out) hb2)
        clear hb2 x1 x2
        go_wp2
        go_ret
        exact ⟨ret_int HNO.out.symm, HB2.out⟩
    · obtain rfl : k = n := by omega
      have hal : lawS xs = true := by
        have := HA.out
        rwa [List.take_of_length_le (by have := HN.out; omega)] at this
      have HC := Lib.hid (HCP.out hal _ hbel)
      have HYES : Hid (R = C) := Lib.hid (by rw [← HRR.out, if_pos hal])
      clear HA hbel hal
      go_wp2_with fail
      refine HC.out.mono ?_
      rintro e w2 ⟨rfl, hb2⟩
      have HB2 := Lib.hid (below_step HBE.out hb2)
      clear hb2
      go_wp2
      go_ret
      exact ⟨ret_int HYES.out.symm, HB2.out⟩
def codeL1 (m : Int) (t : List (List Int)) : Int := if isL m t = true then 0 else 1
def codeL2 (m : Int) (t : List (List Int)) (m' : Int) (t' : List (List Int)) : Int := if isL m t = true ∧ isL m' t' = true then (if m = m' ∧ t.length = t'.length then 0 else 2) else 1
theorem codeL1_any (g : Nat) (m : Int) (A : Option Addr) (c : Nat) (t : List (List Int)) (w : World) (hz : szT t ≤ 1048576) (hr : RP w A t) (hx : Box w g m A t.length c) :
    Calls Tryz.prog 38 #[.slice (some ⟨g, 0, none⟩) 1 1] w fun e w' => e = .returned (.int .i64 (codeL1 m t)) ∧ Below w.heap.size w w' := by
  have h := codeOfLaws_any g [(m, A, c, t)] 0 w (PLs.one hx hr hz) (by simp) (fun hal W0 hb => by
    have := codeOfPlanes1_any g m A c t W0 hz (hr.below hb) (hx.keep hb)
    have hp : isP m t = true := (isL_of (by simpa [lawS] using hal)).1
    rw [show codeP1 m t = 0 by unfold codeP1; rw [if_pos hp]] at this
    exact this)
  have e : (if lawS [(m, A, c, t)] = true then (0 : Int) else 1) = codeL1 m t := by simp [lawS, codeL1]
  rw [e] at h
  exact h
theorem codeL2_any (g : Nat) (m : Int) (A : Option Addr) (c : Nat) (t : List (List Int)) (m' : Int) (A' : Option Addr) (c' : Nat) (t' : List (List Int)) (w : World) (hz : szT t ≤ 1048576) (hz' : szT t' ≤ 1048576) (hr : RP w A t) (hr' : RP w A' t') (hx : Box4 w g m A t.length c m' A' t'.length c') :
    Calls Tryz.prog 38 #[.slice (some ⟨g, 0, none⟩) 2 2] w fun e w' => e = .returned (.int .i64 (codeL2 m t m' t')) ∧ Below w.heap.size w w' := by
  have h := codeOfLaws_any g [(m, A, c, t), (m', A', c', t')] (if m = m' ∧ t.length = t'.length then 0 else 2) w (PLs.two hx hr hr' hz hz') (by simp) (fun hal W0 hb => by
    have := codeOfPlanes2_any g m A c t m' A' c' t' W0 hz hz' (hr.below hb) (hr'.below hb) (hx.keep hb)
    have hal' : isL m t = true ∧ isL m' t' = true := by simpa [lawS] using hal
    rw [show codeP2 m t m' t' = if m = m' ∧ t.length = t'.length then 0 else 2 by unfold codeP2; rw [if_pos ⟨(isL_of hal'.1).1, (isL_of hal'.2).1⟩]] at this
    exact this)
  have e : (if lawS [(m, A, c, t), (m', A', c', t')] = true then (if m = m' ∧ t.length = t'.length then (0 : Int) else 2) else 1) = codeL2 m t m' t' := by simp [lawS, codeL2]
  rw [e] at h
  exact h
/-- the code of a law and series -/
def codeLw (m : Int) (t : List (List Int)) (xs : List (Int × Option Addr × Nat × List Int)) : Int := if isL m t = true then (if allS xs = true then (if alkS m t.length xs = true ∧ curS xs = true then 0 else 2) else 1) else 1
theorem codeLw_of {m : Int} {t : List (List Int)} {xs : List (Int × Option Addr × Nat × List Int)} (h : isL m t = true) : codeLw m t xs = if codeLC (isP m t) m t.length xs = 5 then 2 else codeLC (isP m t) m t.length xs := by
  unfold codeLw codeLC codeL
  rw [if_pos h, (isL_of h).1]
  by_cases h1 : allS xs = true
  · simp only [h1, and_self, if_true]
    by_cases h2 : alkS m t.length xs = true
    · by_cases h3 : curS xs = true
      · simp [h2, h3]
      · simp [h2, h3]
    · simp [h2]
  · simp [h1]
end Go.Proofs.YtfhdgcndiljjcaaGreatDoor

/- Contracts of the law of a plane, its lines and sums. -/
namespace Go.Proofs.YtfhdgcndiljjcaaGreatDoor
open Go.RowKit Go.WideShapes Go.ChangeShapes Go.ChangeAt

/-- a plane's box and a law's variable -/
theorem pro_law (w : World) (m : Int) (A : Option Addr) (n c : Nat) : ∃ W, (w.alloc (.cells #[.int .i64 m, .slice A n c] 28)).alloc (.cells #[.int .i64 0, .int .i64 0, .slice none 0 0] 65) = W ∧
    Box W w.heap.size m A n c ∧ VarC 65 W (w.heap.size + 1) #[.int .i64 0, .int .i64 0, .slice none 0 0] ∧ Below w.heap.size w W := by
  refine ⟨_, rfl, (Box.newT _ _ _ _ _ _).keep (below_one _ _), ?_, below_alloc _ (below_one _ _)⟩
  have := VarC.new 65 (w.alloc (.cells #[.int .i64 m, .slice A n c] 28)) #[.int .i64 0, .int .i64 0, .slice none 0 0]
  simpa using this
set_option maxHeartbeats 2000000 in
set_option maxRecDepth 100000 in
theorem lawOf_nat (m : Int) (A : Option Addr) (n c d : Nat) (w : World) (hn : n = d + 1) (hd : d ≤ 1000) :
    Calls Tryz.prog 39 #[.agg #[.int .i64 m, .slice A n c]] w fun e w' => e = .returned (.agg #[.int .i64 m, .int .i64 d, .slice A n c]) ∧ Below w.heap.size w w' := by
  obtain ⟨W, hW, b1, v2, hwb⟩ := pro_law w m A n c
  have B1 := Lib.hid b1
  have V2 := Lib.hid v2
  have HB := Lib.hid hwb
  have HW := Lib.hid hW
  have HG := Lib.hid (fun W0 => gridOf_nat m A n c d W0 hn hd)
  clear b1 v2 hwb hW hn
  obtain ⟨x1, x2, x3⟩ := B1.out
  go_enter Tryz.func39, Tryz.ntmps39
  go_wp2_with fail
  rw [HW.out]
  refine (HG.out _).mono ?_
  rintro e w1 ⟨rfl, hb1⟩
  have hv := V2.out.keep hb1
  obtain ⟨q0, q1, q2, q3, q4, q5⟩ := hv.tells3
  have hs := hv.set3 (.int .i64 m) (.int .i64 d) (.slice A n c)
  obtain ⟨f0, f1, f2, -⟩ := hs.tells3
  have F4 := Lib.hid (below_set3 (below_step HB.out hb1) (show w.heap.size ≤ w.heap.size + 1 by omega) (.int .i64 m) (.int .i64 d) (.slice A n c))
  unfold set3 at f0 f1 f2 F4
  clear hv hs hb1 x1 x2 x3
  go_wp2
  exact bodyPost_ret (v := .agg #[.int .i64 m, .int .i64 d, .slice A n c]) (by simp [results, Tryz.results39, go_sem, f0, f1, f2]) rfl ⟨rfl, F4.out⟩
/-- a law's box and a series' variable -/
theorem pro_lawS (w : World) (m : Int) (d : Nat) (A : Option Addr) (n c : Nat) : ∃ W, (w.alloc (.cells #[.int .i64 m, .int .i64 d, .slice A n c] 65)).alloc (.cells #[.int .i64 0, .slice none 0 0] 71) = W ∧
    GBox W w.heap.size m d A n c ∧ VarC 71 W (w.heap.size + 1) #[.int .i64 0, .slice none 0 0] ∧ Below w.heap.size w W := by
  refine ⟨_, rfl, (GBox.new _ _ _ _ _ _ _).keep (below_one _ _), ?_, below_alloc _ (below_one _ _)⟩
  have := VarC.new 71 (w.alloc (.cells #[.int .i64 m, .int .i64 d, .slice A n c] 65)) #[.int .i64 0, .slice none 0 0]
  simpa using this
set_option maxHeartbeats 2000000 in
set_option maxRecDepth 100000 in
theorem line_any (m : Int) (d : Nat) (A : Option Addr) (n c : Nat) (u : Int) (w : World) (m1 : 2 ≤ m) (m2 : m ≤ 10000) (hd : d ≤ 10) (h1 : 0 ≤ u) (h2 : u ≤ 1) :
    Calls Tryz.prog 59 #[.agg #[.int .i64 m, .int .i64 d, .slice A n c], .int .i64 u] w fun e w' => ∃ v, e = .returned (.agg #[.int .i64 m, v]) ∧ OwnI w' w.heap.size v (Pl.lin m d u) ∧ Below w.heap.size w w' := by
  obtain ⟨W, hW, b1, v2, hwb⟩ := pro_lawS w m d A n c
  have B1 := Lib.hid b1
  have V2 := Lib.hid v2
  have HB := Lib.hid hwb
  have HW := Lib.hid hW
  have HM := Lib.hid (fun W0 => monomial_any m d 1 u W0 (by omega) m2 (by omega) (by omega) (by omega))
  obtain ⟨R, hR⟩ : ∃ R, Pl.lin m d u = R := ⟨_, rfl⟩
  rw [show Ser.cut m d (Ser.mon 1 u) = R from hR] at HM
  rw [hR]
  have hsz : w.heap.size + 1 < W.heap.size := v2.lt
  clear b1 v2 hwb hW hR
  obtain ⟨x1, x2, x3, x4⟩ := B1.out
  go_enter Tryz.func59, Tryz.ntmps59
  go_wp2_with fail
  rw [HW.out]
  refine (HM.out _).mono ?_
  rintro e w1 ⟨v, rfl, ho, hb1⟩
  obtain ⟨A1, c1, rfl, -⟩ := ho.form
  have hv := V2.out.keep hb1
  obtain ⟨q0, q1, q2, q3⟩ := hv.tells2
  obtain ⟨f0, f1, f2, f3⟩ := fin_serC (w := w) hv ho hsz (by omega) (below_step HB.out hb1) (.int .i64 m) (.slice A1 R.length c1)
  have F2 := Lib.hid (OwnI.more (b' := w.heap.size) f2 (by omega))
  have F3 := Lib.hid f3
  clear f2 f3 ho hb1 hv x1 x2 x3 x4
  go_wp2
  exact bodyPost_ret (v := .agg #[.int .i64 m, .slice A1 R.length c1]) (by simp [results, Tryz.results59, go_sem, f0, f1]) rfl ⟨_, rfl, F2.out, F3.out⟩
/-- a law's box, two series' boxes, a series' variable -/
theorem pro_lawSS (w : World) (m : Int) (d : Nat) (A : Option Addr) (n c : Nat) (m1 : Int) (A1 : Option Addr) (n1 c1 : Nat) (m2 : Int) (A2 : Option Addr) (n2 c2 : Nat) :
    ∃ W, (((w.alloc (.cells #[.int .i64 m, .int .i64 d, .slice A n c] 65)).alloc (.cells #[.int .i64 m1, .slice A1 n1 c1] 71)).alloc (.cells #[.int .i64 m2, .slice A2 n2 c2] 71)).alloc (.cells #[.int .i64 0, .slice none 0 0] 71) = W ∧
    GBox W w.heap.size m d A n c ∧ Box W (w.heap.size + 1) m1 A1 n1 c1 ∧ Box W (w.heap.size + 1 + 1) m2 A2 n2 c2 ∧ VarC 71 W (w.heap.size + 1 + 1 + 1) #[.int .i64 0, .slice none 0 0] ∧ Below w.heap.size w W := by
  refine ⟨_, rfl, (((GBox.new _ _ _ _ _ _ _).keep (below_one _ _)).keep (below_one _ _)).keep (below_one _ _), ?_, ?_, ?_, below_alloc _ (below_alloc _ (below_alloc _ (below_one _ _)))⟩
  · have := ((Box.newT 71 (w.alloc (.cells #[.int .i64 m, .int .i64 d, .slice A n c] 65)) m1 A1 n1 c1).keep (below_one _ (.cells #[.int .i64 m2, .slice A2 n2 c2] 71))).keep (below_one _ (.cells #[.int .i64 0, .slice none 0 0] 71))
    simpa using this
  · have := (Box.newT 71 ((w.alloc (.cells #[.int .i64 m, .int .i64 d, .slice A n c] 65)).alloc (.cells #[.int .i64 m1, .slice A1 n1 c1] 71)) m2 A2 n2 c2).keep (below_one _ (.cells #[.int .i64 0, .slice none 0 0] 71))
    simpa using this
  · have := VarC.new 71 (((w.alloc (.cells #[.int .i64 m, .int .i64 d, .slice A n c] 65)).alloc (.cells #[.int .i64 m1, .slice A1 n1 c1] 71)).alloc (.cells #[.int .i64 m2, .slice A2 n2 c2] 71)) #[.int .i64 0, .slice none 0 0]
    simpa using this
set_option maxHeartbeats 4000000 in
set_option maxRecDepth 100000 in
theorem sum_any (m : Int) (d : Nat) (A : Option Addr) (c : Nat) (t : List (List Int)) (A1 : Option Addr) (c1 : Nat) (l1 : List Int) (A2 : Option Addr) (c2 : Nat) (l2 : List Int) (w : World) (hs : Pl.Ok m d t) (s1 : SerOk m d l1) (s2 : SerOk m d l2) (z1 : Ser.co l1 0 = 0) (z2 : Ser.co l2 0 = 0) (hr : RP w A t) (hr1 : RI w A1 l1) (hr2 : RI w A2 l2) :
    Calls Tryz.prog 74 #[.agg #[.int .i64 m, .int .i64 d, .slice A t.length c], .agg #[.int .i64 m, .slice A1 l1.length c1], .agg #[.int .i64 m, .slice A2 l2.length c2]] w fun e w' => ∃ v, e = .returned (.agg #[.int .i64 m, v]) ∧ OwnI w' w.heap.size v (Pl.putL m d (Pl.pc t) l1 l2) ∧ Below w.heap.size w w' := by
  obtain ⟨W, hW, b1, b2, b3, v4, hwb⟩ := pro_lawSS w m d A t.length c m A1 l1.length c1 m A2 l2.length c2
  have B1 := Lib.hid b1
  have B2 := Lib.hid b2
  have B3 := Lib.hid b3
  have V4 := Lib.hid v4
  have HB := Lib.hid hwb
  have HW := Lib.hid hW
  have HP := Lib.hid (withCurves_any m d A c t A1 c1 l1 A2 c2 l2 W hs s1 s2 z1 z2 (hr.below hwb) (hr1.below hwb) (hr2.below hwb))
  have HD := Lib.hid (fun (W0 : World) (A0 : Option Addr) (c0 : Nat) (h : RP W0 A0 (Pl.botT m d (Pl.pc t) l1 l2)) => by
    have := diagonal_any m d A0 c0 (Pl.botT m d (Pl.pc t) l1 l2) W0 (hs.tab _) h
    rw [show Ser.cut m d (diaF (Pl.botT m d (Pl.pc t) l1 l2)) = Pl.putL m d (Pl.pc t) l1 l2 from Pl.diag_cut m d (Pl.pc t) l1 l2] at this
    exact this)
  obtain ⟨T, hT⟩ : ∃ T, Pl.botT m d (Pl.pc t) l1 l2 = T := ⟨_, rfl⟩
  obtain ⟨R, hR⟩ : ∃ R, Pl.putL m d (Pl.pc t) l1 l2 = R := ⟨_, rfl⟩
  rw [hT] at HP HD
  rw [hR] at HD ⊢
  obtain ⟨L, hL⟩ : ∃ L, t.length = L := ⟨_, rfl⟩
  obtain ⟨n1, hn1⟩ : ∃ L, l1.length = L := ⟨_, rfl⟩
  obtain ⟨n2, hn2⟩ : ∃ L, l2.length = L := ⟨_, rfl⟩
  rw [hL] at HP HW B1 ⊢
  rw [hn1] at HP HW B2 ⊢
  rw [hn2] at HP HW B3 ⊢
  have hsz : w.heap.size + 1 + 1 + 1 < W.heap.size := v4.lt
  clear b1 b2 b3 v4 hwb hW hr hr1 hr2 hs s1 s2 z1 z2 hT hR hL hn1 hn2
  obtain ⟨x1, x2, x3, x4⟩ := B1.out
  obtain ⟨y1, y2, -⟩ := B2.out
  obtain ⟨y3, y4, -⟩ := B3.out
  go_enter Tryz.func74, Tryz.ntmps74
  go_wp2_with fail
  rw [HW.out]
  refine HP.out.mono ?_
  rintro e w1 ⟨v1, rfl, ho1, hb1⟩
  obtain ⟨A3, c3, rfl, -⟩ := ho1.len
  clear x1 x2 x3 x4 y1 y2 y3 y4
  go_wp2_with fail
  refine (HD.out _ _ _ ho1.rp).mono ?_
  rintro e w2 ⟨v2, rfl, ho2, hb2⟩
  obtain ⟨A4, c4, rfl, -⟩ := ho2.form
  have hb := below_step hb1 hb2
  have hv := V4.out.keep hb
  obtain ⟨q0, q1, q2, q3⟩ := hv.tells2
  have hsz1 := hb1.size
  obtain ⟨f0, f1, f2, f3⟩ := fin_serC (w := w) hv ho2 (by omega) (by omega) (below_step HB.out hb) (.int .i64 m) (.slice A4 R.length c4)
  have F2 := Lib.hid (OwnI.more (b' := w.heap.size) f2 (by omega))
  have F3 := Lib.hid f3
  clear f2 f3 ho1 ho2 hb1 hb2 hb hv
  go_wp2
  exact bodyPost_ret (v := .agg #[.int .i64 m, .slice A4 R.length c4]) (by simp [results, Tryz.results74, go_sem, f0, f1]) rfl ⟨_, rfl, F2.out, F3.out⟩
end Go.Proofs.YtfhdgcndiljjcaaGreatDoor

/- Plain facts of laws: their rows, lines and inverses. -/
namespace Go.Proofs.YtfhdgcndiljjcaaGreatDoor
open Go.RowKit Go.WideShapes Go.ChangeShapes Go.ChangeAt

namespace Pl
theorem fau_parts {m : Int} {d : Nat} {F : Nat → Nat → Int} (h : fau m d F = none) : fauP d F = none ∧ fauS d F = none := by
  unfold fau at h
  cases h1 : fauP d F with
  | some x => rw [h1] at h; cases h
  | none =>
    rw [h1, orE_none] at h
    cases h2 : fauS d F with
    | some x => rw [h2] at h; cases h
    | none => exact ⟨rfl, rfl⟩
theorem norm_law {m : Int} {d : Nat} {t : List (List Int)} (h : fau m d (pc t) = none) (hs : Ok m d t) : Norm d (pc t) := norm_of (fau_parts h).1 (fau_parts h).2 (fun i j hij => hs.over i j hij)
theorem lin_ok {m : Int} {d : Nat} (m1 : 2 ≤ m) (m2 : m ≤ 10000) (d1 : 1 ≤ d) (d2 : d ≤ 10) (u : Int) : SerOk m d (lin m d u) := ⟨m1, m2, d1, d2, Ser.cut_length _ _ _, Ser.cut_red (by omega) _ _⟩
theorem lin_zero (m : Int) (d : Nat) (u : Int) : Ser.co (lin m d u) 0 = 0 := by
  unfold lin
  rw [Ser.co_cut (Nat.zero_le _)]
  unfold Ser.mon
  simp
theorem invP_ok {m : Int} {d : Nat} (m1 : 2 ≤ m) (m2 : m ≤ 10000) (d1 : 1 ≤ d) (d2 : d ≤ 10) (F : Nat → Nat → Int) (n : Nat) : SerOk m d (invP m d F n) := ⟨m1, m2, d1, d2, invP_length _ _ _ _, invP_red (by omega) _ _ _⟩
end Pl
end Go.Proofs.YtfhdgcndiljjcaaGreatDoor

/- A region that draws its order, and whose last operation stores into what the others load: a condition on the world that holds till then. -/
namespace Go.Proofs.YtfhdgcndiljjcaaGreatDoor
open Go

section
variable {P : Program} {ops : Array Oper} {Q : Exit → Act → World → Prop} {md : Region.Mode} {S : World → Prop} {n : Nat}

/-- in whatever order; S holds behind every operation but number n -/
def wpTill (P : Program) (md : Region.Mode) (ops : Array Oper) (Q : Exit → Act → World → Prop) (S : World → Prop) (n : Nat) : Nat → Array Bool → Act → World → Prop
  | 0, listed, a, w => Region.ready md ops listed = [] ∧ Q .normal a w
  | fuel + 1, listed, a, w => (Region.ready md ops listed = [] → Q .normal a w) ∧
    ∀ i ∈ Region.ready md ops listed, wpOp P ops Q i (fun a' w' => (i ≠ n → S w') ∧ wpTill P md ops Q S n fuel (listed.setIfInBounds i true) a' w') a w
theorem any_of_till : ∀ (fuel : Nat) (listed : Array Bool) (a : Act) (w : World), wpTill P md ops Q S n fuel listed a w → wpAny P md ops Q fuel listed a w
  | 0, _, _, _, h => h
  | fuel + 1, _, _, _, h => ⟨h.1, fun i hi => wpOp_mono (fun a' w' k => any_of_till fuel _ a' w' k.2) (h.2 i hi)⟩
/-- what is listed cannot be waited for by what may come up -/
theorem no_wait {i : Nat} {listed : Array Bool} {oj : Oper} (hr : i ∈ Region.ready md ops listed) (hall : ∀ e ∈ oj.after, Region.binds md e = true → listed.getD e.on false = true) :
    ∀ e ∈ oj.after, Region.binds md e = true → e.on ≠ i := by
  intro e he hb heq
  have h1 := hall e he hb
  have h0 := (mem_ready.1 hr).1
  rw [heq] at h1
  by_cases h : i < listed.size
  · simp [h] at h0 h1
    rw [h0] at h1
    exact absurd h1 (by decide)
  · simp [Array.getElem?_eq_none (Nat.le_of_not_lt h)] at h1
/-- an operation that yields v in every world of S may be taken first, if number n waits for it -/
theorem till_first {i : Nat} {oi : Oper} {v : Value} (hi : ops[i]? = some oi) (hsel : ∀ (j : Nat) (o : Oper) cs b, ops[j]? = some o → o.op ≠ .select cs b)
    (hQ : ∀ c a w, Q (.panic c) (a.put oi.dst v) w → Q (.panic c) a w) (hn : ∀ on, ops[n]? = some on → ∃ e ∈ on.after, Region.binds md e = true ∧ e.on = i) :
    ∀ (fuel : Nat) (listed : Array Bool) (a : Act) (w : World),
      (∀ j oj, ops[j]? = some oj → j ≠ i → listed.getD j true = false → (∀ e ∈ oj.after, Region.binds md e = true → e.on ≠ i) → oi.apart ops oj = true) →
      i ∈ Region.ready md ops listed → YieldsIf P ops S oi v a → S w →
      wpTill P md ops Q S n fuel (listed.setIfInBounds i true) (a.put oi.dst v) w → wpTill P md ops Q S n (fuel + 1) listed a w := by
  intro fuel
  induction fuel with
  | zero =>
    intro listed a w _ hr hy hS H
    refine ⟨fun e => (by rw [e] at hr; cases hr), fun j hj => ?_⟩
    by_cases hji : j = i
    · subst hji
      exact hy.wpOp hi hS ⟨fun _ => hS, H⟩
    · have hk := ready_mono hj hji
      rw [H.1] at hk
      cases hk
  | succ fuel ih =>
    intro listed a w hfree hr hy hS H
    refine ⟨fun e => (by rw [e] at hr; cases hr), fun j hj => ?_⟩
    by_cases hji : j = i
    · subst hji
      exact hy.wpOp hi hS ⟨fun _ => hS, H⟩
    · obtain ⟨hun, oj, hoj, hall⟩ := mem_ready.1 hj
      have hnot := no_wait hr hall
      have hjn : j ≠ n := by
        rintro rfl
        obtain ⟨e, he, hb, heq⟩ := hn oj hoj
        exact hnot e he hb heq
      have k2 := wpOp_putIf hoj (hfree j oj hoj hji hun hnot) (fun cs b => hsel i oi cs b hi) (fun cs b => hsel j oj cs b hoj) hQ hy (H.2 j (ready_mono hj hji))
      have hfree' : ∀ k ok, ops[k]? = some ok → k ≠ i → (listed.setIfInBounds j true).getD k true = false →
          (∀ e ∈ ok.after, Region.binds md e = true → e.on ≠ i) → oi.apart ops ok = true := by
        intro k ok hk hki hu hno
        refine hfree k ok hk hki ?_ hno
        by_cases hjk : j = k
        · subst hjk; exact hun
        · rw [getD_set_ne true hjk] at hu; exact hu
      refine wpOp_mono (fun a' w' k3 => ⟨fun _ => k3.2.1 hjn, ih (listed.setIfInBounds j true) a' w' hfree' (ready_mono hr (Ne.symm hji)) k3.1 (k3.2.1 hjn) ?_⟩) k2
      rw [Array.setIfInBounds_comm _ _ hji]
      exact k3.2.2
/-- number n waits for number i -/
def waitB (md : Region.Mode) (ops : Array Oper) (n i : Nat) : Bool := ((ops[n]?).map fun o => o.after.any fun e => Region.binds md e && e.on == i).getD true
theorem till_take {i : Nat} {oi : Oper} {dst : Option Tmp} (v : Value) {fuel : Nat} {listed : Array Bool} {a : Act} {w : World} (hi : ops[i]? = some oi) (hd : oi.dst = dst) (hs : Region.noSelect ops = true) (hf : Region.free md ops listed i = true)
    (hr : (Region.ready md ops listed).contains i = true) (hw : waitB md ops n i = true) (hQ : ∀ c a w, Q (.panic c) (a.put dst v) w → Q (.panic c) a w) (hy : YieldsIf P ops S oi v a) (hS : S w)
    (h : wpTill P md ops Q S n fuel (listed.setIfInBounds i true) (a.put dst v) w) : wpTill P md ops Q S n (fuel + 1) listed a w := by
  subst hd
  refine till_first hi (Region.noSelect_spec hs) hQ (fun on ho => ?_) fuel listed a w (Region.free_spec hi hf) (by simpa using hr) hy hS h
  unfold waitB at hw
  rw [ho] at hw
  obtain ⟨e, he, k⟩ := Array.any_eq_true'.1 (show (on.after.any fun e => Region.binds md e && e.on == i) = true from hw)
  rw [Bool.and_eq_true] at k
  exact ⟨e, he, k.1, by simpa using k.2⟩
/-- one operation alone may come up -/
theorem till_one {i : Nat} {o : Oper} {fuel : Nat} {listed : Array Bool} {a : Act} {w : World} (hr : Region.ready md ops listed = [i]) (ho : ops[i]? = some o)
    (h : ∀ K : Act → World → Prop, Shut (∀ a w, (i ≠ n → S w) → wpTill P md ops Q S n fuel (listed.setIfInBounds i true) a w → K a w) → if Region.wanted o (yielded ops a.tmps) = true then Oper.wp P o a w K Q else K (a.put o.dst undef) w) :
    wpTill P md ops Q S n (fuel + 1) listed a w := by
  refine ⟨fun e => (by rw [e] at hr; cases hr), fun j hj => ?_⟩
  rw [hr] at hj
  obtain rfl : j = i := by simpa using hj
  exact wpOp_step ho (fun K hK => h K (fun a w hS hW => hK a w ⟨hS, hW⟩))
theorem till_done {fuel : Nat} {listed : Array Bool} {a : Act} {w : World} (hr : Region.ready md ops listed = []) (h : Q .normal a w) : wpTill P md ops Q S n fuel listed a w := by
  cases fuel with
  | zero => exact ⟨hr, h⟩
  | succ f => exact ⟨fun _ => h, by rw [hr]; simp⟩
theorem region_till {id : Nat} {a : Act} {w : World} (S : World → Prop) (n : Nat) (hm : P.follows .mixedOrders = true) (h : wpTill P .any ops Q S n ops.size (Array.replicate ops.size false) a w.drew) : (Code.region id ops true).wp P Q a w :=
  wp_region_any hm (any_of_till _ _ _ _ h)
end
end Go.Proofs.YtfhdgcndiljjcaaGreatDoor

/- Contract of the inverse of a law, of the program. -/
namespace Go.Proofs.YtfhdgcndiljjcaaGreatDoor
open Go.RowKit Go.WideShapes Go.ChangeShapes Go.ChangeAt

theorem law_keep {W wr W0 : World} {g G : Nat} {m : Int} {d : Nat} {A : Option Addr} {n c : Nat} {x y : Value} (h1 : GBox W g m d A n c) (h2 : Var2 wr G x y) (hb : Below W.heap.size W wr) (h : Below wr.heap.size wr W0) :
    (W0.cell? ⟨g, 0, none⟩ = some (.int .i64 m) ∧ W0.cell? ⟨g, 1, none⟩ = some (.int .i64 d) ∧ W0.cell? ⟨g, 2, none⟩ = some (.slice A n c)) ∧ W0.cell? ⟨G, 0, none⟩ = some x ∧ W0.cell? ⟨G, 1, none⟩ = some y := by
  obtain ⟨a, b, e, -⟩ := h1.keep (below_step hb h)
  exact ⟨⟨a, b, e⟩, (h2.keep h).c0, (h2.keep h).c1⟩
def cv (w : World) (p : Addr) : Value := (w.cell? p).getD undef
theorem cv_some {w : World} {p : Addr} {x : Value} (h : w.cell? p = some x) : w.cell? p = some (cv w p) := by simp [cv, h]
theorem cv_eq {w : World} {p : Addr} {x : Value} (h : w.cell? p = some x) : cv w p = x := by simp [cv, h]
/-- what the walk keeps: the variable holds something, the law's box holds the law -/
theorem lk_S {w' : World} {g G : Nat} {x0 x1 y0 y1 y2 : Value} (h : (w'.cell? ⟨g, 0, none⟩ = some y0 ∧ w'.cell? ⟨g, 1, none⟩ = some y1 ∧ w'.cell? ⟨g, 2, none⟩ = some y2) ∧ w'.cell? ⟨G, 0, none⟩ = some x0 ∧ w'.cell? ⟨G, 1, none⟩ = some x1) :
    (w'.cell? ⟨G, 0, none⟩ = some (cv w' ⟨G, 0, none⟩) ∧ w'.cell? ⟨G, 1, none⟩ = some (cv w' ⟨G, 1, none⟩)) ∧ (w'.cell? ⟨g, 0, none⟩ = some y0 ∧ w'.cell? ⟨g, 1, none⟩ = some y1 ∧ w'.cell? ⟨g, 2, none⟩ = some y2) :=
  ⟨⟨cv_some h.2.1, cv_some h.2.2⟩, h.1⟩
theorem lk_set {w : World} {g G : Nat} {x y u v y0 y1 y2 : Value} (hv : Var2 w G x y) (h : w.cell? ⟨g, 0, none⟩ = some y0 ∧ w.cell? ⟨g, 1, none⟩ = some y1 ∧ w.cell? ⟨g, 2, none⟩ = some y2) (hne : G ≠ g) :
    let w' := (w.setCell ⟨G, 0, none⟩ u).setCell ⟨G, 1, none⟩ v
    (w'.cell? ⟨G, 0, none⟩ = some (cv w' ⟨G, 0, none⟩) ∧ w'.cell? ⟨G, 1, none⟩ = some (cv w' ⟨G, 1, none⟩)) ∧ (w'.cell? ⟨g, 0, none⟩ = some y0 ∧ w'.cell? ⟨g, 1, none⟩ = some y1 ∧ w'.cell? ⟨g, 2, none⟩ = some y2) := by
  have h2 := hv.set2 u v
  have far : ∀ (i : Nat) (z : Value), w.cell? ⟨g, i, none⟩ = some z → ((w.setCell ⟨G, 0, none⟩ u).setCell ⟨G, 1, none⟩ v).cell? ⟨g, i, none⟩ = some z := fun i z hz => by
    rw [World.cell?_setCell_other _ _ _ _ (by intro e; injection e with e; exact hne e), World.cell?_setCell_other _ _ _ _ (by intro e; injection e with e; exact hne e)]
    exact hz
  exact ⟨⟨cv_some h2.c0, cv_some h2.c1⟩, far 0 _ h.1, far 1 _ h.2.1, far 2 _ h.2.2⟩
set_option maxHeartbeats 16000000 in
set_option maxRecDepth 100000 in
theorem inverseL_any (m : Int) (d : Nat) (A : Option Addr) (c : Nat) (t : List (List Int)) (w : World) (hs : Pl.Ok m d t) (hf : Pl.fau m d (Pl.pc t) = none) (hr : RP w A t) :
    Calls Tryz.prog 95 #[.agg #[.int .i64 m, .int .i64 d, .slice A t.length c]] w fun e w' => ∃ v, e = .returned (.agg #[.int .i64 m, v]) ∧ OwnI w' w.heap.size v (Pl.invP m d (Pl.pc t) d) ∧ Below w.heap.size w w' := by
  obtain ⟨W, hW, b1, v2, hwb⟩ := pro_lawS w m d A t.length c
  have B1 := Lib.hid b1
  have V2 := Lib.hid v2
  have HB := Lib.hid hwb
  have HW := Lib.hid hW
  have m1 := hs.m1
  have m2 := hs.m2
  have hd1 := hs.d1
  have hd2 := hs.d2
  have hN := Pl.norm_law hf hs
  have HL0 := Lib.hid (fun W0 => line_any m d A t.length c 0 W0 m1 m2 hd2 (by omega) (by omega))
  have HL1 := Lib.hid (fun W0 => line_any m d A t.length c 1 W0 m1 m2 hd2 (by omega) (by omega))
  have hsu := fun (k : Nat) (A1 : Option Addr) (c1 : Nat) (A2 : Option Addr) (c2 : Nat) (W0 : World) (h : Below W.heap.size W W0) (h1 : RI W0 A1 (Pl.lin m d 1)) (h2 : RI W0 A2 (Pl.invP m d (Pl.pc t) k)) =>
    sum_any m d A c t A1 c1 (Pl.lin m d 1) A2 c2 (Pl.invP m d (Pl.pc t) k) W0 hs (Pl.lin_ok m1 m2 hd1 hd2 1) (Pl.invP_ok m1 m2 hd1 hd2 _ k) (Pl.lin_zero m d 1) (Pl.invP_curve (by omega) hN k) ((hr.below hwb).below h) h1 h2
  have HSU := Lib.hid hsu
  have HSC := Lib.hid (fun (k : Nat) (A1 : Option Addr) (c1 : Nat) (W0 : World) (h1 : RI W0 A1 (Pl.putL m d (Pl.pc t) (Pl.lin m d 1) (Pl.invP m d (Pl.pc t) k))) =>
    scaled_any m d A1 c1 (Pl.putL m d (Pl.pc t) (Pl.lin m d 1) (Pl.invP m d (Pl.pc t) k)) (-1) W0 ⟨m1, m2, hd1, hd2, Pl.putL_length _ _ _ _ _, Ser.cut_red (by omega) _ _⟩ h1 (by omega) (by omega))
  have HPL := Lib.hid (fun (k : Nat) (A1 : Option Addr) (c1 : Nat) (A2 : Option Addr) (c2 : Nat) (W0 : World) (h1 : RI W0 A1 (Pl.invP m d (Pl.pc t) k)) (h2 : RI W0 A2 (scaL m d (Pl.putL m d (Pl.pc t) (Pl.lin m d 1) (Pl.invP m d (Pl.pc t) k)) (-1))) =>
    plus_any m d A1 c1 (Pl.invP m d (Pl.pc t) k) m A2 c2 (scaL m d (Pl.putL m d (Pl.pc t) (Pl.lin m d 1) (Pl.invP m d (Pl.pc t) k)) (-1)) W0 (Pl.invP_ok m1 m2 hd1 hd2 _ k) ⟨m1, m2, hd1, hd2, Ser.cut_length _ _ _, Ser.cut_red (by omega) _ _⟩ h1 h2)
  obtain ⟨F, hF⟩ : ∃ F, Pl.pc t = F := ⟨_, rfl⟩
  rw [hF] at HSU HSC HPL ⊢
  obtain ⟨L, hL⟩ : ∃ L, t.length = L := ⟨_, rfl⟩
  rw [hL] at HL0 HL1 HSU HW B1 ⊢
  have hsz : w.heap.size + 1 < W.heap.size := v2.lt
  clear b1 v2 hwb hW hr hs hf hN hsu hF hL
  obtain ⟨x1, x2, x3, x4⟩ := B1.out
  go_enter Tryz.func95, Tryz.ntmps95
  go_wp2_with fail
  rw [HW.out]
  refine (HL0.out _).mono ?_
  rintro e w1 ⟨v, rfl, ho, hb1⟩
  obtain ⟨A1, c1, rfl, -⟩ := ho.form
  have hl0 : (Pl.lin m d 0).length = d + 1 := Ser.cut_length _ _ _
  rw [hl0] at ho ⊢
  have HO := Lib.hid ((ho.keep (below_one w1 (.cells #[.int .i64 m, .slice A1 (d + 1) c1] 71))))
  have HV := Lib.hid (Var2.new w1 (.int .i64 m) (.slice A1 (d + 1) c1))
  have HB1 := Lib.hid (below_alloc (.cells #[.int .i64 m, .slice A1 (d + 1) c1] 71) hb1)
  have HZ1 := Lib.hid hb1.size
  obtain ⟨X, hX⟩ : ∃ X, w1.alloc (.cells #[.int .i64 m, .slice A1 (d + 1) c1] 71) = X := ⟨_, rfl⟩
  rw [hX] at HO HV HB1
  have HX := Lib.hid hX
  clear ho hb1 x1 x2 x3 x4 hX hl0
  obtain ⟨x1, x2, x3, x4⟩ := B1.out.keep HB1.out
  rw [← HX.out] at x1 x2 x3
  go_wp2
  rw [HX.out]
  clear x1 x2 x3 x4 HX
  obtain ⟨G, hG⟩ : ∃ G, w1.heap.size = G := ⟨_, rfl⟩
  rw [hG] at HV HZ1 ⊢
  clear hG
  go_loopw [10] (fun q wr => ∃ (k : Nat) (A2 : Option Addr) (c2 : Nat), k ≤ d ∧ q = .int .i64 k ∧ Var2 wr G (.int .i64 m) (.slice A2 (d + 1) c2) ∧ OwnI wr W.heap.size (.slice A2 (d + 1) c2) (Pl.invP m d F k) ∧ Below W.heap.size W wr) (fun q _ => d - (intOf q).toNat)
  case atStart => exact ⟨0, A1, c1, Nat.zero_le _, rfl, HV.out, HO.out, HB1.out⟩
  case round =>
    clear HV HO HB1
    obtain ⟨k, A2, c2, hk, rfl, hv, ho, hbel⟩ := hrel
    have HVV := Lib.hid hv
    have HOO := Lib.hid ho
    have HBE := Lib.hid hbel
    clear ho hbel
    by_cases hkd : k < d
    · obtain ⟨x1, x2, x3, x4⟩ := B1.out.keep HBE.out
      obtain ⟨y1, y2⟩ := (⟨hv.c0, hv.c1⟩ : _ ∧ _)
      have HS1 := Lib.hid (fun (Aa : Option Addr) (ca : Nat) (W0 : World) (h : Below wr.heap.size wr W0) (h1 : RI W0 Aa (Pl.lin m d 1)) => by
        have := HSU.out k Aa ca A2 c2 W0 (below_step HBE.out h) h1 (HOO.out.keep h).ri
        rw [Pl.invP_length] at this
        exact this)
      have HC1 := Lib.hid (fun (Aa : Option Addr) (ca : Nat) (W0 : World) (h1 : RI W0 Aa (Pl.putL m d F (Pl.lin m d 1) (Pl.invP m d F k))) => HSC.out k Aa ca W0 h1)
      have HP1 := Lib.hid (fun (Aa : Option Addr) (ca : Nat) (W0 : World) (h : Below wr.heap.size wr W0) (h1 : RI W0 Aa (scaL m d (Pl.putL m d F (Pl.lin m d 1) (Pl.invP m d F k)) (-1))) => by
        have := HPL.out k A2 c2 Aa ca W0 (HOO.out.keep h).ri h1
        rw [Pl.invP_length] at this
        exact this)
      have hnx : (Ser.cut m d fun n => Ser.co (Pl.invP m d F k) n + Ser.co (scaL m d (Pl.putL m d F (Pl.lin m d 1) (Pl.invP m d F k)) (-1)) n) = Pl.invP m d F (k + 1) := rfl
      rw [hnx] at HP1
      have hnl := Pl.invP_length m d F (k + 1)
      obtain ⟨PN, hPN⟩ : ∃ P, Pl.invP m d F (k + 1) = P := ⟨_, rfl⟩
      rw [hPN] at HP1 hnl
      have HPN := Lib.hid hPN
      have HNL := Lib.hid hnl
      obtain ⟨PL, hPL⟩ : ∃ P, Pl.putL m d F (Pl.lin m d 1) (Pl.invP m d F k) = P := ⟨_, rfl⟩
      rw [hPL] at HS1 HC1 HP1
      obtain ⟨PS, hPS⟩ : ∃ P, scaL m d PL (-1) = P := ⟨_, rfl⟩
      rw [hPS] at HC1 HP1
      obtain ⟨P1, hP1⟩ : ∃ P, Pl.lin m d 1 = P := ⟨_, rfl⟩
      have HLL := HL1
      rw [hP1] at HS1 HLL
      have j1 : (k : Int) < (d : Int) := by omega
      clear hv hnx hnl hPN hPL hPS hP1 HSU HSC HPL HL0 hk HOO
      have HK := Lib.hid (fun W0 (h : Below wr.heap.size wr W0) => law_keep B1.out HVV.out HBE.out h)
      clear B1 HL1
      obtain ⟨⟨a1, a2, a3⟩, a4, a5⟩ := HK.out _ (below_drew0 wr)
      have hS0 : (wr.drew.cell? ⟨w.heap.size, 0, none⟩ = some (.int .i64 m) ∧ wr.drew.cell? ⟨w.heap.size, 1, none⟩ = some (.int .i64 d) ∧ wr.drew.cell? ⟨w.heap.size, 2, none⟩ = some (.slice A L c)) ∧ wr.drew.cell? ⟨G, 0, none⟩ = some (.int .i64 m) ∧ wr.drew.cell? ⟨G, 1, none⟩ = some (.slice A2 (d + 1) c2) := ⟨⟨a1, a2, a3⟩, a4, a5⟩
      have HS0 := Lib.hid hS0
      have hGw : G ≠ w.heap.size := by have := HZ1.out; omega
      clear hS0 a1 a2 a3 a4 a5
      go_wp2
      clear hGw
      refine region_till (fun w' => (w'.cell? ⟨w.heap.size, 0, none⟩ = some (.int .i64 m) ∧ w'.cell? ⟨w.heap.size, 1, none⟩ = some (.int .i64 d) ∧ w'.cell? ⟨w.heap.size, 2, none⟩ = some (.slice A L c)) ∧ w'.cell? ⟨G, 0, none⟩ = some (.int .i64 m) ∧ w'.cell? ⟨G, 1, none⟩ = some (.slice A2 (d + 1) c2)) 8 (by kernel_rfl) ?_
      refine till_take (i := 0) (dst := some 12) (.agg #[.int .i64 m, .slice A2 (d + 1) c2]) rfl rfl (by kernel_rfl) (by kernel_rfl) (by kernel_rfl) (by kernel_rfl) (fun _ _ _ h => h) (Or.inl ⟨by rfl, ?_⟩) HS0.out ?_
      · rintro w' ⟨⟨a1, a2, a3⟩, a4, a5⟩
        go_simp
      simp only [Act.put, List.setIfInBounds_toArray, List.set_cons_zero, List.set_cons_succ]
      refine till_take (i := 1) (dst := some 13) (.agg #[.int .i64 m, .int .i64 d, .slice A L c]) rfl rfl (by kernel_rfl) (by kernel_rfl) (by kernel_rfl) (by kernel_rfl) (fun _ _ _ h => h) (Or.inl ⟨by rfl, ?_⟩) HS0.out ?_
      · rintro w' ⟨⟨a1, a2, a3⟩, a4, a5⟩
        go_simp
      simp only [Act.put, List.setIfInBounds_toArray, List.set_cons_zero, List.set_cons_succ]
      refine till_take (i := 2) (dst := some 14) (.agg #[.int .i64 m, .int .i64 d, .slice A L c]) rfl rfl (by kernel_rfl) (by kernel_rfl) (by kernel_rfl) (by kernel_rfl) (fun _ _ _ h => h) (Or.inl ⟨by rfl, ?_⟩) HS0.out ?_
      · rintro w' ⟨⟨a1, a2, a3⟩, a4, a5⟩
        go_simp
      simp only [Act.put, List.setIfInBounds_toArray, List.set_cons_zero, List.set_cons_succ]
      refine till_take (i := 4) (dst := some 16) (.agg #[.int .i64 m, .slice A2 (d + 1) c2]) rfl rfl (by kernel_rfl) (by kernel_rfl) (by kernel_rfl) (by kernel_rfl) (fun _ _ _ h => h) (Or.inl ⟨by rfl, ?_⟩) HS0.out ?_
      · rintro w' ⟨⟨a1, a2, a3⟩, a4, a5⟩
        go_simp
      simp only [Act.put, List.setIfInBounds_toArray, List.set_cons_zero, List.set_cons_succ]
      refine till_one (i := 3) (by kernel_rfl) rfl (fun K hK => ?_)
      go_simp
      (go_at_call 59; with_reducible refine Calls.mono (HLL.out _) ?_; rintro e w2 ⟨v2, rfl, ho2, hb2⟩; obtain ⟨A3, c3, rfl, -⟩ := ho2.form; have b2 := below_step (below_drew0 wr) hb2)
      dsimp only
      refine hK.out _ _ (fun _ => HK.out _ b2) ?_
      clear hK K
      try simp only [Act.put, List.setIfInBounds_toArray, List.set_cons_zero, List.set_cons_succ]
      refine till_one (i := 5) (by kernel_rfl) rfl (fun K hK => ?_)
      go_simp
      (go_at_call 74; with_reducible refine Calls.mono (HS1.out _ _ _ b2 ho2.ri) ?_; rintro e w3 ⟨v3, rfl, ho3, hb3⟩; obtain ⟨A4, c4, rfl, -⟩ := ho3.form; have b3 := below_step b2 hb3)
      dsimp only
      refine hK.out _ _ (fun _ => HK.out _ b3) ?_
      clear hK K
      try simp only [Act.put, List.setIfInBounds_toArray, List.set_cons_zero, List.set_cons_succ]
      refine till_one (i := 6) (by kernel_rfl) rfl (fun K hK => ?_)
      go_simp
      (go_at_call 109; with_reducible refine Calls.mono (HC1.out _ _ _ ho3.ri) ?_; rintro e w4 ⟨v4, rfl, ho4, hb4⟩; obtain ⟨A5, c5, rfl, -⟩ := ho4.form; have b4 := below_step b3 hb4)
      dsimp only
      refine hK.out _ _ (fun _ => HK.out _ b4) ?_
      clear hK K
      try simp only [Act.put, List.setIfInBounds_toArray, List.set_cons_zero, List.set_cons_succ]
      refine till_one (i := 7) (by kernel_rfl) rfl (fun K hK => ?_)
      go_simp
      (go_at_call 108; with_reducible refine Calls.mono (HP1.out _ _ _ b4 ho4.ri) ?_; rintro e w5 ⟨v5, rfl, ho5, hb5⟩; obtain ⟨A6, c6, rfl, -⟩ := ho5.form; rw [HNL.out] at ho5 ⊢; have b5 := below_step b4 hb5; have hv5 := HVV.out.keep b5; have z1 := hv5.c0; have z2 := hv5.c1; have z3 := hv5.fz 0; have z4 := hv5.fz 1)
      dsimp only
      refine hK.out _ _ (fun _ => HK.out _ b5) ?_
      clear hK K
      try simp only [Act.put, List.setIfInBounds_toArray, List.set_cons_zero, List.set_cons_succ]
      refine till_one (i := 8) (by kernel_rfl) rfl (fun K hK => ?_)
      go_simp
      refine hK.out _ _ (fun hne => absurd rfl hne) ?_
      clear hK K
      refine till_done (by kernel_rfl) ?_
      have K1 := Lib.hid (hv5.set2 (.int .i64 m) (.slice A6 (d + 1) c6))
      have K2 := Lib.hid ((ho5.set2 hv5 (.int .i64 m) (.slice A6 (d + 1) c6)).more (show W.heap.size ≤ w4.heap.size from (below_step HBE.out b4).size))
      have K3 := Lib.hid (below_set2 (below_step HBE.out b5) (show W.heap.size ≤ G from HZ1.out) (.int .i64 m) (.slice A6 (d + 1) c6))
      clear hv5 ho5 ho4 ho3 ho2 b2 b3 b4 b5 hb2 hb3 hb4 hb5 z1 z2 z3 z4
      go_wp2
      go_roundw
      case rel => exact ⟨k + 1, A6, c6, by omega, by go_num, K1.out, by rw [HPN.out]; exact K2.out, K3.out⟩
      case measure => simp only [intOf]; omega
    · obtain rfl : k = d := by omega
      have q0 := hv.c0
      have q1 := hv.c1
      have hvr := V2.out.keep HBE.out
      obtain ⟨q2, q3, q4, q5⟩ := hvr.tells2
      obtain ⟨f0, f1, f2, f3⟩ := fin_serC (w := w) hvr (HOO.out) hsz (by omega) (below_step HB.out HBE.out) (.int .i64 m) (.slice A2 (k + 1) c2)
      have F2 := Lib.hid (OwnI.more (b' := w.heap.size) f2 (by omega))
      have F3 := Lib.hid f3
      clear f2 f3 hvr hv
      go_wp2
      exact bodyPost_ret (v := .agg #[.int .i64 m, .slice A2 (k + 1) c2]) (by simp [results, Tryz.results95, go_sem, f0, f1]) rfl ⟨_, rfl, F2.out, F3.out⟩
end Go.Proofs.YtfhdgcndiljjcaaGreatDoor

/- Contracts of the model's tables of a law: a list shorter than its degree put upon a plane; columns; the code of a law. -/
namespace Go.Proofs.YtfhdgcndiljjcaaGreatDoor
open Go.RowKit Go.WideShapes Go.ChangeShapes Go.ChangeAt

set_option maxHeartbeats 8000000 in
set_option maxRecDepth 100000 in
theorem l03AfterQ_any (m : Int) (d : Nat) (A : Option Addr) (c : Nat) (l : List Int) (A' : Option Addr) (c' : Nat) (t : List (List Int)) (w : World) (hn : l.length ≤ d + 1) (hred : Ser.Red m l) (hs' : Pl.Ok m d t) (hr : RI w A l) (hr' : RP w A' t) :
    Calls Tryz.prog 78 #[.int .i64 m, .slice A l.length c, .slice A' t.length c'] w fun e w' => ∃ v, e = .returned v ∧ OwnR w' w.heap.size w'.heap.size v (Pl.horq m d l (Pl.pc t) l.length) ∧ Below w.heap.size w w' := by
  have HR := Lib.hid hr
  have HR' := Lib.hid hr'
  have HRED := Lib.hid hred
  have HS' := Lib.hid hs'
  have hd2 := hs'.d2
  have m1 := hs'.m1
  have m2 := hs'.m2
  have hm0 : ¬ m = 0 := by omega
  have HZ := Lib.hid (l03Zero_any m d w (by omega))
  have HT := Lib.hid (fun (k : Nat) (A1 : Option Addr) (c1 : Nat) (W0 : World) (h : RP W0 A1 (Pl.horq m d l (Pl.pc t) k)) (h' : RP W0 A' t) => by
    have := l03Times_any m d A1 c1 (Pl.horq m d l (Pl.pc t) k) A' c' t W0 (Pl.horq_ok m1 m2 hs'.d1 hd2 l _ k) hs' h h'
    rw [Pl.horq_length] at this
    exact this)
  have hst0 := fun k => Pl.horq_step (m := m) (d := d) l (Pl.pc t) k
  obtain ⟨L, hL⟩ : ∃ L, l.length = L := ⟨_, rfl⟩
  rw [hL] at hst0 hn
  have HST0 := Lib.hid hst0
  obtain ⟨L', hL'⟩ : ∃ L, t.length = L := ⟨_, rfl⟩
  have hLd' : (L' : Int) - 1 = (d : Int) := by have := hs'.len; omega
  have hLb : L ≤ 11 := by omega
  rw [hL'] at HT
  rw [hL, hL']
  have HL := Lib.hid hL
  clear hr hr' hs' hL hL' hred hst0
  go_enter Tryz.func78, Tryz.ntmps78
  go_wp2_with fail
  refine HZ.out.mono ?_
  rintro e w1 ⟨v, rfl, ho, hb⟩
  obtain ⟨A0, c0, rfl, -⟩ := ho.len
  rw [Pl.tab_length] at ho ⊢
  have HO1 := Lib.hid (show OwnR w1 w.heap.size w1.heap.size (.slice A0 (d + 1) c0) (Pl.horq m d l (Pl.pc t) 0) from ho)
  have HB1 := Lib.hid hb
  clear ho hb
  go_wp2
  go_loopw [7, 8] (fun s7 s8 wr => ∃ (k t0 : Nat) (I : Int) (A1 : Option Addr) (c1 : Nat), k + t0 = L ∧ I = (t0 : Int) - 1 ∧ s8 = .int .i64 I ∧ s7 = .slice A1 (d + 1) c1 ∧ OwnR wr w.heap.size wr.heap.size (.slice A1 (d + 1) c1) (Pl.horq m d l (Pl.pc t) k) ∧ Below w.heap.size w wr) (fun _ s8 _ => (intOf s8 + 1).toNat)
  case atStart => exact ⟨0, L, _, A0, c0, by omega, rfl, by first | rfl | go_num, rfl, HO1.out, HB1.out⟩
  case round =>
    clear HO1 HB1
    obtain ⟨k, t0, I, A1, c1, hkt, hI, rfl, rfl, hown, hbel⟩ := hrel
    have HB := Lib.hid hbel
    have HO := Lib.hid hown
    clear hown hbel
    rcases t0 with _ | i
    · obtain rfl : k = L := by omega
      obtain rfl : I = -1 := by omega
      clear hI hkt
      go_wp2
      go_ret
      exact ⟨_, rfl, HO.out, HB.out⟩
    · obtain rfl : I = (i : Int) := by omega
      have hik : L - 1 - k = i := by omega
      have hiL : i < L := by omega
      have HTK := Lib.hid (HT.out k A1 c1 wr (by obtain ⟨_, _, e, h⟩ := HO.out.len; injection e with e1 e2 e3; subst e1; exact h) (HR'.out.below HB.out))
      have hst := HST0.out k
      rw [hik] at hst
      obtain ⟨F, hF⟩ : ∃ F, Pl.mul2 (Pl.pc (Pl.horq m d l (Pl.pc t) k)) (Pl.pc t) = F := ⟨_, rfl⟩
      rw [hF] at HTK hst
      have HST := Lib.hid hst
      have HKT := Lib.hid hkt
      clear hI hst hF hik hkt
      go_wp2_with fail
      refine HTK.out.mono ?_
      rintro e w3 ⟨v3, rfl, ho3, hb3⟩
      obtain ⟨g, cv, rfl⟩ := ho3.openv (by rw [Pl.tab_length]; omega)
      rw [Pl.tab_length] at ho3 ⊢
      obtain ⟨b4, c4, h1, h2, h3, h4, hcel⟩ := ho3.numB 0 0 (d + 1) (by rw [Pl.tab_length]; omega) (by rw [Pl.tab_row m d _ 0 (by omega), Ser.cut_length]; omega) (by omega)
      obtain ⟨a4, -, -, -⟩ := hcel w3 (Below.refl _ _)
      obtain ⟨k4, k5, k6, k7⟩ := hcel w3.drew (below_drew0 w3)
      obtain ⟨b', off', rfl, hbb', hci⟩ := HR.out.at i (by have := HL.out; omega)
      have hc := ((below_step HB.out hb3).cell (p := ⟨b', off' + i, none⟩) hbb').trans hci
      have hst := HST.out
      obtain ⟨Z, hZ⟩ : ∃ Z, Ser.co l i = Z := ⟨_, rfl⟩
      have hzb := HRED.out i
      have hyb := (HS'.out.tab F).pc 0 0
      obtain ⟨Y, hY⟩ : ∃ Y, Pl.pc (Pl.tab m d F) 0 0 = Y := ⟨_, rfl⟩
      rw [hZ] at hc hst hzb
      rw [hY] at hst hyb k5
      have h8 := k7 ((Y + Z) % m)
      rw [hst] at h8
      have hwr := HB.out.size
      have HO2 := Lib.hid ((h8.low hwr).more (show w3.heap.size ≤ (w3.drew.setCell ⟨b4, 0, none⟩ (.int .i64 ((Y + Z) % m))).heap.size by show w3.heap.size ≤ (w3.heap.modify _ _).size; simp))
      have HB2 := Lib.hid ((below_step HB.out hb3).drew.setCell (p := ⟨b4, 0, none⟩) (Nat.le_trans hwr h2) (.int .i64 ((Y + Z) % m)))
      have p2 : IntKind.i64.wrap (Y + Z) = Y + Z := by rw [IntKind.wrap_i64]; omega
      have p3 : 0 ≤ Y + Z := by omega
      have p4 : (0 : Int) < (d : Int) + 1 := by omega
      have p5 : (0 : Int) ≤ (i : Int) := by omega
      have p6 : (i : Int) < (L : Int) := by omega
      clear hiL
      clear hcel k4 k7 h8 hst hzb hyb hZ hY hbb' hci ho3 hb3 h1 h2 h3 h4 hwr
      go_wp2
      go_still_tail 12, (by kernel_rfl)
      change wpList _ _ _ _ _ w3.drew
      go_wp2
      go_roundw
      case rel => exact ⟨k + 1, i, _, _, cv, by have := HKT.out; omega, rfl, by first | rfl | go_num, rfl, HO2.out, HB2.out⟩
      case measure => simp only [intOf]; omega
end Go.Proofs.YtfhdgcndiljjcaaGreatDoor

