/- Texts of contracts, joined. -/
import Derived.Test.YtakdmnecllcmnaaMgam
import Derived.Test.YtakdmnecllcmnaaMgai
import Derived.Test.YtakdmnecllcmnaaMgar
import Derived.Test.YtakdmnecllcmnaaMgab
/- Contracts of CoordinatePlane, of the program and of the model. -/
namespace Go.Proofs.Ytakdmnecllcmnaa
open Go.RowKit Go.WideShapes Go.ChangeShapes Go.ChangeAt

/-- the table of a coordinate -/
def corT (m : Int) (d : Nat) (k : Int) : List (List Int) := Pl.tab m d (gosF (Ser.cut m d (Ser.mon 1 1)) k)
/-- the model of CoordinatePlane -/
def corP (m d k : Int) : Int × List (List Int) × Int :=
  if isM m = true then (if inB d 1 10 = true ∧ inB k 0 1 = true then (m, corT m d.toNat k, 0) else (0, [], 2)) else (0, [], 1)
theorem corP_len (m d k : Int) : szT (corP m d k).2.1 ≤ 1048576 := by
  unfold corP
  by_cases hm : isM m = true
  · rw [if_pos hm]
    obtain ⟨m1, m2⟩ := (isM_iff m).1 hm
    by_cases h : inB d 1 10 = true ∧ inB k 0 1 = true
    · rw [if_pos h]
      obtain ⟨d1, d2⟩ := (inB_iff _ _ _).1 h.1
      exact szT_ok (Pl.Ok.of_tab m1 m2 (by omega) (by omega) _)
    · rw [if_neg h]; exact Nat.zero_le _
  · rw [if_neg hm]; exact Nat.zero_le _
theorem var0 (w : World) : ∃ W, w.alloc (.cells #[.int .i64 0, .slice none 0 0] 38) = W ∧ VarC 38 W w.heap.size #[.int .i64 0, .slice none 0 0] ∧ Below w.heap.size w W :=
  ⟨_, rfl, VarC.new _ _ _, below_one _ _⟩
end Go.Proofs.Ytakdmnecllcmnaa

/- Contracts of LazardCocycle, of the program and of the model. -/
namespace Go.Proofs.Ytakdmnecllcmnaa
open Go.RowKit Go.WideShapes Go.ChangeShapes Go.ChangeAt

theorem lazP_len (m n : Int) : szT (lazP m n).2.1 ≤ 1048576 := by
  unfold lazP
  by_cases hm : isM m = true
  · rw [if_pos hm]
    by_cases hn : inB n 2 10 = true
    · rw [if_pos hn]
      obtain ⟨m1, m2⟩ := (isM_iff m).1 hm
      obtain ⟨n1, n2⟩ := (inB_iff _ _ _).1 hn
      exact szT_ok (Pl.Ok.of_tab m1 m2 (show 1 ≤ n.toNat by omega) (by omega) _)
    · rw [if_neg hn]; exact Nat.zero_le _
  · rw [if_neg hm]; exact Nat.zero_le _
set_option maxHeartbeats 8000000 in
set_option maxRecDepth 100000 in
theorem l07Cocycle_any (m : Int) (n : Nat) (w : World) (m1 : 2 ≤ m) (m2 : m ≤ 10000) (n1 : 2 ≤ n) (n2 : n ≤ 10) :
    Calls Try.prog 93 #[.int .i64 m, .int .i64 n] w fun e w' => ∃ v, e = .returned v ∧ OwnR w' w.heap.size w'.heap.size v (lazT m n) ∧ Below w.heap.size w w' := by
  have HZ := Lib.hid (fun W0 => l03Zero_any m n W0 (by omega))
  have hlz := fun W0 => l01Lazard_any (n : Int) W0 (by omega) (by omega)
  rw [show ((n : Int).toNat - 1) = n - 1 by omega] at hlz
  obtain ⟨D, hD⟩ : ∃ D, lz (n : Int) (n - 1) = D := ⟨_, rfl⟩
  have hDp : 0 < D := by rw [← hD]; exact lz_pos _ (by omega) (by omega)
  have hDb := (lz_bd (n := (n : Int)) (by omega) (n - 1) (by omega)).2
  rw [hD] at hlz hDb
  have HLZ := Lib.hid hlz
  have HF := Lib.hid (fun k (h0 : 0 < k) (h : k < n) => by have := layF_mid h0 h; rw [hD] at this; exact this)
  have hD0 : ¬ D = 0 := by omega
  have hD1 : ¬ D = -1 := by omega
  have hm0 : ¬ m = 0 := by omega
  have hm1 : ¬ m = -1 := by omega
  clear hlz hD
  go_enter Try.func93, Try.ntmps93
  go_wp2_with fail
  refine (HZ.out _).mono ?_
  rintro e w1 ⟨v, rfl, ho, hb1⟩
  rw [← lazQ_one m n] at ho
  obtain ⟨g, cv, rfl⟩ := ho.openv (by rw [Pl.tab_length]; omega)
  rw [Pl.tab_length] at ho ⊢
  go_wp2_with fail
  refine (HLZ.out _).mono ?_
  rintro e w2 ⟨rfl, hb2⟩
  have HO1 := Lib.hid ((ho.keep hb2).more hb2.size)
  have HB1 := Lib.hid (below_step hb1 hb2)
  clear ho hb1 hb2
  go_wp2
  go_loopw [7] (fun i wr => ∃ q : Nat, 1 ≤ q ∧ q ≤ n ∧ i = .int .i64 q ∧ OwnR wr w.heap.size wr.heap.size (.slice (some ⟨g, 0, none⟩) (n + 1) cv) (Pl.tab m n (lazQ n q)) ∧ Below w.heap.size w wr) (fun i _ => n + 2 - (intOf i).toNat)
  case atStart => exact ⟨1, Nat.le_refl _, by omega, rfl, HO1.out, HB1.out⟩
  case round =>
    clear HO1 HB1
    obtain ⟨q, hq1, hq, rfl, hown, hbel⟩ := hrel
    have HO := Lib.hid hown
    have HB := Lib.hid hbel
    clear hown hbel
    by_cases hlt : q < n
    · have hst := lazQ_step (m := m) (n := n) (k := q) hlt
      have hf := HF.out q (by omega) hlt
      rw [hf] at hst
      obtain ⟨q1, q2⟩ := binI_bd (n := (n : Int)) (k := (q : Int)) (by omega)
      have HC := Lib.hid (fun W0 => l01Binomial_any (n : Int) (q : Int) W0 (by omega) (by omega) (by omega) (by omega))
      obtain ⟨X, hX⟩ : ∃ X, binI (n : Int) (q : Int) = X := ⟨_, rfl⟩
      rw [hX] at HC q1 q2 hst
      have hq : 0 ≤ X.tdiv D ∧ X.tdiv D ≤ X := by
        rw [Int.tdiv_eq_ediv_of_nonneg q1]
        exact ⟨Int.ediv_nonneg q1 (by omega), Int.ediv_le_self _ q1⟩
      obtain ⟨Y, hY⟩ : ∃ Y, X.tdiv D = Y := ⟨_, rfl⟩
      rw [hY] at hq hst
      obtain ⟨Z, hZ⟩ : ∃ Z, Y % m = Z := ⟨_, rfl⟩
      have hZ2 : Y.tmod m = Z := by rw [Int.tmod_eq_emod_of_nonneg hq.1]; exact hZ
      rw [hZ] at hst
      obtain ⟨r, hr⟩ : ∃ r, n - q = r := ⟨_, rfl⟩
      have hr2 : (n : Int) - (q : Int) = (r : Int) := by omega
      obtain ⟨b2, c2, g1, g2, g3, g4, hcel⟩ := HO.out.numB q r (n - q + 1) (by rw [Pl.tab_length]; omega) (by rw [Pl.tab_row m n _ q (by omega), Ser.cut_length]) (by omega)
      rw [hr] at hst hcel
      obtain ⟨M, hM⟩ : ∃ M, r + 1 = M := ⟨_, rfl⟩
      obtain ⟨c4, -, -, -⟩ := hcel wr (Below.refl _ _)
      rw [hM] at c4
      have i0 : (0 : Int) ≤ (q : Int) := by omega
      have i1 : (q : Int) < (n : Int) := by omega
      have i2 : (q : Int) < (n : Int) + 1 := by omega
      have i3 : (r : Int) < (M : Int) := by omega
      have i4 : (0 : Int) ≤ (r : Int) := by omega
      have HCEL := Lib.hid hcel
      have HST := Lib.hid hst
      clear hst hcel hf hX hZ hr hM g1 g3 g4
      go_wp2_with fail
      refine (HC.out _).mono ?_
      rintro e w3 ⟨rfl, hb3⟩
      obtain ⟨c5, c6, c7, c8⟩ := HCEL.out w3 (hb3.mono (Nat.le_refl _))
      have h8 := c8 Z
      rw [HST.out] at h8
      have HO3 := Lib.hid (h8.more (show wr.heap.size ≤ (w3.setCell ⟨b2, r, none⟩ (.int .i64 Z)).heap.size by have := hb3.size; simp [World.setCell]; omega))
      have HB3 := Lib.hid ((below_step HB.out hb3).setCell (p := ⟨b2, r, none⟩) (by show w.heap.size ≤ b2; omega) (.int .i64 Z))
      clear h8 c8 c5 hb3
      go_wp2
      go_roundw
      case rel => exact ⟨q + 1, by omega, hlt, by go_num, HO3.out, HB3.out⟩
      case measure => simp only [intOf]; omega
    · obtain rfl : q = n := by omega
      have i1 : ¬ ((q : Int) < (q : Int)) := by omega
      have HSE := Lib.hid (lazQ_end m q)
      go_wp2
      go_ret
      exact ⟨_, rfl, by unfold lazT; rw [← HSE.out]; exact HO.out, HB.out⟩
end Go.Proofs.Ytakdmnecllcmnaa

/- Contracts of the model's IsCocycle and CocycleFactor. -/
namespace Go.Proofs.Ytakdmnecllcmnaa
open Go.RowKit Go.WideShapes Go.ChangeShapes Go.ChangeAt

theorem fits_eq {m q F P : Int} (m1 : 2 ≤ m) (q0 : 0 ≤ q) (p0 : 0 ≤ P) (p1 : P < m) : (q * (F % m)).tmod m = P ↔ (q * F - P) % m = 0 := by
  have h0 : 0 ≤ q * (F % m) := Int.mul_nonneg q0 (Int.emod_nonneg _ (by omega))
  rw [Int.tmod_eq_emod_of_nonneg h0, Int.mul_emod, Int.emod_emod, ← Int.mul_emod, ← Int.emod_eq_emod_iff_emod_sub_eq_zero, Int.emod_eq_of_lt p0 p1]
set_option maxHeartbeats 16000000 in
set_option maxRecDepth 100000 in
theorem l07Factor_any (m : Int) (d : Nat) (A : Option Addr) (c : Nat) (t : List (List Int)) (w : World) (d1 : 2 ≤ d) (ok : Pl.Ok m d t) (hr : RP w A t) (hso : (Cyc.facO m (layC m t d) d).isSome = true) :
    Calls Try.prog 51 #[.int .i64 m, .slice A t.length c] w fun e w' => e = .returned (.int .i64 (Cyc.facM m (layC m t d) d)) ∧ Below w.heap.size w w' := by
  have m1 := ok.m1
  have m2 := ok.m2
  have hd2 := ok.d2
  have HZ := Lib.hid (fun W0 => l07Cocycle_any m d W0 m1 m2 d1 hd2)
  have okl : Pl.Ok m d (lazT m d) := Pl.Ok.of_tab m1 m2 (by omega) hd2 _
  obtain ⟨b, off, rfl⟩ := hr.some (by rw [ok.len]; omega)
  have HNUM := Lib.hid (rp_num_in hr ok)
  have HPC := Lib.hid (fun i j => ok.pc i j)
  have HLC := Lib.hid (fun i (hi : i ≤ d) => layC_co ok d i hi)
  have HFF := Lib.hid (fun q (h0 : 0 ≤ q) (hf : Cyc.Fits m (layC m t d) d q) hn => Cyc.facM_first m1 m2 h0 hf hn)
  have HFN := Lib.hid (show (∀ c' : Int, 0 ≤ c' → c' < m → ¬ Cyc.Fits m (layC m t d) d c') → False from fun hn => by
    obtain ⟨X, hX⟩ := Option.isSome_iff_exists.1 hso
    obtain ⟨b1, b2, b3, -⟩ := Cyc.facO_some m1 m2 hX
    exact hn _ b1 b2 b3)
  obtain ⟨R, hR⟩ : ∃ R, Cyc.facM m (layC m t d) d = R := ⟨_, rfl⟩
  rw [hR] at HFF ⊢
  have HFT := Lib.hid (show ∀ q : Int, Cyc.Fits m (layC m t d) d q ↔ ∀ i, i ≤ d → (q * layF d i - Pl.pc t i (d - i)) % m = 0 from fun q => by
    unfold Cyc.Fits
    exact ⟨fun h i hi => by have := h i hi; rwa [layC_co ok d i hi] at this, fun h i hi => by rw [layC_co ok d i hi]; exact h i hi⟩)
  obtain ⟨F, hF⟩ : ∃ F, Cyc.Fits m (layC m t d) d = F := ⟨_, rfl⟩
  rw [hF] at HFF HFN HFT
  have hlt := ok.len
  obtain ⟨L, hL⟩ : ∃ L, t.length = L := ⟨_, rfl⟩
  have HLd := Lib.hid (hL.symm.trans hlt)
  rw [hL] at hlt ⊢
  subst hlt
  obtain ⟨N, hN⟩ : ∃ N : Nat, (N : Int) = m := ⟨m.toNat, by omega⟩
  clear hr hR hF hL ok hso
  go_enter Try.func51, Try.ntmps51
  go_wp2_with fail
  refine (HZ.out _).mono ?_
  rintro e w1 ⟨v, rfl, ho, hb1⟩
  have hll : (lazT m d).length = d + 1 := okl.len
  obtain ⟨g, cv, rfl⟩ := ho.openv (by rw [hll]; omega)
  rw [hll] at ho ⊢
  have HNL := Lib.hid (rp_num_in ho.rp okl)
  have HPL := Lib.hid (fun i (hi : i ≤ d) => (by
    unfold lazT
    rw [Pl.pc_tab (by omega)]
    unfold ofLay
    rw [if_neg (by omega)] : Pl.pc (lazT m d) i (d - i) = layF d i % m))
  have HB1 := Lib.hid hb1
  have hm0 : ¬ m = 0 := by omega
  have hm1 : ¬ m = -1 := by omega
  clear ho hb1 okl hll HZ
  go_wp2
  go_loopw [7] (fun s7 wr => ∃ q : Nat, (q : Int) ≤ m ∧ s7 = .int .i64 q ∧ (∀ c' : Int, 0 ≤ c' → c' < q → ¬ F c') ∧ Below w1.heap.size w1 wr) (fun s7 _ => N + 2 - (intOf s7).toNat)
  case atStart => exact ⟨0, by omega, rfl, fun c' h h' => absurd h' (by omega), Below.refl _ _⟩
  case round =>
    obtain ⟨q, hq, rfl, hno, hbel⟩ := hrel
    have HNO := Lib.hid hno
    have HB := Lib.hid hbel
    clear hno hbel
    by_cases hltq : (q : Int) < m
    · obtain ⟨w5, hw5⟩ : ∃ x, x = wr := ⟨_, rfl⟩
      subst hw5
      go_wp2
      go_loopw [8, 9] (fun s8 s9 wq => ∃ (i : Nat) (bb : Bool), i ≤ d + 1 ∧ s9 = .int .i64 i ∧ s8 = .bool bb ∧ (bb = true → ∀ i', i' < i → ((q : Int) * layF d i' - Pl.pc t i' (d - i')) % m = 0) ∧ (bb = false → ¬ F (q : Int)) ∧ Below w1.heap.size w1 wq) (fun _ s9 _ => d + 2 - (intOf s9).toNat)
      case atStart => exact ⟨0, true, by omega, rfl, rfl, fun _ i' h => absurd h (by omega), fun h => (by cases h), HB.out⟩
      case round =>
        clear HB
        obtain ⟨i, bb, hi, rfl, rfl, hy, hn, hbq⟩ := hrel
        have HY := Lib.hid hy
        have HN := Lib.hid hn
        have HQ := Lib.hid hbq
        clear hy hn hbq
        cases bb with
        | true =>
          by_cases hlti : i < d + 1
          · have i1 : (i : Int) ≤ (d : Int) := by omega
            obtain ⟨b1, off1, c1, n1, hn1, z1, z2⟩ := HNUM.out i (d - i) wr (by omega) (below_step HB1.out HQ.out)
            obtain ⟨b2, off2, c2, n2, hn2, z3, z4⟩ := HNL.out i (d - i) wr (by omega) HQ.out
            rw [HPL.out i (by omega)] at z4
            simp only [Nat.zero_add] at z3
            have p1 := HPC.out i (d - i)
            have i2 : (d : Int) - (i : Int) < (n1 : Int) := by omega
            have i3 : (d : Int) - (i : Int) < (n2 : Int) := by omega
            have i4 : (0 : Int) ≤ (d : Int) - (i : Int) := by omega
            have i5 : ((d : Int) - (i : Int)).toNat = d - i := by omega
            have i6 : (0 : Int) ≤ (i : Int) := by omega
            have i7 : (i : Int) < (d : Int) + 1 := by omega
            have i8 : IntKind.i64.wrap ((d : Int) - (i : Int)) = (d : Int) - (i : Int) := by rw [IntKind.wrap_i64]; omega
            have heq := fits_eq (F := layF d i) m1 (show (0 : Int) ≤ (q : Int) by omega) p1.1 p1.2
            have r1 : 0 ≤ layF d i % m ∧ layF d i % m < m := ⟨Int.emod_nonneg _ hm0, Int.emod_lt_of_pos _ (by omega)⟩
            obtain ⟨P, hP⟩ : ∃ P, Pl.pc t i (d - i) = P := ⟨_, rfl⟩
            obtain ⟨C, hC⟩ : ∃ C, layF d i % m = C := ⟨_, rfl⟩
            have hst : ((q : Int) * C).tmod m = P ↔ ((q : Int) * layF d i - Pl.pc t i (d - i)) % m = 0 := by rw [← hC, ← hP]; exact heq
            have HST := Lib.hid hst
            rw [hP] at z2 p1
            rw [hC] at z4 r1
            have u1 : 0 ≤ (q : Int) * C ∧ (q : Int) * C ≤ 100000000 := ⟨Int.mul_nonneg (show (0 : Int) ≤ (q : Int) by omega) r1.1, by have := Int.mul_le_mul (show (q : Int) ≤ 10000 by omega) (show C ≤ 10000 by omega) r1.1 (by omega); omega⟩
            obtain ⟨U, hU⟩ : ∃ U, (q : Int) * C = U := ⟨_, rfl⟩
            rw [hU] at u1 HST
            obtain ⟨V, hV⟩ : ∃ V, U.tmod m = V := ⟨_, rfl⟩
            rw [hV] at HST
            have i9 : IntKind.i64.wrap U = U := by rw [IntKind.wrap_i64]; omega
            clear heq hst hP hC HNUM HNL HPL hn1 hn2
            by_cases hvp : V = P
            · have HN2 := Lib.hid (fun i' (h : i' < i + 1) => (by
                by_cases e : i' = i
                · subst e; exact HST.out.1 hvp
                · exact HY.out rfl i' (by omega) : ((q : Int) * layF d i' - Pl.pc t i' (d - i')) % m = 0))
              subst hvp
              go_wp2
              go_quiet (fail)
              go_wp2
              go_roundw
              case rel => first
                | exact ⟨i + 1, true, by omega, by first | rfl | go_num, by first | rfl | simp, fun _ => HN2.out, fun h => (by cases h), below_drewN HQ.out _⟩
                | exact ⟨_, ⟨i + 1, true, by omega, by first | rfl | go_num, by first | rfl | simp, fun _ => HN2.out, fun h => (by cases h), below_drewN HQ.out _⟩, rfl⟩
              case measure => simp only [intOf]; omega
            · have k1 : (V == P) = false := by simpa using hvp
              have k2 : (V != P) = true := by simpa using hvp
              have HF0 : Hid (¬ F (q : Int)) := Lib.hid (fun h => hvp (HST.out.2 ((HFT.out q).1 h i (by omega))))
              go_wp2
              go_quiet (fail)
              go_wp2
              go_roundw
              case rel => first
                | exact ⟨i + 1, false, by omega, by first | rfl | go_num, by first | rfl | simp, fun h => (by cases h), fun _ => HF0.out, below_drewN HQ.out _⟩
                | exact ⟨_, ⟨i + 1, false, by omega, by first | rfl | go_num, by first | rfl | simp, fun h => (by cases h), fun _ => HF0.out, below_drewN HQ.out _⟩, rfl⟩
              case measure => simp only [intOf]; omega
          · obtain rfl : i = d + 1 := by omega
            have i1 : ¬ ((d : Int) + 1 ≤ (d : Int)) := by omega
            have HR0 : Hid (R = (q : Int)) := Lib.hid (HFF.out q (by omega) ((HFT.out q).2 (fun i hi => HY.out rfl i (by omega))) HNO.out)
            go_wp2
            go_ret
            exact ⟨by rw [HR0.out]; rfl, below_step HB1.out HQ.out⟩
        | false =>
          have HN2 := Lib.hid (fun (c' : Int) (h0 : 0 ≤ c') (h : c' < (q : Int) + 1) => (by
            by_cases e : c' = (q : Int)
            · subst e; exact HN.out rfl
            · exact HNO.out c' h0 (by omega) : ¬ F c'))
          by_cases hlti : i < d + 1
          · have i1 : (i : Int) ≤ (d : Int) := by omega
            go_wp2
            go_roundw
            case rel => first
              | exact ⟨q + 1, by omega, by go_num, HN2.out, HQ.out⟩
              | exact ⟨_, ⟨q + 1, by omega, by go_num, HN2.out, HQ.out⟩, rfl⟩
              | exact ⟨_, _, ⟨q + 1, by omega, by go_num, HN2.out, HQ.out⟩, rfl, rfl⟩
              | exact ⟨_, _, _, ⟨q + 1, by omega, by go_num, HN2.out, HQ.out⟩, rfl, rfl, rfl⟩
            case measure => simp only [intOf]; omega
          · obtain rfl : i = d + 1 := by omega
            have i1 : ¬ ((d : Int) + 1 ≤ (d : Int)) := by omega
            go_wp2
            go_roundw
            case rel => first
              | exact ⟨q + 1, by omega, by go_num, HN2.out, HQ.out⟩
              | exact ⟨_, ⟨q + 1, by omega, by go_num, HN2.out, HQ.out⟩, rfl⟩
              | exact ⟨_, _, ⟨q + 1, by omega, by go_num, HN2.out, HQ.out⟩, rfl, rfl⟩
              | exact ⟨_, _, _, ⟨q + 1, by omega, by go_num, HN2.out, HQ.out⟩, rfl, rfl, rfl⟩
            case measure => simp only [intOf]; omega
    · have e : (q : Int) = m := by omega
      exact (HFN.out (fun c' h0 h1 => HNO.out c' h0 (by omega))).elim
end Go.Proofs.Ytakdmnecllcmnaa

/- Contract of TypicalFactor, of the model. -/
namespace Go.Proofs.Ytakdmnecllcmnaa
open Go.RowKit Go.WideShapes Go.ChangeShapes Go.ChangeAt

theorem pow_no6 : ∀ p ∈ [2, 3, 5, 7], ∀ k ∈ List.range 4, p ^ k ≠ 6 ∧ p ^ k ≠ 10 := by decide
theorem need10 : ∀ p ∈ [2, 3, 5, 7], ∀ k ∈ List.range 4, k ≤ needN p 10 → p ^ k ≤ 10 := by decide
theorem OwnI.open0 {w : World} {base n c : Nat} {A : Option Addr} {l : List Int} (h : OwnI w base (.slice A n c) l) (hl : 0 < l.length) : ∃ g, A = some ⟨g, 0, none⟩ := by
  rcases h.2 with ⟨hv, h0⟩ | ⟨g9, cap9, cur9, hv, _⟩
  · omega
  · injection hv with hv
    exact ⟨g9, hv⟩
set_option maxHeartbeats 8000000 in
set_option maxRecDepth 100000 in
theorem sTypicalFactor_any (p m : Int) (A : Option Addr) (ca : Nat) (l : List Int) (k c : Int) (w : World) (hl : l.length ≤ 1048576) (hr : RI w A l) :
    Calls Try.prog 23 #[.int .i64 p, .int .i64 m, .slice A l.length ca, .int .i64 k, .int .i64 c] w fun e w' => e = .returned (.tuple #[.int .i64 (tfcM p m l k c).1, .int .i64 (tfcM p m l k c).2]) ∧ Below w.heap.size w w' := by
  have HC := Lib.hid (l09Code_any p m A ca l 1 w (by omega) hr)
  by_cases h0 : codeT p m l 1 = 0
  · obtain ⟨⟨hm1, hm2⟩, ha, hp, k1, k3⟩ := codeT_ok h0
    obtain ⟨P, rfl⟩ := Int.eq_ofNat_of_zero_le (show 0 ≤ p by omega)
    have hp4 : P = 2 ∨ P = 3 ∨ P = 5 ∨ P = 7 := by omega
    have HF := Lib.hid (show tfcM P m l k c = if inB c 0 (m - 1) = true ∧ inB k 1 l.length = true ∧ k ≤ needN P 10 then ((-c) % m, 0) else (0, 2) by unfold tfcM; rw [if_pos h0, Int.toNat_natCast])
    rw [h0] at HC
    by_cases hk : inB k 1 l.length = true
    · by_cases hc : inB c 0 (m - 1) = true
      · have HM := Lib.hid (fun W0 => l09Most_any P 10 W0 hp4 (by omega) (by omega))
        by_cases hkn : k ≤ needN P 10
        · have HF2 := Lib.hid (HF.out.trans (if_pos ⟨hc, hk, hkn⟩))
          rw [HF2.out]
          obtain ⟨ki1, ki2⟩ := (inB_iff _ _ _).1 hk
          obtain ⟨ci1, ci2⟩ := (inB_iff _ _ _).1 hc
          obtain ⟨K, rfl⟩ := Int.eq_ofNat_of_zero_le (show 0 ≤ k by omega)
          have hD := need10 P (in4 hp4) K (List.mem_range.2 (by omega)) (by omega)
          have hD6 := pow_no6 P (in4 hp4) K (List.mem_range.2 (by omega))
          have hD2 : 2 ≤ P ^ K := by
            have : P ^ 1 ≤ P ^ K := Nat.pow_le_pow_right (by omega) (by omega)
            rw [Nat.pow_one] at this; omega
          have hco : ∀ i, 0 ≤ Ser.co l i ∧ Ser.co l i ≤ m - 1 := fun i => by
            by_cases hi : i < l.length
            · unfold allIn at ha
              rw [List.all_eq_true] at ha
              have := ha l[i] (List.getElem_mem hi)
              unfold Ser.co
              rw [List.getElem?_eq_getElem hi]
              exact (inB_iff _ _ _).1 this
            · rw [Ser.co_over (by omega)]; omega
          obtain ⟨l', hl'⟩ : ∃ l', l.set (K - 1) ((Ser.co l (K - 1) + c) % m) = l' := ⟨_, rfl⟩
          have hl'n : l'.length = l.length := by rw [← hl', List.length_set]
          have hco' : ∀ i, Ser.co l' i = if i = K - 1 then (Ser.co l (K - 1) + c) % m else Ser.co l i := fun i => by rw [← hl', Ser.co_set (by omega)]
          have hb' : ∀ i, 0 ≤ Ser.co l' i ∧ Ser.co l' i ≤ 10000 := fun i => by
            rw [hco']; split
            · have h1 := Int.emod_nonneg (Ser.co l (K - 1) + c) (show m ≠ 0 by omega)
              have h2 := Int.emod_lt_of_pos (Ser.co l (K - 1) + c) (show 0 < m by omega)
              omega
            · have := hco i; omega
          have hgap := law_gap (p := P) (N := K) (m := m) (c := c) (v := Ser.co l) (v' := Ser.co l') hp4 hm1 hm2 (by omega) hD (fun i hi => by rw [hco', if_neg (by omega)]) (by
            rw [hco', if_pos rfl, Int.sub_emod, Int.emod_emod, ← Int.sub_emod]
            congr 1; omega)
          have hfac := facM_mul (m := m) (x := -c) (n := P ^ K) (l := layC m (gapT m (P ^ K) (lawT P m (P ^ K) (Ser.co l)) (lawT P m (P ^ K) (Ser.co l'))) (P ^ K)) hm1 hm2 hD2 hD hD6.1 hD6.2 hgap
          have HL1 := Lib.hid (fun W0 (h : RI W0 A l) => l09Law_any P m (P ^ K) A ca l W0 hp4 hm1 hm2 (by omega) hD k3 (fun i => by have := hco i; omega) h)
          have HL2 := Lib.hid (fun A1 c1 W0 (h : RI W0 A1 l') => by
            have := l09Law_any P m (P ^ K) A1 c1 l' W0 hp4 hm1 hm2 (by omega) hD (by omega) hb' h
            rw [hl'n] at this
            exact this)
          have okT := fun v => (show Pl.Ok m (P ^ K) (lawT P m (P ^ K) v) from Pl.Ok.of_tab hm1 hm2 (by omega) hD _)
          have HG := Lib.hid (fun A1 c1 A2 c2 W0 h h' => by
            have := l07Gap_any m (P ^ K) A1 c1 _ A2 c2 _ W0 (okT (Ser.co l)) (okT (Ser.co l')) h h'
            rw [(okT _).len, (okT _).len] at this
            exact this)
          have HFA := Lib.hid (fun A1 c1 W0 h => by
            have := l07Factor_any m (P ^ K) A1 c1 (gapT m (P ^ K) (lawT P m (P ^ K) (Ser.co l)) (lawT P m (P ^ K) (Ser.co l'))) W0 hD2 (Pl.Ok.of_tab hm1 hm2 (by omega) hD _) h hfac.2
            rw [hfac.1] at this
            unfold gapT at this
            rw [Pl.tab_length] at this
            exact this)
          have HOW := Lib.hid (fun W0 (h : RI W0 A l) => l01Own_all A ca l W0 (by omega) h)
          have HP4 := Lib.hid (fun j (hj : j ≤ 4) => pow4b (p := P) (by omega) hj (by omega))
          have HR := Lib.hid hr
          have hX := hco (K - 1)
          obtain ⟨X, hXX⟩ : ∃ X, Ser.co l (K - 1) = X := ⟨_, rfl⟩
          rw [hXX] at hX hl'
          have HXX := Lib.hid hXX
          have HLL := Lib.hid hl'
          have hTl := (okT (Ser.co l)).len
          have hTl' := (okT (Ser.co l')).len
          obtain ⟨T1, hT1⟩ : ∃ T, lawT P m (P ^ K) (Ser.co l) = T := ⟨_, rfl⟩
          obtain ⟨T2, hT2⟩ : ∃ T, lawT P m (P ^ K) (Ser.co l') = T := ⟨_, rfl⟩
          rw [hT1] at HL1 HG HFA hTl
          rw [hT2] at HL2 HG HFA hTl'
          have HLD := Lib.hid hTl
          have HLD' := Lib.hid hTl'
          obtain ⟨Ln, hLn⟩ : ∃ Ln, l.length = Ln := ⟨_, rfl⟩
          have HLN := Lib.hid hLn
          rw [hLn] at HC HL1 HL2 HOW hk ki2 k1 k3 ⊢
          have hcin := hc
          have hkin := hk
          have hp7 : P ≤ 7 ∧ 2 ≤ P := by omega
          obtain ⟨N, hN⟩ : ∃ N, needN P 10 = N := ⟨_, rfl⟩
          rw [hN] at HM hkn
          clear h0 ha hp hk hc HF HF2 hco hco' hb' hgap hfac okT hT1 hT2 hTl hTl' hLn hN hl' hl'n hXX hr hp4 hD6
          go_enter Try.func23, Try.ntmps23
          go_wp2_with (first
            | (go_at_call 25; refine HC.out.mono ?_; rintro e w' ⟨rfl, rfl⟩)
            | (go_at_call 49; refine (HM.out _).mono ?_; rintro e w' ⟨rfl, rfl⟩)
            | (go_at_call 50; refine (HOW.out _ HR.out).mono ?_; rintro e w1 ⟨u, rfl, ho1, hb1⟩; obtain ⟨A1, c1, hu, -⟩ := ho1.form; subst hu; rw [HLN.out] at ho1 ⊢)
            | (go_at_call 29; with_reducible refine Calls.mono (l01In_any k 1 _ _) ?_; rintro e w' ⟨rfl, rfl⟩; rw [hkin])
            | (go_at_call 29; with_reducible refine Calls.mono (l01In_any _ _ _ _) ?_; rintro e w' ⟨rfl, rfl⟩; first | rw [hkin] | rw [hcin]))
          have HO := Lib.hid ho1
          have HB1 := Lib.hid hb1
          obtain ⟨g, hg⟩ := ho1.open0 (by rw [HLN.out]; omega)
          subst hg
          obtain ⟨-, hgs, o3, o4⟩ := ho1.cells
          have hd1 := o3 (K - 1) (by rw [HLN.out]; omega)
          have hf1 := o4 (K - 1)
          change w1.cell? ⟨g, K - 1, none⟩ = some (.int .i64 (Ser.co l (K - 1))) at hd1
          rw [HXX.out] at hd1
          have hs1 := ho1.set (K - 1) ((X + c) % m)
          rw [HLL.out] at hs1
          obtain ⟨J, hJ⟩ : ∃ J, K - 1 = J := ⟨_, rfl⟩
          rw [hJ] at hd1 hf1 hs1
          have hJK : (K : Int) - 1 = (J : Int) := by omega
          have j1 : (J : Int) < (Ln : Int) := by omega
          have j2 : (0 : Int) ≤ (J : Int) := by omega
          obtain ⟨Y, hY⟩ : ∃ Y, w1.setCell ⟨g, J, none⟩ (.int .i64 ((X + c) % m)) = Y := ⟨_, rfl⟩
          rw [hY] at hs1
          have HS1 := Lib.hid hs1
          have HY := Lib.hid hY
          have hyb : Below w.heap.size w Y := by rw [← hY]; exact hb1.setCell (p := ⟨g, J, none⟩) (ho1.lt g rfl).1 _
          have HYB := Lib.hid hyb
          have hm0 : ¬ m = 0 := by omega
          clear ho1 hb1 o3 o4 hs1 hY hyb hJ HXX HLL hkin hcin
          go_loop [15, 17] (fun s15 s17 => ∃ i : Nat, i ≤ K ∧ s17 = .int .i64 i ∧ s15 = .int .i64 (P ^ i : Nat)) (fun _ s17 => K + 1 - (intOf s17).toNat)
          case atStart => exact ⟨0, Nat.zero_le _, rfl, rfl⟩
          case round =>
            obtain ⟨i, hi, rfl, rfl⟩ := hrel
            have hpi := HP4.out i (by omega)
            by_cases hlt : i < K
            · have HPS := Lib.hid (Nat.pow_succ P i)
              obtain ⟨q, hq⟩ : ∃ q, P ^ i = q := ⟨_, rfl⟩
              have HQ := Lib.hid hq
              rw [hq] at hpi ⊢
              have i1 : (i : Int) < (K : Int) := by omega
              have hkp : 0 ≤ (q : Int) * (P : Int) ∧ (q : Int) * (P : Int) ≤ 20000 := by
                refine ⟨Int.mul_nonneg (by omega) (by omega), ?_⟩
                have := Int.mul_le_mul (show (q : Int) ≤ 2401 by omega) (show (P : Int) ≤ 7 by omega) (by omega) (by omega)
                omega
              have HKP := Lib.hid (show (q : Int) * (P : Int) = ((P ^ (i + 1) : Nat) : Int) by rw [HPS.out, HQ.out, Int.natCast_mul])
              clear hq
              go_wp2
              go_round
              case rel => exact ⟨i + 1, by omega, by go_num, by rw [HKP.out]⟩
              case measure => simp only [intOf]; omega
            · obtain rfl : i = K := by omega
              obtain ⟨D, hDD⟩ : ∃ D, P ^ i = D := ⟨_, rfl⟩
              rw [hDD] at HL1 HL2 HG HFA HLD HLD' hpi hD hD2 ⊢
              have i1 : ¬ (i : Int) < (i : Int) := by omega
              clear hDD HP4 HM HC
              go_upto_region 15 with fail
              rw [HY.out]
              clear hd1 hf1 HY
              go_wp2_with fail
              refine (HL1.out _ (HR.out.below HYB.out)).mono ?_
              rintro e w2 ⟨u, rfl, ho2, hb2⟩
              obtain ⟨A2, c2, hu, -⟩ := ho2.len
              subst hu
              rw [HLD.out] at ho2 ⊢
              go_wp2_with fail
              refine (HL2.out _ _ _ (HS1.out.keep hb2).ri).mono ?_
              rintro e w3 ⟨u, rfl, ho3, hb3⟩
              obtain ⟨A3, c3, hu, -⟩ := ho3.len
              subst hu
              rw [HLD'.out] at ho3 ⊢
              go_wp2_with fail
              refine (HG.out _ _ _ _ _ (ho2.keep hb3).rp ho3.rp).mono ?_
              rintro e w4 ⟨u, rfl, ho4, hb4⟩
              obtain ⟨A4, c4, hu, -⟩ := ho4.len
              subst hu
              unfold gapT at ho4 ⊢
              rw [Pl.tab_length] at ho4 ⊢
              have hb5 := below_step (below_step (below_step HYB.out hb2) hb3) hb4
              go_wp2_with fail
              refine (HFA.out _ _ _ ho4.rp).mono ?_
              rintro e w5 ⟨rfl, hb6⟩
              have HB6 := Lib.hid (below_step hb5 hb6)
              clear ho2 ho3 ho4 hb2 hb3 hb4 hb5 hb6
              go_wp2
              go_ret2
              exact ⟨rfl, HB6.out⟩
        · have HF2 := Lib.hid (HF.out.trans (if_neg (fun h => hkn h.2.2)))
          rw [HF2.out]
          have hcin := hc
          have hkin := hk
          have hkn' : k > (needN P 10 : Int) := by omega
          clear h0 ha hp hk hc HF HF2 hr hkn
          go_enter Try.func23, Try.ntmps23
          go_wp2_with (first
            | (go_at_call 25; refine HC.out.mono ?_; rintro e w' ⟨rfl, rfl⟩)
            | (go_at_call 49; refine (HM.out _).mono ?_; rintro e w' ⟨rfl, rfl⟩)
            | (go_at_call 29; with_reducible refine Calls.mono (l01In_any k 1 _ _) ?_; rintro e w' ⟨rfl, rfl⟩; rw [hkin])
            | (go_at_call 29; with_reducible refine Calls.mono (l01In_any _ _ _ _) ?_; rintro e w' ⟨rfl, rfl⟩; first | rw [hkin] | rw [hcin]))
          go_ret2
          exact ⟨rfl, Below.refl _ _⟩
      · have HF2 := Lib.hid (HF.out.trans (if_neg (fun h => hc h.1)))
        rw [HF2.out]
        have hcin : inB c 0 (m - 1) = false := by simpa using hc
        have hkin := hk
        clear h0 ha hp hk hc HF HF2 hr
        go_enter Try.func23, Try.ntmps23
        go_wp2_with (first
          | (go_at_call 25; refine HC.out.mono ?_; rintro e w' ⟨rfl, rfl⟩)
          | (go_at_call 49; refine (HM.out _).mono ?_; rintro e w' ⟨rfl, rfl⟩)
          | (go_at_call 29; with_reducible refine Calls.mono (l01In_any k 1 _ _) ?_; rintro e w' ⟨rfl, rfl⟩; rw [hkin])
          | (go_at_call 29; with_reducible refine Calls.mono (l01In_any _ _ _ _) ?_; rintro e w' ⟨rfl, rfl⟩; first | rw [hkin] | rw [hcin]))
        go_ret2
        exact ⟨rfl, Below.refl _ _⟩
    · have HF2 := Lib.hid (HF.out.trans (if_neg (fun h => hk h.2.1)))
      rw [HF2.out]
      have hkin : inB k 1 l.length = false := by simpa using hk
      have hcin := hkin
      clear h0 ha hp hk HF HF2 hr
      go_enter Try.func23, Try.ntmps23
      go_wp2_with (first
        | (go_at_call 25; refine HC.out.mono ?_; rintro e w' ⟨rfl, rfl⟩)
        | (go_at_call 49; refine (HM.out _).mono ?_; rintro e w' ⟨rfl, rfl⟩)
        | (go_at_call 29; with_reducible refine Calls.mono (l01In_any k 1 _ _) ?_; rintro e w' ⟨rfl, rfl⟩; rw [hkin])
        | (go_at_call 29; with_reducible refine Calls.mono (l01In_any _ _ _ _) ?_; rintro e w' ⟨rfl, rfl⟩; first | rw [hkin] | rw [hcin]))
      go_ret2
      exact ⟨rfl, Below.refl _ _⟩
  · have HF := Lib.hid (show tfcM p m l k c = (0, codeT p m l 1) by unfold tfcM; rw [if_neg h0])
    rw [HF.out]
    obtain ⟨n1, n2⟩ := ne_facts h0
    clear h0 HF hr
    go_enter Try.func23, Try.ntmps23
    go_wp2_with (go_at_call 25; refine HC.out.mono ?_; rintro e w' ⟨rfl, rfl⟩)
    go_ret2
    exact ⟨rfl, Below.refl _ _⟩

end Go.Proofs.Ytakdmnecllcmnaa

